/- 6 texts of the proof: Plain facts: moving a node and back; what the tables and lists of the document's own answer make. move's small functions: within, Check, target, the closures; orangeryref.CheckOp. Slices of whatever elements in memory of the call's own; operations and steps in their cells. orangeryref.chain: a node, its parent, and so on; orangeryref.IsUnder. Slices of ints that a call reads; slices.Equal, slices. -/
import Derived.Test.YtdkncnfcgcfopabP02
import Derived.Test.YtdkncnfcgcfopabP01
/- Plain facts: moving a node and back; what the tables and lists of the document's own answer make. -/
namespace Orangery

theorem in_self (l : List Pl) (p : Pl) (h : byNode l) (hp : p ∈ l) : inL l p = l := by
  refine (in_unique l l p h ?_ (h.imp (by intro p q h; omega))).symm
  have h1 := out_perm l p
  have key : ∀ m : List Pl, byNode m → p ∈ m → (outL m p.1 ++ [p]).Perm m := by
    intro m
    induction m with
    | nil => intro _ hm; simp at hm
    | cons q m ih =>
      intro hs hm
      replace hs := List.pairwise_cons.1 hs
      by_cases hq : q = p
      · subst hq
        have e : outL (q :: m) q.1 = m := by
          unfold outL
          rw [List.filter_cons]
          simp only [beq_self_eq_true, Bool.not_true, Bool.false_eq_true, if_false]
          rw [List.filter_eq_self]
          intro r hr
          have := hs.1 r hr
          simp; omega
        rw [e]
        exact List.perm_append_comm
      · have hm' : p ∈ m := by simp at hm; rcases hm with rfl | hm; exact absurd rfl hq; exact hm
        have hlt := hs.1 p hm'
        have e : outL (q :: m) p.1 = q :: outL m p.1 := by
          unfold outL
          rw [List.filter_cons, if_pos (by simp; omega)]
        rw [e, List.cons_append]
        exact List.Perm.cons q (ih hs.2 hm')
  exact (key l h hp).symm

theorem out_self (l : List Pl) (n : Int) (h : ∀ p ∈ l, p.1 ≠ n) : outL l n = l := by
  unfold outL
  rw [List.filter_eq_self]
  intro p hp
  simp [h p hp]

theorem out_in (l : List Pl) (p : Pl) : outL (inL l p) p.1 = (l.filter fun q => decide (q.1 < p.1)) ++ (l.filter fun q => decide (p.1 < q.1)) := by
  unfold outL inL
  rw [List.filter_append, List.filter_cons]
  simp only [beq_self_eq_true, Bool.not_true, Bool.false_eq_true, if_false]
  congr 1
  · rw [List.filter_eq_self]; intro q hq; simp at hq; simp; omega
  · rw [List.filter_eq_self]; intro q hq; simp at hq; simp; omega

theorem out_split (l : List Pl) (n : Int) (h : byNode l) : outL l n = (l.filter fun q => decide (q.1 < n)) ++ (l.filter fun q => decide (n < q.1)) := by
  induction l with
  | nil => rfl
  | cons q l ih =>
    replace h := List.pairwise_cons.1 h
    have ih' := ih h.2
    unfold outL at ih' ⊢
    rw [List.filter_cons, List.filter_cons, List.filter_cons]
    rcases Int.lt_trichotomy q.1 n with hq | hq | hq
    · rw [if_pos (by simp; omega), if_pos (by simp; omega), if_neg (by simp; omega), List.cons_append, ih']
    · rw [if_neg (by simp [hq]), if_neg (by simp; omega), if_neg (by simp; omega), ih']
    · have e1 : (l.filter fun r => decide (r.1 < n)) = [] := by
        rw [List.filter_eq_nil_iff]; intro r hr; have := h.1 r hr; simp; omega
      rw [if_pos (by simp; omega), if_neg (by simp; omega), if_pos (by simp; omega), e1, ih', e1]
      rfl

theorem out_in_eq (l : List Pl) (p : Pl) (h : byNode l) : outL (inL l p) p.1 = outL l p.1 := by
  rw [out_in, out_split l _ h]

theorem in_in (l : List Pl) (p q : Pl) (h : byNode l) (e : q.1 = p.1) : inL (inL l p) q = inL l q := by
  refine sorted_unique _ _ (in_sorted l q h) ?_ ((in_sorted _ q (in_sorted l p h)).imp (by intro a b h; omega))
  refine (out_perm _ q).symm.trans ?_
  rw [e, out_in_eq l p h, ← e]
  exact out_perm l q

theorem find_zero (l : List Pl) (n : Int) (h : ∀ p ∈ l, p.1 ≠ n) : find l n = (0, 0, 0) := by
  have := find_append l [] n h
  rw [List.append_nil] at this
  rw [this, find_nil]

/-- where a node was, put back -/
theorem back_in (l : List Pl) (p : Pl) (h : check l = 0) (hz : (find l p.1).1 ≠ 0) : inL (inL l p) (find l p.1) = l := by
  have hb := ((check_iff l).1 h).2.1
  obtain ⟨h1, h2⟩ := find_mem l p.1 hz
  rw [in_in l p _ hb h2, in_self l _ hb h1]
theorem back_out (l : List Pl) (p : Pl) (h : check l = 0) (hz : (find l p.1).1 = 0) : outL (inL l p) p.1 = l := by
  have hc := (check_iff l).1 h
  rw [out_in_eq l p hc.2.1, out_self]
  intro q hq e
  have := find_of_mem hc.2.1 q hq
  rw [e] at this
  rw [this] at hz
  have := (inRangeB_iff q).1 (hc.1 q hq)
  omega

/-- a row of a table by node: the place, or one that says nowhere -/
def tabAt (l : List Pl) (n : Int) : Pl := if (find l n).1 = 0 then (0, -1, 0) else find l n
/-- the places of the rows 1 .. of a table -/
def rows (t : Nat → Pl) (k : Nat) : List Pl := (List.range k).flatMap fun n => if 0 < n ∧ 0 ≤ (t n).2.1 then [t n] else []

theorem rows_zero (t : Nat → Pl) : rows t 0 = [] := rfl
theorem rows_succ (t : Nat → Pl) (k : Nat) : rows t (k + 1) = rows t k ++ if 0 < k ∧ 0 ≤ (t k).2.1 then [t k] else [] := by
  simp [rows, List.range_succ]
theorem rows_len (t : Nat → Pl) (k : Nat) : (rows t k).length ≤ k := by
  induction k with
  | zero => simp [rows_zero]
  | succ k ih =>
    rw [rows_succ, List.length_append]
    split <;> simp <;> omega
theorem rows_congr (t u : Nat → Pl) (k : Nat) (h : ∀ n, n < k → t n = u n) : rows t k = rows u k := by
  induction k with
  | zero => rfl
  | succ k ih => rw [rows_succ, rows_succ, ih (fun n hn => h n (by omega)), h k (by omega)]

theorem rows_below (l : List Pl) (hs : scan 0 l = 0) (k : Nat) : rows (fun n => tabAt l n) k = l.filter fun p => decide (p.1 < (k : Int)) := by
  obtain ⟨h1, h2⟩ := (scan0_iff l).1 hs
  induction k with
  | zero =>
    rw [rows_zero]
    symm
    rw [List.filter_eq_nil_iff]
    intro p hp
    have := (inRangeB_iff p).1 (h1 p hp)
    simp
    omega
  | succ k ih =>
    rw [rows_succ, ih]
    have key : ∀ m : List Pl, (∀ p ∈ m, inRangeB p = true) → byNode m → (m.filter fun p => decide (p.1 < (k : Int))) ++ (if 0 < k ∧ 0 ≤ (tabAt m k).2.1 then [tabAt m k] else []) = m.filter fun p => decide (p.1 < ((k + 1 : Nat) : Int)) := by
      intro m
      induction m with
      | nil =>
        intro _ _
        rw [if_neg (by simp [tabAt, find_nil])]
        rfl
      | cons q m ih =>
        intro hr hb
        replace hb := List.pairwise_cons.1 hb
        have ih' := ih (fun p hp => hr p (by simp [hp])) hb.2
        have hq := (inRangeB_iff q).1 (hr q (by simp))
        rw [List.filter_cons, List.filter_cons]
        rcases Int.lt_trichotomy q.1 (k : Int) with hk | hk | hk
        · have hfc : find (q :: m) (k : Int) = find m (k : Int) := by rw [find_cons, if_neg (by omega)]
          have e : tabAt (q :: m) k = tabAt m k := by unfold tabAt; rw [hfc]
          have d1 : decide (q.1 < (k : Int)) = true := by simp; omega
          have d2 : decide (q.1 < ((k + 1 : Nat) : Int)) = true := by simp; omega
          rw [d1, d2, e, if_pos rfl, if_pos rfl, List.cons_append, ih']
        · have hfc : find (q :: m) (k : Int) = q := by rw [find_cons, if_pos hk]
          have e : tabAt (q :: m) k = q := by unfold tabAt; rw [hfc, if_neg (by omega)]
          have d1 : decide (q.1 < (k : Int)) = false := by simp; omega
          have d2 : decide (q.1 < ((k + 1 : Nat) : Int)) = true := by simp; omega
          have e1 : (m.filter fun r => decide (r.1 < (k : Int))) = [] := by
            rw [List.filter_eq_nil_iff]; intro r hr; have := hb.1 r hr; simp; omega
          have e2 : (m.filter fun r => decide (r.1 < ((k + 1 : Nat) : Int))) = [] := by
            rw [List.filter_eq_nil_iff]; intro r hr; have := hb.1 r hr; simp; omega
          rw [d1, d2, e, e1, e2, if_neg (by simp), if_pos (by omega), if_pos rfl]
          rfl
        · have hf : find (q :: m) (k : Int) = (0, 0, 0) := find_zero _ _ (by
            intro r hr
            simp at hr
            rcases hr with rfl | hr
            · omega
            · have := hb.1 r hr; omega)
          have e : tabAt (q :: m) k = (0, -1, 0) := by unfold tabAt; rw [hf]; rfl
          have e1 : (m.filter fun r => decide (r.1 < (k : Int))) = [] := by
            rw [List.filter_eq_nil_iff]; intro r hr; have := hb.1 r hr; simp; omega
          have e2 : (m.filter fun r => decide (r.1 < ((k + 1 : Nat) : Int))) = [] := by
            rw [List.filter_eq_nil_iff]; intro r hr; have := hb.1 r hr; simp; omega
          have d1 : decide (q.1 < (k : Int)) = false := by simp; omega
          have d2 : decide (q.1 < ((k + 1 : Nat) : Int)) = false := by simp; omega
          rw [d1, d2, e, e1, e2]
          simp
    exact key l h1 h2

theorem rows_all (l : List Pl) (hs : scan 0 l = 0) : rows (fun n => tabAt l n) 16 = l := by
  rw [rows_below l hs, List.filter_eq_self]
  intro p hp
  have := (inRangeB_iff p).1 ((scan0_iff l).1 hs |>.1 p hp)
  simp
  omega

theorem scan_in (l : List Pl) (p : Pl) (h : scan 0 l = 0) (hr : inRangeB p = true) : scan 0 (inL l p) = 0 := by
  obtain ⟨h1, h2⟩ := (scan0_iff l).1 h
  refine (scan0_iff _).2 ⟨?_, in_sorted l p h2⟩
  intro q hq
  rw [in_mem] at hq
  rcases hq with rfl | hq
  · exact hr
  · exact h1 q hq.1

/-- a table with one row set, read as places -/
theorem rows_set (l : List Pl) (p : Pl) (h : scan 0 l = 0) (hr : inRangeB p = true) : rows (fun n => if (n : Int) = p.1 then p else tabAt l n) 16 = inL l p := by
  have hp := (inRangeB_iff p).1 hr
  rw [← rows_all (inL l p) (scan_in l p h hr)]
  apply rows_congr
  intro n _
  unfold tabAt
  rw [find_in]
  by_cases hn : (n : Int) = p.1
  · rw [if_pos hn, if_pos hn, if_neg (by omega)]
  · rw [if_neg hn, if_neg hn]

/-- each place of a node put at another one, or left out -/
def swap (n : Int) (r : List Pl) (l : List Pl) : List Pl := l.flatMap fun p => if p.1 = n then r else [p]
theorem swap_nil (l : List Pl) (n : Int) : swap n [] l = outL l n := by
  induction l with
  | nil => rfl
  | cons q l ih =>
    unfold swap outL at *
    rw [List.flatMap_cons, ih, List.filter_cons]
    by_cases hq : q.1 = n <;> simp [hq]
theorem swap_one (l : List Pl) (n : Int) (p : Pl) (h : byNode l) (hz : (find l n).1 ≠ 0) (hp : p.1 = n) : swap n [p] l = inL l p := by
  subst hp
  have key : ∀ m : List Pl, byNode m → (∃ q ∈ m, q.1 = p.1) → swap p.1 [p] m = inL m p := by
    intro m
    induction m with
    | nil => rintro _ ⟨q, hq, _⟩; simp at hq
    | cons q m ih =>
      rintro hb ⟨r, hr, he⟩
      replace hb := List.pairwise_cons.1 hb
      unfold swap inL at *
      rw [List.flatMap_cons, List.filter_cons, List.filter_cons]
      by_cases hq : q.1 = p.1
      · have e0 : (m.flatMap fun r => if r.1 = p.1 then [p] else [r]) = m := by
          have : ∀ m : List Pl, (∀ r ∈ m, q.1 < r.1) → (m.flatMap fun r => if r.1 = p.1 then [p] else [r]) = m := by
            intro m
            induction m with
            | nil => intro _; rfl
            | cons s m ih =>
              intro h
              have := h s (by simp)
              rw [List.flatMap_cons, if_neg (by omega), ih (fun r hr => h r (by simp [hr]))]
              rfl
          exact this m hb.1
        have e1 : (m.filter fun r => decide (r.1 < p.1)) = [] := by
          rw [List.filter_eq_nil_iff]; intro r hr; have := hb.1 r hr; simp; omega
        have e2 : (m.filter fun r => decide (p.1 < r.1)) = m := by
          rw [List.filter_eq_self]; intro r hr; have := hb.1 r hr; simp; omega
        rw [if_pos hq, if_neg (by simp; omega), if_neg (by simp; omega), e0, e1, e2]
        rfl
      · have hr' : r ∈ m := by
          simp at hr
          rcases hr with rfl | hr
          · exact absurd he hq
          · exact hr
        have hlt := hb.1 r hr'
        rw [if_neg hq, if_pos (by simp; omega), if_neg (by simp; omega), ih hb.2 ⟨r, hr', he⟩]
        rfl
  obtain ⟨h1, h2⟩ := find_mem l p.1 hz
  exact key l h ⟨_, h1, h2⟩

/-- a loop that puts the place at most once does so -/
theorem swap_take (n : Int) (r : List Pl) (l : List Pl) (k : Nat) (h : k < l.length) : swap n r (l.take (k + 1)) = swap n r (l.take k) ++ if l[k].1 = n then r else [l[k]] := by
  unfold swap
  rw [List.take_succ_eq_append_getElem h, List.flatMap_append]
  simp
theorem swap_len (n : Int) (r : List Pl) (hr : r.length ≤ 1) (l : List Pl) : (swap n r l).length ≤ l.length := by
  induction l with
  | nil => simp [swap]
  | cons q l ih =>
    unfold swap at *
    rw [List.flatMap_cons, List.length_append, List.length_cons]
    split
    · omega
    · rw [List.length_singleton]; omega
theorem node_once (l : List Pl) (h : byNode l) (i k : Nat) (hi : i < l.length) (hk : k < l.length) (e : l[i].1 = l[k].1) : i = k := by
  have h' := List.pairwise_iff_getElem.1 h
  rcases Nat.lt_trichotomy i k with hl | hl | hl
  · have := h' i k hi hk hl; omega
  · exact hl
  · have := h' k i hk hi hl; omega

/-- move.Do -/
def doE (l : List Pl) (o : Mv) : Int := orI (check l) (checkOp o)
def ring (l : List Pl) (o : Mv) : Bool := underB l o.2.2.1.2.1 o.2.2.1.1
def doT (l : List Pl) (o : Mv) : List Pl := if doE l o ≠ 0 then [] else if ring l o = true then l else inL l o.2.2.1
def noOp : Mv := (0, 0, (0, 0, 0), 0, 0)
def noStep : Stp := (noOp, false, (0, 0, 0))
def doS (l : List Pl) (o : Mv) : Stp := if doE l o ≠ 0 then noStep else (o, !ring l o, find l o.2.2.1.1)

/-- move.Undo -/
def badB (l : List Pl) (s : Stp) : Bool := (s.2.2.1 != 0 && s.2.2.1 != s.1.2.2.1.1) || decide (find l s.1.2.2.1.1 ≠ s.1.2.2.1)
def goneB (s : Stp) : Bool := s.2.2.1 == 0 || decide (s.2.2.2.1 < 0)
def undoE (l : List Pl) (s : Stp) : Int :=
  if doE l s.1 ≠ 0 then doE l s.1 else if s.2.1 = false then 0 else if badB l s = true then 4 else if goneB s = true then 0 else check (inL l s.2.2)
def undoT (l : List Pl) (s : Stp) : List Pl :=
  if undoE l s ≠ 0 then [] else if s.2.1 = false then l else if goneB s = true then outL l s.1.2.2.1.1 else inL l s.2.2

theorem doE_zero {l : List Pl} {o : Mv} (h : doE l o = 0) : check l = 0 ∧ checkOp o = 0 := by
  unfold doE orI at h
  split at h
  · contradiction
  · rename_i h1
    exact ⟨by simpa using h1, h⟩

/-- what is done is undone -/
theorem undone (l : List Pl) (o : Mv) (h : doE l o = 0) : undoE (doT l o) (doS l o) = 0 ∧ undoT (doT l o) (doS l o) = l := by
  obtain ⟨h1, h2⟩ := doE_zero h
  have hok := checkOp_zero h2
  obtain ⟨hr, hn, hp⟩ := opOk_place hok
  have hrr := (inRangeB_iff _).1 hr
  have eS : doS l o = (o, !ring l o, find l o.2.2.1.1) := by unfold doS; rw [if_neg (by simp [h])]
  have eT : doT l o = if ring l o = true then l else inL l o.2.2.1 := by unfold doT; rw [if_neg (by simp [h])]
  rw [eS, eT]
  cases hring : ring l o
  · simp only [Bool.false_eq_true, if_false, Bool.not_false]
    have hc : check (inL l o.2.2.1) = 0 := check_in l _ h1 hr hring
    have hd : doE (inL l o.2.2.1) o = 0 := by unfold doE orI; rw [if_neg (by simp [hc]), h2]
    have hf : find (inL l o.2.2.1) o.2.2.1.1 = o.2.2.1 := by rw [find_in, if_pos rfl]
    by_cases hz : (find l o.2.2.1.1).1 = 0
    · have hb : badB (inL l o.2.2.1) (o, true, find l o.2.2.1.1) = false := by simp [badB, hz, hf]
      have hg : goneB (o, true, find l o.2.2.1.1) = true := by simp [goneB, hz]
      have e0 : undoE (inL l o.2.2.1) (o, true, find l o.2.2.1.1) = 0 := by simp [undoE, hd, hb, hg]
      refine ⟨e0, ?_⟩
      simp only [undoT, e0, hg]
      simp
      exact back_out l _ h1 hz
    · obtain ⟨hm, he⟩ := find_mem l _ hz
      have hi := (inRangeB_iff _).1 (((check_iff l).1 h1).1 _ hm)
      have hb : badB (inL l o.2.2.1) (o, true, find l o.2.2.1.1) = false := by simp [badB, he, hf]
      have hg : goneB (o, true, find l o.2.2.1.1) = false := by simp [goneB, hz]; omega
      have e1 := back_in l o.2.2.1 h1 hz
      have e0 : undoE (inL l o.2.2.1) (o, true, find l o.2.2.1.1) = 0 := by simp [undoE, hd, hb, hg, e1, h1]
      refine ⟨e0, ?_⟩
      simp only [undoT, e0, hg]
      simp
      exact e1
  · simp only [if_true, Bool.not_true]
    have e0 : undoE l (o, false, find l o.2.2.1.1) = 0 := by simp [undoE, h]
    exact ⟨e0, by simp [undoT, e0]⟩
end Orangery

/- move's small functions: within, Check, target, the closures; orangeryref.CheckOp. -/
namespace Go.Proofs.Ytdkncnfcgcfopab
open Go.ChangeShapes Go.WideShapes Go.ChangeAt Go.RowKit
open Orangery (Pl Mv Stp opOkB checkOp orI cmpI inRangeB)

/-- the value of an operation -/
abbrev opV (o : Mv) : Value := .agg #[.int .i64 o.1, .int .i64 o.2.1, .int .i64 o.2.2.1.1, .int .i64 o.2.2.1.2.1, .int .i64 o.2.2.1.2.2, .int .i64 o.2.2.2.1, .int .i64 o.2.2.2.2]
/-- the value of a step -/
abbrev stV (s : Stp) : Value := .agg #[.int .i64 s.1.1, .int .i64 s.1.2.1, .int .i64 s.1.2.2.1.1, .int .i64 s.1.2.2.1.2.1, .int .i64 s.1.2.2.1.2.2, .int .i64 s.1.2.2.2.1, .int .i64 s.1.2.2.2.2, .bool s.2.1, .int .i64 s.2.2.1, .int .i64 s.2.2.2.1, .int .i64 s.2.2.2.2]

/-- the cells of an operation, of a step -/
def opC (o : Mv) : List Value := [.int .i64 o.1, .int .i64 o.2.1, .int .i64 o.2.2.1.1, .int .i64 o.2.2.1.2.1, .int .i64 o.2.2.1.2.2, .int .i64 o.2.2.2.1, .int .i64 o.2.2.2.2]
def stC (s : Stp) : List Value := [.int .i64 s.1.1, .int .i64 s.1.2.1, .int .i64 s.1.2.2.1.1, .int .i64 s.1.2.2.1.2.1, .int .i64 s.1.2.2.1.2.2, .int .i64 s.1.2.2.2.1, .int .i64 s.1.2.2.2.2, .bool s.2.1, .int .i64 s.2.2.1, .int .i64 s.2.2.2.1, .int .i64 s.2.2.2.2]
theorem stC_len (s : Stp) : (stC s).length = 11 := rfl
theorem stC_one (s : Stp) : ∀ v ∈ stC s, v.oneCell' = true := by
  intro v hv
  simp [stC] at hv
  rcases hv with rfl | rfl | rfl | rfl | rfl | rfl | rfl | rfl | rfl | rfl | rfl <;> rfl

def inB (n a b : Int) : Bool := decide (a ≤ n ∧ n ≤ b)

set_option maxHeartbeats 400000 in
theorem within_any (w : World) (n a b : Int) :
    Calls Try.prog 67 #[.int .i64 n, .int .i64 a, .int .i64 b] w fun e w' => e = .returned (.bool (inB n a b)) ∧ w' = w := by
  by_cases h1 : a ≤ n
  all_goals by_cases h2 : n ≤ b
  all_goals
    go_enter Try.func67, Try.ntmps67
    go_wp2
    go_ret
    exact ⟨ret_bool (by simp [inB]; try omega), rfl⟩

theorem checkOp_in (o : Mv) : opOkB o = (inB o.1 1 10000 && inB o.2.1 0 2 && inB o.2.2.1.1 1 15 && inB o.2.2.1.2.1 0 16 && inB o.2.2.1.2.2 0 99 && inB o.2.2.2.1 1 50 && inB o.2.2.2.2 1 30) := by
  rw [Bool.eq_iff_iff]
  simp [opOkB, inB]
  omega

set_option maxHeartbeats 2000000 in
theorem moveCheck_any (w : World) (o : Mv) :
    Calls Try.prog 36 #[opV o] w fun e w' => e = .returned (.int .i64 (checkOp o)) ∧ Below w.heap.size w w' := by
  have hk := checkOp_in o
  obtain ⟨o1, o2, ⟨o3, o4, o5⟩, o6, o7⟩ := o
  have HE : Hid (checkOp (o1, o2, (o3, o4, o5), o6, o7) = if opOkB (o1, o2, (o3, o4, o5), o6, o7) = true then 0 else 3) := rfl
  have HK : Hid (opOkB (o1, o2, (o3, o4, o5), o6, o7) = (inB o1 1 10000 && inB o2 0 2 && inB o3 1 15 && inB o4 0 16 && inB o5 0 99 && inB o6 1 50 && inB o7 1 30)) := hk
  clear hk
  go_enter Try.func36, Try.ntmps36
  go_wp2_with fail
  refine (within_any _ o1 _ _).mono ?_
  rintro e w1 ⟨rfl, rfl⟩
  cases h1 : inB o1 1 10000
  · go_wp2
    go_ret
    exact ⟨ret_int (by rw [HE.out, HK.out]; simp [h1]), Go.Joins.below_alloc1 w _⟩
  go_wp2_with fail
  refine (within_any _ o2 _ _).mono ?_
  rintro e w1 ⟨rfl, rfl⟩
  cases h2 : inB o2 0 2
  · go_wp2
    go_ret
    exact ⟨ret_int (by rw [HE.out, HK.out]; simp [h2]), Go.Joins.below_alloc1 w _⟩
  go_wp2_with fail
  refine (within_any _ o3 _ _).mono ?_
  rintro e w1 ⟨rfl, rfl⟩
  cases h3 : inB o3 1 15
  · go_wp2
    go_ret
    exact ⟨ret_int (by rw [HE.out, HK.out]; simp [h3]), Go.Joins.below_alloc1 w _⟩
  go_wp2_with fail
  refine (within_any _ o4 _ _).mono ?_
  rintro e w1 ⟨rfl, rfl⟩
  cases h4 : inB o4 0 16
  · go_wp2
    go_ret
    exact ⟨ret_int (by rw [HE.out, HK.out]; simp [h4]), Go.Joins.below_alloc1 w _⟩
  go_wp2_with fail
  refine (within_any _ o5 _ _).mono ?_
  rintro e w1 ⟨rfl, rfl⟩
  cases h5 : inB o5 0 99
  · go_wp2
    go_ret
    exact ⟨ret_int (by rw [HE.out, HK.out]; simp [h5]), Go.Joins.below_alloc1 w _⟩
  go_wp2_with fail
  refine (within_any _ o6 _ _).mono ?_
  rintro e w1 ⟨rfl, rfl⟩
  cases h6 : inB o6 1 50
  · go_wp2
    go_ret
    exact ⟨ret_int (by rw [HE.out, HK.out]; simp [h6]), Go.Joins.below_alloc1 w _⟩
  go_wp2_with fail
  refine (within_any _ o7 _ _).mono ?_
  rintro e w1 ⟨rfl, rfl⟩
  cases h7 : inB o7 1 30
  · go_wp2
    go_ret
    exact ⟨ret_int (by rw [HE.out, HK.out]; simp [h7]), Go.Joins.below_alloc1 w _⟩
  go_wp2
  go_ret
  exact ⟨ret_int (by rw [HE.out, HK.out]; simp [h1, h2, h3, h4, h5, h6, h7]), Go.Joins.below_alloc1 w _⟩

theorem without1_any (w : World) (p : Pl) (n : Int) (b : Nat) (hb : b < w.heap.size) (hc : w.cell? ⟨b, 0, none⟩ = some (.int .i64 n)) :
    Calls Try.prog 127 #[plV p, .pointer (some ⟨b, 0, none⟩)] w fun e w' => e = .returned (.bool (p.1 == n)) ∧ Below w.heap.size w w' := by
  go_enter Try.func127, Try.ntmps127
  have hne : ¬ w.heap.size = b := by omega
  go_wp2
  go_ret
  exact ⟨rfl, Go.Joins.below_alloc1 w _⟩

set_option maxHeartbeats 400000 in
theorem target_any (w : World) (o : Mv) :
    Calls Try.prog 111 #[opV o] w fun e w' => e = .returned (plV o.2.2.1) ∧ Below w.heap.size w w' := by
  obtain ⟨o1, o2, ⟨o3, o4, o5⟩, o6, o7⟩ := o
  go_enter Try.func111, Try.ntmps111
  go_wp2
  refine bodyPost_ret (v := plV (o3, o4, o5)) (by simp [results, Try.results111, go_sem]) rfl ⟨rfl, Go.Joins.below_alloc2 w _ _⟩

theorem ref_in (o : Mv) : opOkB o = (inB o.1 1 10000 && inB o.2.1 0 2 && inRangeB o.2.2.1 && inB o.2.2.2.1 1 50 && inB o.2.2.2.2 1 30) := by
  rw [Bool.eq_iff_iff]
  simp [opOkB, inB, inRangeB]
  omega

set_option maxHeartbeats 400000 in
theorem rin_any (w : World) (n a b : Int) :
    Calls Try.prog 57 #[.int .i64 n, .int .i64 a, .int .i64 b] w fun e w' => e = .returned (.bool (inB n a b)) ∧ w' = w := by
  by_cases h1 : a ≤ n
  all_goals by_cases h2 : n ≤ b
  all_goals
    go_enter Try.func57, Try.ntmps57
    go_wp2
    go_ret
    exact ⟨ret_bool (by simp [inB]; try omega), rfl⟩

end Go.Proofs.Ytdkncnfcgcfopab

/- Slices of whatever elements in memory of the call's own; operations and steps in their cells. -/
namespace Go.Proofs.Ytdkncnfcgcfopab
open Go.ChangeShapes Go.WideShapes Go.ChangeAt Go.RowKit
open Orangery (Pl Mv Stp)

/-- a slice of the call's own, of elements of k cells -/
def OwnE {α : Type} (enc : α → List Value) (k : Nat) (e : TypeId) (w : World) (base : Nat) (v : Value) (l : List α) : Prop :=
  w.ownsRow base e k v l.length (l.flatMap enc)

theorem OwnE.row {α : Type} {enc : α → List Value} {k : Nat} {e : TypeId} {w : World} {base : Nat} {v : Value} {l : List α} (h : OwnE enc k e w base v l) : w.ownsRow base e k v l.length (l.flatMap enc) := h

theorem OwnE.val {α : Type} {enc : α → List Value} {k : Nat} {e : TypeId} {w : World} {base : Nat} {v : Value} {l : List α} (h : OwnE enc k e w base v l) :
    ∃ a cap, v = .slice a l.length cap ∧ SlE enc w a l ∧ l.length ≤ cap := by
  obtain ⟨a, cap, e1, h1, _⟩ := own_slE h
  refine ⟨a, cap, e1, h1, ?_⟩
  rcases h.2 with ⟨e2, hn⟩ | ⟨g, cap', cur, e2, _, _, hn, _⟩
  · rw [e1] at e2
    obtain ⟨_, h2, h3⟩ : a = none ∧ l.length = 0 ∧ cap = 0 := by simpa using e2
    omega
  · rw [e1] at e2
    obtain ⟨_, rfl⟩ : a = _ ∧ cap = cap' := by simpa using e2
    exact hn

theorem OwnE.read {α : Type} {enc : α → List Value} {k : Nat} {e : TypeId} {w : World} {base n c : Nat} {a : Option Addr} {l : List α} (h : OwnE enc k e w base (.slice a n c) l) : SlE enc w a l := own_readE h

theorem OwnE.keep {α : Type} {enc : α → List Value} {k : Nat} {e : TypeId} {w w' : World} {base : Nat} {v : Value} {l : List α} (h : OwnE enc k e w base v l) (hb : Below w.heap.size w w') : OwnE enc k e w' base v l := own_below h hb
theorem OwnE.alloc {α : Type} {enc : α → List Value} {k : Nat} {e : TypeId} {w : World} {base : Nat} {v : Value} {l : List α} (h : OwnE enc k e w base v l) (o : Obj) : OwnE enc k e (w.alloc o) base v l := h.keep (Go.Joins.below_alloc1 w o)
theorem OwnE.drew {α : Type} {enc : α → List Value} {k : Nat} {e : TypeId} {w : World} {base : Nat} {v : Value} {l : List α} (h : OwnE enc k e w base v l) : OwnE enc k e w.drew base v l := h
theorem OwnE.mono {α : Type} {enc : α → List Value} {k : Nat} {e : TypeId} {w : World} {base base' : Nat} {v : Value} {l : List α} (h : OwnE enc k e w base v l) (hb : base' ≤ base) : OwnE enc k e w base' v l := by
  obtain ⟨h1, h2⟩ := h
  refine ⟨h1, ?_⟩
  rcases h2 with h2 | ⟨g, cap, cur, e2, hg, r⟩
  · exact Or.inl h2
  · exact Or.inr ⟨g, cap, cur, e2, by omega, r⟩
theorem OwnE.other {α : Type} {enc : α → List Value} {k : Nat} {e : TypeId} {w : World} {base : Nat} {v : Value} {l : List α} (h : OwnE enc k e w base v l) (g : Nat) (hg : g < base) (j : Nat) (u : Value) : OwnE enc k e (w.setCell ⟨g, j, none⟩ u) base v l :=
  ownsRow_setCell_below h (a := ⟨g, j, none⟩) hg u
theorem OwnE.others {α : Type} {enc : α → List Value} {k : Nat} {e : TypeId} {base : Nat} {v : Value} {l : List α} (g : Nat) (hg : g < base) : ∀ (us : List Value) (o : Nat) (w : World), OwnE enc k e w base v l → OwnE enc k e (w.setCells g o us) base v l
  | [], _, _, h => h
  | u :: us, o, _, h => OwnE.others g hg us (o + 1) _ (h.other g hg o u)
/-- an own slice, behind an append to another one -/
theorem OwnE.grown {α : Type} {enc : α → List Value} {k : Nat} {e : TypeId} {w w' : World} {base : Nat} {v : Value} {l : List α} {row : Option Nat} (h : OwnE enc k e w base v l) (hg : w.grownBy w' row) (hne : ∀ g, row = some g → g < base) : OwnE enc k e w' base v l := by
  obtain ⟨h1, h2⟩ := h
  refine ⟨h1, ?_⟩
  rcases h2 with h2 | ⟨g, cap, cur, e2, hb, hh, r⟩
  · exact Or.inl h2
  · refine Or.inr ⟨g, cap, cur, e2, hb, ?_, r⟩
    rw [hg.block g (blk_lt hh) (fun e => by have := hne g e.symm; omega)]
    exact hh
theorem OwnE.nil {α : Type} {enc : α → List Value} {k : Nat} {e : TypeId} (w : World) (base : Nat) : OwnE enc k e w base (.slice none 0 0) ([] : List α) := ⟨by simp, Or.inl ⟨rfl, rfl⟩⟩

theorem OwnS.grown {w w' : World} {base : Nat} {v : Value} {l : List Pl} {row : Option Nat} (h : OwnS w base v l) (hg : w.grownBy w' row) (hne : ∀ g, row = some g → g < base) : OwnS w' base v l :=
  own_pls (OwnE.grown (enc := encPl) (k := 3) (e := 45) h.row hg hne)
theorem OwnS.alloc {w : World} {base : Nat} {v : Value} {l : List Pl} (h : OwnS w base v l) (o : Obj) : OwnS (w.alloc o) base v l := h.below (Go.Joins.below_alloc1 w o)
theorem OwnS.drew {w : World} {base : Nat} {v : Value} {l : List Pl} (h : OwnS w base v l) : OwnS w.drew base v l := h

theorem SlE.at {α : Type} {enc : α → List Value} {k : Nat} (hk : ∀ x, (enc x).length = k) {w : World} {a : Option Addr} {l : List α} (h : SlE enc w a l) (i : Nat) (hi : i < l.length) :
    ∃ b off, a = some ⟨b, off, none⟩ ∧ b < w.heap.size ∧ w.rangeAt b (off + i * k) (enc l[i]) := by
  rcases h with h | ⟨b, off, ha, hb, hr⟩
  · subst h; simp at hi
  · exact ⟨b, off, ha, hb, elemE hk hr i hi⟩
theorem SlE.take {α : Type} {enc : α → List Value} {w : World} {a : Option Addr} {l : List α} (h : SlE enc w a l) (i : Nat) : SlE enc w a (l.take i) := by
  rcases h with h | ⟨b, off, ha, hb, hr⟩
  · subst h; exact Or.inl (by simp)
  · refine Or.inr ⟨b, off, ha, hb, fun j v hv => hr j v ?_⟩
    have e : l.flatMap enc = (l.take i).flatMap enc ++ (l.drop i).flatMap enc := by rw [← List.flatMap_append, List.take_append_drop]
    rw [e, List.getElem?_append_left (List.getElem?_eq_some_iff.1 hv).1]
    exact hv
theorem SlE.drew {α : Type} {enc : α → List Value} {w : World} {a : Option Addr} {l : List α} (h : SlE enc w a l) : SlE enc w.drew a l := h
theorem SlE.nil {α : Type} {enc : α → List Value} {w : World} {a : Option Addr} : SlE enc w a ([] : List α) := Or.inl rfl

theorem opC_len (o : Mv) : (opC o).length = 7 := rfl
theorem opC_one (o : Mv) : ∀ v ∈ opC o, v.oneCell' = true := by
  intro v hv
  simp [opC] at hv
  rcases hv with rfl | rfl | rfl | rfl | rfl | rfl | rfl <;> rfl
theorem flat_oneE {α : Type} {enc : α → List Value} (h : ∀ x, ∀ v ∈ enc x, v.oneCell' = true) (l : List α) : ∀ v ∈ l.flatMap enc, v.oneCell' = true := by
  intro v hv
  rw [List.mem_flatMap] at hv
  obtain ⟨x, _, hx⟩ := hv
  exact h x v hx

theorem op_cells {w : World} {b o : Nat} {x : Mv} (h : w.rangeAt b o (opC x)) :
    w.cell? ⟨b, o, none⟩ = some (.int .i64 x.1) ∧ w.cell? ⟨b, o + 1, none⟩ = some (.int .i64 x.2.1) ∧ w.cell? ⟨b, o + 2, none⟩ = some (.int .i64 x.2.2.1.1) ∧ w.cell? ⟨b, o + 3, none⟩ = some (.int .i64 x.2.2.1.2.1) ∧ w.cell? ⟨b, o + 4, none⟩ = some (.int .i64 x.2.2.1.2.2) ∧ w.cell? ⟨b, o + 5, none⟩ = some (.int .i64 x.2.2.2.1) ∧ w.cell? ⟨b, o + 6, none⟩ = some (.int .i64 x.2.2.2.2) :=
  ⟨h 0 _ rfl, h 1 _ rfl, h 2 _ rfl, h 3 _ rfl, h 4 _ rfl, h 5 _ rfl, h 6 _ rfl⟩
theorem st_cells {w : World} {b o : Nat} {x : Stp} (h : w.rangeAt b o (stC x)) :
    w.cell? ⟨b, o, none⟩ = some (.int .i64 x.1.1) ∧ w.cell? ⟨b, o + 1, none⟩ = some (.int .i64 x.1.2.1) ∧ w.cell? ⟨b, o + 2, none⟩ = some (.int .i64 x.1.2.2.1.1) ∧ w.cell? ⟨b, o + 3, none⟩ = some (.int .i64 x.1.2.2.1.2.1) ∧ w.cell? ⟨b, o + 4, none⟩ = some (.int .i64 x.1.2.2.1.2.2) ∧ w.cell? ⟨b, o + 5, none⟩ = some (.int .i64 x.1.2.2.2.1) ∧ w.cell? ⟨b, o + 6, none⟩ = some (.int .i64 x.1.2.2.2.2) ∧ w.cell? ⟨b, o + 7, none⟩ = some (.bool x.2.1) ∧ w.cell? ⟨b, o + 8, none⟩ = some (.int .i64 x.2.2.1) ∧ w.cell? ⟨b, o + 9, none⟩ = some (.int .i64 x.2.2.2.1) ∧ w.cell? ⟨b, o + 10, none⟩ = some (.int .i64 x.2.2.2.2) :=
  ⟨h 0 _ rfl, h 1 _ rfl, h 2 _ rfl, h 3 _ rfl, h 4 _ rfl, h 5 _ rfl, h 6 _ rfl, h 7 _ rfl, h 8 _ rfl, h 9 _ rfl, h 10 _ rfl⟩

theorem infoOp : (Try.prog.info? 38).map (fun i => (i.zero, i.size, i.bytes)) = some (some (.agg #[.int .i64 0, .int .i64 0, .int .i64 0, .int .i64 0, .int .i64 0, .int .i64 0, .int .i64 0]), 7, 56) := by kernel_rfl
theorem infoStep : (Try.prog.info? 47).map (fun i => (i.zero, i.size, i.bytes)) = some (some (.agg #[.int .i64 0, .int .i64 0, .int .i64 0, .int .i64 0, .int .i64 0, .int .i64 0, .int .i64 0, .bool false, .int .i64 0, .int .i64 0, .int .i64 0]), 11, 88) := by kernel_rfl
theorem sizeHist : (Try.prog.info? 28).map (·.size) = some 2 := by kernel_rfl
theorem sizeStamp : (Try.prog.info? 36).map (·.size) = some 2 := by kernel_rfl
/-- the next operation is a store of this type -/
theorem at_store {ops : Array Oper} {Q : Exit → Act → World → Prop} {rest : List Oper} {x y : Operand} {t : TypeId} {pos : String} {after : Array Edge} {a : Act} {w : World} (ty : TypeId)
    (h : wpList Try.prog ops Q (⟨none, .store ty x y, t, pos, after, none⟩ :: rest) a w) : wpList Try.prog ops Q (⟨none, .store ty x y, t, pos, after, none⟩ :: rest) a w := h
/-- the value of a history -/
abbrev hiV (x y : Value) : Value := .agg #[x, y]
end Go.Proofs.Ytdkncnfcgcfopab

/- orangeryref.chain: a node, its parent, and so on; orangeryref.IsUnder. -/
namespace Go.Proofs.Ytdkncnfcgcfopab
open Go.ChangeShapes Go.WideShapes Go.ChangeAt Go.RowKit
open Orangery (Pl find isNodeB inRangeB meetsN scan ringAt check idxF chain chainN hasB outOk)

theorem infoInt : (Try.prog.info? 3).map (fun i => (i.zero, i.size, i.bytes)) = some (some (.int .i64 0), 1, 8) := by kernel_rfl

set_option maxHeartbeats 2000000 in
theorem chain_any (w : World) (a : Option Addr) (c : Nat) (l : List Pl) (n : Int) (hl : l.length ≤ maxLen) (h : SlP w a l)
    (hr : ∀ p ∈ l, 0 ≤ p.2.1 ∧ p.2.1 ≤ 16) (hn0 : 0 ≤ n) (hn1 : n ≤ 16) :
    Calls Try.prog 55 #[.slice a l.length c, .int .i64 n] w
      fun e w' => ∃ v, e = .returned v ∧ w'.ownsRow w.heap.size 3 1 v (chain l n).length ((chain l n).map (Value.int .i64)) ∧ outOk (chain l n) ∧ Below w.heap.size w w' := by
  obtain ⟨i0, hi, hz0, hz1, hz2⟩ := info_parts infoInt
  have HR : Hid (∀ p ∈ l, 0 ≤ p.2.1 ∧ p.2.1 ≤ 16) := hr
  clear hr
  go_enter Try.func55, Try.ntmps55
  go_wp2
  have hown : (w.alloc (Obj.cells #[Value.int IntKind.i64 n] 3)).ownsRow w.heap.size 3 1 (.slice (some ⟨w.heap.size, 0, none⟩) 1 1) 1 [.int .i64 n] :=
    ⟨rfl, Or.inr ⟨w.heap.size, 1, #[.int .i64 n], rfl, Nat.le_refl _, blk_new rfl, Nat.le_refl _, by unfold maxLen; omega, rfl, rfl⟩⟩
  have hB := Go.Joins.below_alloc1 w (Obj.cells #[Value.int IntKind.i64 n] 3)
  generalize hW : w.alloc (Obj.cells #[Value.int IntKind.i64 n] 3) = W0 at hB hown
  clear hW
  go_loopw [1, 5] (fun x v W => ∃ (m : Int) (out : List Int), x = .int .i64 m ∧ W.ownsRow w.heap.size 3 1 v out.length (out.map (Value.int .i64)) ∧ outOk out ∧ chainN l (18 - out.length) out m = chain l n ∧ Below w.heap.size w W) (fun _ v _ => 18 - lenOf v)
  case atStart => exact ⟨n, [n], rfl, hown, Orangery.outOk_one hn0 hn1, rfl, hB⟩
  case round =>
    obtain ⟨m, out, rfl, hown, hok, hch, hb⟩ := hrel
    have HOK : Hid (outOk out) := hok
    have hlen := Orangery.outOk_len hok
    have HCH : Hid (chainN l (18 - out.length) out m = chain l n) := hch
    have S1 := Orangery.chainN_stop l out m hok
    have S2 := Orangery.chainN_go l out m HR.out hok
    have hpos : 1 ≤ out.length := hok.2.2
    clear hok hch
    go_wp2_with fail
    refine (findIn_any wr a c l m hl (h.below hb)).mono ?_
    rintro e w1 ⟨rfl, hb1⟩
    generalize hq : find l m = q at *
    obtain ⟨q0, q1, q2⟩ := q
    have HQ : Hid (find l m = (q0, q1, q2)) := hq
    clear hq
    simp only at S1 S2
    have H1 : Hid (q0 = 0 ∨ q1 ∈ out → chainN l (18 - out.length) out m = out) := S1
    have H2 : Hid (q0 ≠ 0 → q1 ∉ out → outOk (out ++ [q1]) ∧ chainN l (18 - out.length) out m = chainN l (18 - (out ++ [q1]).length) (out ++ [q1]) q1) := S2
    clear S1 S2
    obtain ⟨_, hv⟩ := own_ints hown
    rcases hv with ⟨rfl, hv⟩ | ⟨g, cap, rfl, hgb, hgl, hints⟩
    · exact absurd hpos (by omega)
    have hown1 := own_below hown hb1
    have hints1 : IntsAt w1 g 0 out := fun i hi => by rw [hb1.cell hgl]; exact hints i hi
    have hgl1 : g < w1.heap.size := Nat.lt_of_lt_of_le hgl hb1.size
    have hb2 : Below w.heap.size w w1 := hb.trans (hb1.mono hb.size)
    clear hints hgl hown hb1 hb
    by_cases hz : q0 = 0
    · have hz' : (q0 == 0) = true := by simpa using hz
      have e := H1.out (Or.inl hz)
      have HE : Hid (chainN l (18 - out.length) out m = out) := e
      clear hz e
      go_wp2
      go_ret
      refine ⟨_, rfl, ?_, ?_, hb2.alloc hb2.size _⟩
      · rw [← HCH.out, HE.out]; exact hown1.alloc _
      · rw [← HCH.out, HE.out]; exact HOK.out
    · have hz' : (q0 == 0) = false := by simpa using hz
      have HZ : Hid (q0 ≠ 0) := hz
      clear hz
      go_wp2_with fail
      refine (contains_ints _ g 0 cap out.length q1 out rfl (by unfold maxLen; omega) ?_).mono ?_
      · intro i hi
        rw [(Go.Joins.below_alloc1 w1 _).cell hgl1]
        exact hints1 i hi
      rintro e w2 ⟨rfl, rfl⟩
      by_cases hm : q1 ∈ out
      · have e : hasB q1 out = true := by simp [hasB, hm]
        have e2 := H1.out (Or.inr hm)
        have HE : Hid (chainN l (18 - out.length) out m = out) := e2
        rw [e]
        clear hm e e2
        go_wp2
        go_ret
        refine ⟨_, rfl, ?_, ?_, hb2.alloc hb2.size _⟩
        · rw [← HCH.out, HE.out]; exact hown1.alloc _
        · rw [← HCH.out, HE.out]; exact HOK.out
      · have e : hasB q1 out = false := by simp [hasB, hm]
        have e2 := H2.out HZ.out hm
        have HE : Hid (outOk (out ++ [q1]) ∧ chainN l (18 - out.length) out m = chainN l (18 - (out ++ [q1]).length) (out ++ [q1]) q1) := e2
        rw [e]
        clear hm e e2
        have hown2 := (hown1.alloc (Obj.cells #[Value.int IntKind.i64 q0, Value.int IntKind.i64 q1, Value.int IntKind.i64 q2] 45)).alloc (Obj.cells #[Value.int IntKind.i64 q1] 3)
        have hb3 := (hb2.alloc hb2.size (Obj.cells #[Value.int IntKind.i64 q0, Value.int IntKind.i64 q1, Value.int IntKind.i64 q2] 45)).alloc (by simp; exact Nat.le_succ_of_le hb2.size) (Obj.cells #[Value.int IntKind.i64 q1] 3)
        go_wp2_with (at_builtin; refine wpList_append_own _ rfl _ _ 53 rfl w.heap.size 3 i0 (.int .i64 0) 1 8 Try.underlying53 hi hz0 hz1 hz2 rfl (by decide) _ _ _ rfl hown2 ⟨w1.heap.size + 1, 0, none⟩ 1 1 [.int .i64 q1] rfl rfl ?c1 ?c2 ?c3 ?c4 ?c5 ?_)
        case c1 =>
          intro j u hj
          match j, hj with
          | 0, hj => simp at hj; subst hj; simp [Addr.add]
        case c2 => intro u hu; simp at hu; subst hu; rfl
        case c3 => unfold maxLen; omega
        case c4 => omega
        case c5 => exact hb3.size
        · intro v' w4 hown' hgrow _
          have hb4 := hb3.trans (below_grown hown2 hb3.size hgrow)
          clear hgrow hown2
          go_wp2
          go_roundw
          case rel => exact ⟨q1, out ++ [q1], rfl, by simpa using hown', HE.out.1, by rw [← HCH.out, HE.out.2], hb4⟩
          case measure =>
            have : lenOf v' = out.length + 1 := by
              obtain ⟨_, hv'⟩ := own_ints (l := out ++ [q1]) (by simpa using hown')
              rcases hv' with ⟨_, hv'⟩ | ⟨g', cap', rfl, _⟩
              · exact absurd hv' (by omega)
              · rfl
            show 18 - lenOf v' < 18 - out.length
            rw [this]
            omega

end Go.Proofs.Ytdkncnfcgcfopab

/- Slices of ints that a call reads; slices.Equal, slices.Clone, slices.Contains at them. -/
namespace Go.Proofs.Ytdkncnfcgcfopab
open Go.ChangeShapes Go.WideShapes Go.ChangeAt Go.RowKit
open Orangery (hasB)

/-- a slice's address holds these ints -/
def SlI (w : World) (a : Option Addr) (l : List Int) : Prop :=
  l = [] ∨ ∃ b off, a = some ⟨b, off, none⟩ ∧ b < w.heap.size ∧ IntsAt w b off l

theorem SlI.below {w w' : World} {a : Option Addr} {l : List Int} (h : SlI w a l) (hb : Below w.heap.size w w') : SlI w' a l := by
  rcases h with h | ⟨b, off, ha, hlt, hp⟩
  · exact Or.inl h
  · exact Or.inr ⟨b, off, ha, Nat.lt_of_lt_of_le hlt hb.size, fun i hi => by rw [hb.cell hlt]; exact hp i hi⟩
theorem SlI.nil {w : World} {a : Option Addr} : SlI w a [] := Or.inl rfl
theorem SlI.at {w : World} {a : Option Addr} {l : List Int} (h : SlI w a l) (k : Nat) (hk : k < l.length) : ∃ b off, a = some ⟨b, off, none⟩ ∧ b < w.heap.size ∧ w.cell? ⟨b, off + k, none⟩ = some (.int .i64 l[k]) := by
  rcases h with h | ⟨b, off, ha, hlt, hp⟩
  · exact absurd hk (by simp [h])
  · exact ⟨b, off, ha, hlt, hp k hk⟩
theorem SlI.take {w : World} {a : Option Addr} {l : List Int} (h : SlI w a l) (n : Nat) : SlI w a (l.take n) := by
  rcases h with h | ⟨b, off, ha, hlt, hp⟩
  · exact Or.inl (by simp [h])
  · exact Or.inr ⟨b, off, ha, hlt, fun i hi => by rw [List.getElem_take]; exact hp i (by simp at hi; omega)⟩
theorem SlI.news {w : World} {ad : Addr} {l : List Int} (h : SlI w (some ad) l) : ∀ j u, (l.map (Value.int .i64))[j]? = some u → w.cell? (ad.add j) = some u := by
  intro j u hj
  rcases h with rfl | ⟨b, off, ha, _, hp⟩
  · simp at hj
  · simp at ha
    subst ha
    rw [Addr.add_mid]
    have hlt : j < l.length := by
      have := (List.getElem?_eq_some_iff.1 hj).1
      simpa using this
    rw [List.getElem?_map, List.getElem?_eq_getElem hlt] at hj
    simp at hj
    rw [hp j hlt, hj]
theorem SlI.none_nil {w : World} {l : List Int} (h : SlI w none l) : l = [] := by
  rcases h with rfl | ⟨b, off, h, _⟩
  · rfl
  · simp at h

/-- a row of ints of the call's own -/
def OwnI (w : World) (base : Nat) (v : Value) (l : List Int) : Prop := w.ownsRow base 3 1 v l.length (l.map (Value.int .i64))
theorem OwnI.val {w : World} {base : Nat} {v : Value} {l : List Int} (h : OwnI w base v l) : ∃ a cap, v = .slice a l.length cap ∧ SlI w a l := by
  obtain ⟨_, h2⟩ := own_ints h
  rcases h2 with ⟨rfl, h2⟩ | ⟨g, cap, h3, _, h4, h5⟩
  · have : l = [] := List.length_eq_zero_iff.1 h2
    subst this
    exact ⟨none, 0, rfl, Or.inl rfl⟩
  · exact ⟨_, cap, h3, Or.inr ⟨g, 0, rfl, h4, h5⟩⟩
theorem OwnI.keep {w w' : World} {base : Nat} {v : Value} {l : List Int} (h : OwnI w base v l) (hb : Below w.heap.size w w') : OwnI w' base v l := own_below h hb

theorem OwnI.other {w : World} {base : Nat} {v : Value} {l : List Int} (h : OwnI w base v l) (g : Nat) (hg : g < base) (j : Nat) (u : Value) : OwnI (w.setCell ⟨g, j, none⟩ u) base v l := ownsRow_setCell_below h (a := ⟨g, j, none⟩) hg u
theorem OwnI.others {base : Nat} {v : Value} {l : List Int} (g : Nat) (hg : g < base) : ∀ (us : List Value) (o : Nat) (w : World), OwnI w base v l → OwnI (w.setCells g o us) base v l
  | [], _, _, h => h
  | u :: us, o, _, h => OwnI.others g hg us (o + 1) _ (h.other g hg o u)
theorem OwnI.reads {W : World} {base : Nat} {a : Option Addr} {n c : Nat} {l : List Int} (h : OwnI W base (.slice a n c) l) : SlI W a l := by
  obtain ⟨a', c', e, h1⟩ := h.val
  obtain ⟨rfl, _, _⟩ : a = a' ∧ n = l.length ∧ c = c' := by simpa using e
  exact h1

theorem map_one (l : List Int) : ∀ v ∈ l.map (Value.int .i64), v.oneCell' = true := by
  intro v hv
  simp at hv
  obtain ⟨x, _, rfl⟩ := hv
  rfl

def eqIs (l m : List Int) : Bool := decide (l = m)
theorem eqIs_no {l m : List Int} (h : l ≠ m) : eqIs l m = false := by simpa [eqIs] using h
theorem eqIs_yes {l m : List Int} (h : l = m) : eqIs l m = true := by simpa [eqIs] using h

set_option maxHeartbeats 1000000 in
theorem equal_is (w : World) (a a' : Option Addr) (c c' : Nat) (l m : List Int) (hl : l.length ≤ maxLen) (h1 : SlI w a l) (h2 : SlI w a' m) :
    Calls Try.prog 58 #[.slice a l.length c, .slice a' m.length c'] w
      fun e w' => e = .returned (.bool (eqIs l m)) ∧ ∃ n, w' = w.drewN n := by
  have hl' : l.length ≤ 9223372036854775807 := hl
  by_cases hlen : l.length = m.length
  · have hlen' : ((l.length : Int) != (m.length : Int)) = false := by simp [hlen]
    go_enter Try.func58, Try.ntmps58
    go_wp2
    go_loopw [13] (fun i w' => ∃ k n : Nat, k ≤ l.length ∧ i = .int .i64 k ∧ w' = w.drewN n ∧ l.take k = m.take k) (fun i _ => l.length - (intOf i).toNat)
    case atStart => exact ⟨0, 0, Nat.zero_le _, rfl, rfl, rfl⟩
    case round =>
      obtain ⟨k, n, hk, rfl, rfl, hpre⟩ := hrel
      have HP : Hid (l.take k = m.take k) := hpre
      clear hpre
      by_cases hlt : k < l.length
      · have hlt2 : k < m.length := by omega
        obtain ⟨b, off, rfl, hbl, g0⟩ := h1.at k hlt
        obtain ⟨b', off', rfl, hbl', x0⟩ := h2.at k hlt2
        have hlti : (k : Int) < (m.length : Int) := by omega
        have HT1 : Hid (l.take (k + 1) = l.take k ++ [l[k]]) := List.take_succ_eq_append_getElem hlt
        have HT2 : Hid (m.take (k + 1) = m.take k ++ [m[k]]) := List.take_succ_eq_append_getElem hlt2
        have HG : Hid (l = m → l[k] = m[k]) := fun e => by subst e; rfl
        generalize l[k] = s at *
        generalize m[k] = t at *
        by_cases hq : s = t
        · have hq' : (s != t) = false := by simp [hq]
          have HQ : Hid (s = t) := hq
          clear hq
          go_wp2
          go_quiet (fail)
          go_wp2
          go_roundw
          case rel => exact ⟨k + 1, _, by omega, by go_num, rfl, by rw [HT1.out, HT2.out, HP.out, HQ.out]⟩
          case measure => simp [intOf]; omega
        · have hq' : (s != t) = true := by simp [hq]
          have HQ : Hid (s ≠ t) := hq
          clear hq
          go_wp2
          go_quiet (fail)
          go_wp2
          go_ret
          exact ⟨ret_bool ((eqIs_no (fun e => HQ.out (HG.out e))).symm), n + nq, by simp⟩
      · go_wp2
        go_ret
        refine ⟨ret_bool ?_, n, rfl⟩
        have e := HP.out
        rw [List.take_of_length_le (by omega), List.take_of_length_le (by omega)] at e
        exact (eqIs_yes e).symm
  · have hlen' : ((l.length : Int) != (m.length : Int)) = true := by simp; omega
    have HL : Hid (l.length ≠ m.length) := hlen
    clear hlen
    go_enter Try.func58, Try.ntmps58
    go_wp2
    go_ret
    exact ⟨ret_bool ((eqIs_no (by intro e; subst e; exact HL.out rfl)).symm), 0, rfl⟩

set_option maxHeartbeats 1000000 in
theorem cloneInts_any (w : World) (a : Option Addr) (c : Nat) (l : List Int) (hl : l.length ≤ 1000) (h : SlI w a l) :
    Calls Try.prog 53 #[.slice a l.length c] w
      fun e w' => ∃ v, e = .returned v ∧ OwnI w' w.heap.size v l ∧ Below w.heap.size w w' := by
  obtain ⟨i0, hi, hz0, hz1, hz2⟩ := info_parts infoInt
  have hq := fun (W : World) (a : Option Addr) (n c : Nat) => Lib.run_eql_slice_nil (P := Try.prog) W 53 3 a n c 0 0 Try.underlying53
  cases a with
  | none =>
    have hl0 := h.none_nil
    subst hl0
    go_enter Try.func53, Try.ntmps53
    go_wp2
    go_ret
    exact ⟨_, rfl, World.ownsRow_nil _ _ _ _, Below.refl _ _⟩
  | some ad =>
    have hB := Go.Joins.below_alloc1 w (Obj.cells #[] 3)
    have hown : (w.alloc (Obj.cells #[] 3)).ownsRow w.heap.size 3 1 (.slice (some ⟨w.heap.size, 0, none⟩) 0 0) 0 [] :=
      ⟨rfl, Or.inr ⟨w.heap.size, 0, #[], rfl, Nat.le_refl _, blk_new rfl, Nat.le_refl _, by unfold maxLen; omega, rfl, rfl⟩⟩
    have HN : Hid (∀ j u, (l.map (Value.int .i64))[j]? = some u → (w.alloc (Obj.cells #[] 3)).cell? (ad.add j) = some u) := (h.below hB).news
    clear h
    go_enter Try.func53, Try.ntmps53
    go_wp2_with (at_builtin; refine wpList_append_own _ rfl _ _ 53 rfl w.heap.size 3 i0 _ 1 8 Try.underlying53 hi hz0 hz1 hz2 rfl (by decide) _ _ _ rfl hown ad l.length c (l.map (Value.int .i64)) rfl (by simp) ?c1 ?c2 ?c3 ?c4 ?c5 ?_)
    case c1 => exact HN.out
    case c2 => exact map_one l
    case c3 => unfold maxLen; omega
    case c4 => omega
    case c5 => exact hB.size
    · intro v' w1 hown' hgrow _
      have hb1 := hB.trans (below_grown hown hB.size hgrow)
      have hO : OwnI w1 w.heap.size v' l := by simpa [OwnI] using hown'
      clear hgrow hown hown'
      go_wp2
      go_ret
      exact ⟨_, rfl, hO, hb1⟩
end Go.Proofs.Ytdkncnfcgcfopab

/- Plain facts: what an operation leaves of a tree. -/
namespace Orangery

theorem doT_eq {l : List Pl} {o : Mv} (h : doE l o = 0) : doT l o = if ring l o = true then l else inL l o.2.2.1 := by
  unfold doT; rw [if_neg (by simp [h])]
theorem doS_eq {l : List Pl} {o : Mv} (h : doE l o = 0) : doS l o = (o, !ring l o, find l o.2.2.1.1) := by
  unfold doS; rw [if_neg (by simp [h])]

theorem doT_check {l : List Pl} {o : Mv} (h : doE l o = 0) : check (doT l o) = 0 := by
  obtain ⟨h1, h2⟩ := doE_zero h
  obtain ⟨hr, _, _⟩ := opOk_place (checkOp_zero h2)
  rw [doT_eq h]
  cases hring : ring l o
  · exact check_in l _ h1 hr hring
  · exact h1

theorem doT_find {l : List Pl} {o : Mv} (h : doE l o = 0) (n : Int) (hn : n ≠ o.2.2.1.1) : find (doT l o) n = find l n := by
  rw [doT_eq h]
  split
  · rfl
  · rw [find_in, if_neg hn]

theorem doT_moved {l : List Pl} {o : Mv} (h : doE l o = 0) (hr : ring l o = false) : find (doT l o) o.2.2.1.1 = o.2.2.1 := by
  rw [doT_eq h, hr]
  simp [find_in]
end Orangery

