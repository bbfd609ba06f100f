/- 8 texts of the proof: Plain facts: moving a node and back; what the tables and lists of the document's own answer make. move's small functions: within, Check, target, the closures; orangeryref.CheckOp. Slices of whatever elements in memory of the call's own; operations and steps in their cells. cmp.Compare, cmp.Or at ints; tree.byName. Steps and operations held against themselves. Stamps, operations and steps held agai -/
import Derived.Deep.RegionHeld3
import Derived.Sort.Grow
import Derived.Laws.StructEq
import Derived.Test.YthlhnokgcnieeadGreatDoorP02
import Derived.Test.YthlhnokgcnieeadGreatDoorP01
/- Plain facts: moving a node and back; what the tables and lists of the document's own answer make. -/
namespace Orangery

theorem in_self (l : List Pl) (p : Pl) (h : byNode l) (hp : p ∈ l) : inL l p = l := by
  refine (in_unique l l p h ?_ (h.imp (by intro p q h; omega))).symm
  have h1 := out_perm l p
  have key : ∀ m : List Pl, byNode m → p ∈ m → (outL m p.1 ++ [p]).Perm m := by
    intro m
    induction m with
    | nil => intro _ hm; simp at hm
    | cons q m ih =>
      intro hs hm
      replace hs := List.pairwise_cons.1 hs
      by_cases hq : q = p
      · subst hq
        have e : outL (q :: m) q.1 = m := by
          unfold outL
          rw [List.filter_cons]
          simp only [beq_self_eq_true, Bool.not_true, Bool.false_eq_true, if_false]
          rw [List.filter_eq_self]
          intro r hr
          have := hs.1 r hr
          simp; omega
        rw [e]
        exact List.perm_append_comm
      · have hm' : p ∈ m := by simp at hm; rcases hm with rfl | hm; exact absurd rfl hq; exact hm
        have hlt := hs.1 p hm'
        have e : outL (q :: m) p.1 = q :: outL m p.1 := by
          unfold outL
          rw [List.filter_cons, if_pos (by simp; omega)]
        rw [e, List.cons_append]
        exact List.Perm.cons q (ih hs.2 hm')
  exact (key l h hp).symm

theorem out_self (l : List Pl) (n : Int) (h : ∀ p ∈ l, p.1 ≠ n) : outL l n = l := by
  unfold outL
  rw [List.filter_eq_self]
  intro p hp
  simp [h p hp]

theorem out_in (l : List Pl) (p : Pl) : outL (inL l p) p.1 = (l.filter fun q => decide (q.1 < p.1)) ++ (l.filter fun q => decide (p.1 < q.1)) := by
  unfold outL inL
  rw [List.filter_append, List.filter_cons]
  simp only [beq_self_eq_true, Bool.not_true, Bool.false_eq_true, if_false]
  congr 1
  · rw [List.filter_eq_self]; intro q hq; simp at hq; simp; omega
  · rw [List.filter_eq_self]; intro q hq; simp at hq; simp; omega

theorem out_split (l : List Pl) (n : Int) (h : byNode l) : outL l n = (l.filter fun q => decide (q.1 < n)) ++ (l.filter fun q => decide (n < q.1)) := by
  induction l with
  | nil => rfl
  | cons q l ih =>
    replace h := List.pairwise_cons.1 h
    have ih' := ih h.2
    unfold outL at ih' ⊢
    rw [List.filter_cons, List.filter_cons, List.filter_cons]
    rcases Int.lt_trichotomy q.1 n with hq | hq | hq
    · rw [if_pos (by simp; omega), if_pos (by simp; omega), if_neg (by simp; omega), List.cons_append, ih']
    · rw [if_neg (by simp [hq]), if_neg (by simp; omega), if_neg (by simp; omega), ih']
    · have e1 : (l.filter fun r => decide (r.1 < n)) = [] := by
        rw [List.filter_eq_nil_iff]; intro r hr; have := h.1 r hr; simp; omega
      rw [if_pos (by simp; omega), if_neg (by simp; omega), if_pos (by simp; omega), e1, ih', e1]
      rfl

theorem out_in_eq (l : List Pl) (p : Pl) (h : byNode l) : outL (inL l p) p.1 = outL l p.1 := by
  rw [out_in, out_split l _ h]

theorem in_in (l : List Pl) (p q : Pl) (h : byNode l) (e : q.1 = p.1) : inL (inL l p) q = inL l q := by
  refine sorted_unique _ _ (in_sorted l q h) ?_ ((in_sorted _ q (in_sorted l p h)).imp (by intro a b h; omega))
  refine (out_perm _ q).symm.trans ?_
  rw [e, out_in_eq l p h, ← e]
  exact out_perm l q

theorem find_zero (l : List Pl) (n : Int) (h : ∀ p ∈ l, p.1 ≠ n) : find l n = (0, 0, 0) := by
  have := find_append l [] n h
  rw [List.append_nil] at this
  rw [this, find_nil]

/-- where a node was, put back -/
theorem back_in (l : List Pl) (p : Pl) (h : check l = 0) (hz : (find l p.1).1 ≠ 0) : inL (inL l p) (find l p.1) = l := by
  have hb := ((check_iff l).1 h).2.1
  obtain ⟨h1, h2⟩ := find_mem l p.1 hz
  rw [in_in l p _ hb h2, in_self l _ hb h1]
theorem back_out (l : List Pl) (p : Pl) (h : check l = 0) (hz : (find l p.1).1 = 0) : outL (inL l p) p.1 = l := by
  have hc := (check_iff l).1 h
  rw [out_in_eq l p hc.2.1, out_self]
  intro q hq e
  have := find_of_mem hc.2.1 q hq
  rw [e] at this
  rw [this] at hz
  have := (inRangeB_iff q).1 (hc.1 q hq)
  omega

/-- a row of a table by node: the place, or one that says nowhere -/
def tabAt (l : List Pl) (n : Int) : Pl := if (find l n).1 = 0 then (0, -1, 0) else find l n
/-- the places of the rows 1 .. of a table -/
def rows (t : Nat → Pl) (k : Nat) : List Pl := (List.range k).flatMap fun n => if 0 < n ∧ 0 ≤ (t n).2.1 then [t n] else []

theorem rows_zero (t : Nat → Pl) : rows t 0 = [] := rfl
theorem rows_succ (t : Nat → Pl) (k : Nat) : rows t (k + 1) = rows t k ++ if 0 < k ∧ 0 ≤ (t k).2.1 then [t k] else [] := by
  simp [rows, List.range_succ]
theorem rows_len (t : Nat → Pl) (k : Nat) : (rows t k).length ≤ k := by
  induction k with
  | zero => simp [rows_zero]
  | succ k ih =>
    rw [rows_succ, List.length_append]
    split <;> simp <;> omega
theorem rows_congr (t u : Nat → Pl) (k : Nat) (h : ∀ n, n < k → t n = u n) : rows t k = rows u k := by
  induction k with
  | zero => rfl
  | succ k ih => rw [rows_succ, rows_succ, ih (fun n hn => h n (by omega)), h k (by omega)]

theorem rows_below (l : List Pl) (hs : scan 0 l = 0) (k : Nat) : rows (fun n => tabAt l n) k = l.filter fun p => decide (p.1 < (k : Int)) := by
  obtain ⟨h1, h2⟩ := (scan0_iff l).1 hs
  induction k with
  | zero =>
    rw [rows_zero]
    symm
    rw [List.filter_eq_nil_iff]
    intro p hp
    have := (inRangeB_iff p).1 (h1 p hp)
    simp
    omega
  | succ k ih =>
    rw [rows_succ, ih]
    have key : ∀ m : List Pl, (∀ p ∈ m, inRangeB p = true) → byNode m → (m.filter fun p => decide (p.1 < (k : Int))) ++ (if 0 < k ∧ 0 ≤ (tabAt m k).2.1 then [tabAt m k] else []) = m.filter fun p => decide (p.1 < ((k + 1 : Nat) : Int)) := by
      intro m
      induction m with
      | nil =>
        intro _ _
        rw [if_neg (by simp [tabAt, find_nil])]
        rfl
      | cons q m ih =>
        intro hr hb
        replace hb := List.pairwise_cons.1 hb
        have ih' := ih (fun p hp => hr p (by simp [hp])) hb.2
        have hq := (inRangeB_iff q).1 (hr q (by simp))
        rw [List.filter_cons, List.filter_cons]
        rcases Int.lt_trichotomy q.1 (k : Int) with hk | hk | hk
        · have hfc : find (q :: m) (k : Int) = find m (k : Int) := by rw [find_cons, if_neg (by omega)]
          have e : tabAt (q :: m) k = tabAt m k := by unfold tabAt; rw [hfc]
          have d1 : decide (q.1 < (k : Int)) = true := by simp; omega
          have d2 : decide (q.1 < ((k + 1 : Nat) : Int)) = true := by simp; omega
          rw [d1, d2, e, if_pos rfl, if_pos rfl, List.cons_append, ih']
        · have hfc : find (q :: m) (k : Int) = q := by rw [find_cons, if_pos hk]
          have e : tabAt (q :: m) k = q := by unfold tabAt; rw [hfc, if_neg (by omega)]
          have d1 : decide (q.1 < (k : Int)) = false := by simp; omega
          have d2 : decide (q.1 < ((k + 1 : Nat) : Int)) = true := by simp; omega
          have e1 : (m.filter fun r => decide (r.1 < (k : Int))) = [] := by
            rw [List.filter_eq_nil_iff]; intro r hr; have := hb.1 r hr; simp; omega
          have e2 : (m.filter fun r => decide (r.1 < ((k + 1 : Nat) : Int))) = [] := by
            rw [List.filter_eq_nil_iff]; intro r hr; have := hb.1 r hr; simp; omega
          rw [d1, d2, e, e1, e2, if_neg (by simp), if_pos (by omega), if_pos rfl]
          rfl
        · have hf : find (q :: m) (k : Int) = (0, 0, 0) := find_zero _ _ (by
            intro r hr
            simp at hr
            rcases hr with rfl | hr
            · omega
            · have := hb.1 r hr; omega)
          have e : tabAt (q :: m) k = (0, -1, 0) := by unfold tabAt; rw [hf]; rfl
          have e1 : (m.filter fun r => decide (r.1 < (k : Int))) = [] := by
            rw [List.filter_eq_nil_iff]; intro r hr; have := hb.1 r hr; simp; omega
          have e2 : (m.filter fun r => decide (r.1 < ((k + 1 : Nat) : Int))) = [] := by
            rw [List.filter_eq_nil_iff]; intro r hr; have := hb.1 r hr; simp; omega
          have d1 : decide (q.1 < (k : Int)) = false := by simp; omega
          have d2 : decide (q.1 < ((k + 1 : Nat) : Int)) = false := by simp; omega
          rw [d1, d2, e, e1, e2]
          simp
    exact key l h1 h2

theorem rows_all (l : List Pl) (hs : scan 0 l = 0) : rows (fun n => tabAt l n) 16 = l := by
  rw [rows_below l hs, List.filter_eq_self]
  intro p hp
  have := (inRangeB_iff p).1 ((scan0_iff l).1 hs |>.1 p hp)
  simp
  omega

theorem scan_in (l : List Pl) (p : Pl) (h : scan 0 l = 0) (hr : inRangeB p = true) : scan 0 (inL l p) = 0 := by
  obtain ⟨h1, h2⟩ := (scan0_iff l).1 h
  refine (scan0_iff _).2 ⟨?_, in_sorted l p h2⟩
  intro q hq
  rw [in_mem] at hq
  rcases hq with rfl | hq
  · exact hr
  · exact h1 q hq.1

/-- a table with one row set, read as places -/
theorem rows_set (l : List Pl) (p : Pl) (h : scan 0 l = 0) (hr : inRangeB p = true) : rows (fun n => if (n : Int) = p.1 then p else tabAt l n) 16 = inL l p := by
  have hp := (inRangeB_iff p).1 hr
  rw [← rows_all (inL l p) (scan_in l p h hr)]
  apply rows_congr
  intro n _
  unfold tabAt
  rw [find_in]
  by_cases hn : (n : Int) = p.1
  · rw [if_pos hn, if_pos hn, if_neg (by omega)]
  · rw [if_neg hn, if_neg hn]

/-- each place of a node put at another one, or left out -/
def swap (n : Int) (r : List Pl) (l : List Pl) : List Pl := l.flatMap fun p => if p.1 = n then r else [p]
theorem swap_nil (l : List Pl) (n : Int) : swap n [] l = outL l n := by
  induction l with
  | nil => rfl
  | cons q l ih =>
    unfold swap outL at *
    rw [List.flatMap_cons, ih, List.filter_cons]
    by_cases hq : q.1 = n <;> simp [hq]
theorem swap_one (l : List Pl) (n : Int) (p : Pl) (h : byNode l) (hz : (find l n).1 ≠ 0) (hp : p.1 = n) : swap n [p] l = inL l p := by
  subst hp
  have key : ∀ m : List Pl, byNode m → (∃ q ∈ m, q.1 = p.1) → swap p.1 [p] m = inL m p := by
    intro m
    induction m with
    | nil => rintro _ ⟨q, hq, _⟩; simp at hq
    | cons q m ih =>
      rintro hb ⟨r, hr, he⟩
      replace hb := List.pairwise_cons.1 hb
      unfold swap inL at *
      rw [List.flatMap_cons, List.filter_cons, List.filter_cons]
      by_cases hq : q.1 = p.1
      · have e0 : (m.flatMap fun r => if r.1 = p.1 then [p] else [r]) = m := by
          have : ∀ m : List Pl, (∀ r ∈ m, q.1 < r.1) → (m.flatMap fun r => if r.1 = p.1 then [p] else [r]) = m := by
            intro m
            induction m with
            | nil => intro _; rfl
            | cons s m ih =>
              intro h
              have := h s (by simp)
              rw [List.flatMap_cons, if_neg (by omega), ih (fun r hr => h r (by simp [hr]))]
              rfl
          exact this m hb.1
        have e1 : (m.filter fun r => decide (r.1 < p.1)) = [] := by
          rw [List.filter_eq_nil_iff]; intro r hr; have := hb.1 r hr; simp; omega
        have e2 : (m.filter fun r => decide (p.1 < r.1)) = m := by
          rw [List.filter_eq_self]; intro r hr; have := hb.1 r hr; simp; omega
        rw [if_pos hq, if_neg (by simp; omega), if_neg (by simp; omega), e0, e1, e2]
        rfl
      · have hr' : r ∈ m := by
          simp at hr
          rcases hr with rfl | hr
          · exact absurd he hq
          · exact hr
        have hlt := hb.1 r hr'
        rw [if_neg hq, if_pos (by simp; omega), if_neg (by simp; omega), ih hb.2 ⟨r, hr', he⟩]
        rfl
  obtain ⟨h1, h2⟩ := find_mem l p.1 hz
  exact key l h ⟨_, h1, h2⟩

/-- a loop that puts the place at most once does so -/
theorem swap_take (n : Int) (r : List Pl) (l : List Pl) (k : Nat) (h : k < l.length) : swap n r (l.take (k + 1)) = swap n r (l.take k) ++ if l[k].1 = n then r else [l[k]] := by
  unfold swap
  rw [List.take_succ_eq_append_getElem h, List.flatMap_append]
  simp
theorem swap_len (n : Int) (r : List Pl) (hr : r.length ≤ 1) (l : List Pl) : (swap n r l).length ≤ l.length := by
  induction l with
  | nil => simp [swap]
  | cons q l ih =>
    unfold swap at *
    rw [List.flatMap_cons, List.length_append, List.length_cons]
    split
    · omega
    · rw [List.length_singleton]; omega
theorem node_once (l : List Pl) (h : byNode l) (i k : Nat) (hi : i < l.length) (hk : k < l.length) (e : l[i].1 = l[k].1) : i = k := by
  have h' := List.pairwise_iff_getElem.1 h
  rcases Nat.lt_trichotomy i k with hl | hl | hl
  · have := h' i k hi hk hl; omega
  · exact hl
  · have := h' k i hk hi hl; omega

/-- move.Do -/
def doE (l : List Pl) (o : Mv) : Int := orI (check l) (checkOp o)
def ring (l : List Pl) (o : Mv) : Bool := underB l o.2.2.1.2.1 o.2.2.1.1
def doT (l : List Pl) (o : Mv) : List Pl := if doE l o ≠ 0 then [] else if ring l o = true then l else inL l o.2.2.1
def noOp : Mv := (0, 0, (0, 0, 0), 0, 0)
def noStep : Stp := (noOp, false, (0, 0, 0))
def doS (l : List Pl) (o : Mv) : Stp := if doE l o ≠ 0 then noStep else (o, !ring l o, find l o.2.2.1.1)

/-- move.Undo -/
def badB (l : List Pl) (s : Stp) : Bool := (s.2.2.1 != 0 && s.2.2.1 != s.1.2.2.1.1) || decide (find l s.1.2.2.1.1 ≠ s.1.2.2.1)
def goneB (s : Stp) : Bool := s.2.2.1 == 0 || decide (s.2.2.2.1 < 0)
def undoE (l : List Pl) (s : Stp) : Int :=
  if doE l s.1 ≠ 0 then doE l s.1 else if s.2.1 = false then 0 else if badB l s = true then 4 else if goneB s = true then 0 else check (inL l s.2.2)
def undoT (l : List Pl) (s : Stp) : List Pl :=
  if undoE l s ≠ 0 then [] else if s.2.1 = false then l else if goneB s = true then outL l s.1.2.2.1.1 else inL l s.2.2

theorem doE_zero {l : List Pl} {o : Mv} (h : doE l o = 0) : check l = 0 ∧ checkOp o = 0 := by
  unfold doE orI at h
  split at h
  · contradiction
  · rename_i h1
    exact ⟨by simpa using h1, h⟩

/-- what is done is undone -/
theorem undone (l : List Pl) (o : Mv) (h : doE l o = 0) : undoE (doT l o) (doS l o) = 0 ∧ undoT (doT l o) (doS l o) = l := by
  obtain ⟨h1, h2⟩ := doE_zero h
  have hok := checkOp_zero h2
  obtain ⟨hr, hn, hp⟩ := opOk_place hok
  have hrr := (inRangeB_iff _).1 hr
  have eS : doS l o = (o, !ring l o, find l o.2.2.1.1) := by unfold doS; rw [if_neg (by simp [h])]
  have eT : doT l o = if ring l o = true then l else inL l o.2.2.1 := by unfold doT; rw [if_neg (by simp [h])]
  rw [eS, eT]
  cases hring : ring l o
  · simp only [Bool.false_eq_true, if_false, Bool.not_false]
    have hc : check (inL l o.2.2.1) = 0 := check_in l _ h1 hr hring
    have hd : doE (inL l o.2.2.1) o = 0 := by unfold doE orI; rw [if_neg (by simp [hc]), h2]
    have hf : find (inL l o.2.2.1) o.2.2.1.1 = o.2.2.1 := by rw [find_in, if_pos rfl]
    by_cases hz : (find l o.2.2.1.1).1 = 0
    · have hb : badB (inL l o.2.2.1) (o, true, find l o.2.2.1.1) = false := by simp [badB, hz, hf]
      have hg : goneB (o, true, find l o.2.2.1.1) = true := by simp [goneB, hz]
      have e0 : undoE (inL l o.2.2.1) (o, true, find l o.2.2.1.1) = 0 := by simp [undoE, hd, hb, hg]
      refine ⟨e0, ?_⟩
      simp only [undoT, e0, hg]
      simp
      exact back_out l _ h1 hz
    · obtain ⟨hm, he⟩ := find_mem l _ hz
      have hi := (inRangeB_iff _).1 (((check_iff l).1 h1).1 _ hm)
      have hb : badB (inL l o.2.2.1) (o, true, find l o.2.2.1.1) = false := by simp [badB, he, hf]
      have hg : goneB (o, true, find l o.2.2.1.1) = false := by simp [goneB, hz]; omega
      have e1 := back_in l o.2.2.1 h1 hz
      have e0 : undoE (inL l o.2.2.1) (o, true, find l o.2.2.1.1) = 0 := by simp [undoE, hd, hb, hg, e1, h1]
      refine ⟨e0, ?_⟩
      simp only [undoT, e0, hg]
      simp
      exact e1
  · simp only [if_true, Bool.not_true]
    have e0 : undoE l (o, false, find l o.2.2.1.1) = 0 := by simp [undoE, h]
    exact ⟨e0, by simp [undoT, e0]⟩
end Orangery

/- move's small functions: within, Check, target, the closures; orangeryref.CheckOp. -/
namespace Go.Proofs.YthlhnokgcnieeadGreatDoor
open Go.ChangeShapes Go.WideShapes Go.ChangeAt Go.RowKit
open Orangery (Pl Mv Stp opOkB checkOp orI cmpI inRangeB)

/-- the value of an operation -/
abbrev opV (o : Mv) : Value := .agg #[.int .i64 o.1, .int .i64 o.2.1, .int .i64 o.2.2.1.1, .int .i64 o.2.2.1.2.1, .int .i64 o.2.2.1.2.2, .int .i64 o.2.2.2.1, .int .i64 o.2.2.2.2]
/-- the value of a step -/
abbrev stV (s : Stp) : Value := .agg #[.int .i64 s.1.1, .int .i64 s.1.2.1, .int .i64 s.1.2.2.1.1, .int .i64 s.1.2.2.1.2.1, .int .i64 s.1.2.2.1.2.2, .int .i64 s.1.2.2.2.1, .int .i64 s.1.2.2.2.2, .bool s.2.1, .int .i64 s.2.2.1, .int .i64 s.2.2.2.1, .int .i64 s.2.2.2.2]

/-- the cells of an operation, of a step -/
def opC (o : Mv) : List Value := [.int .i64 o.1, .int .i64 o.2.1, .int .i64 o.2.2.1.1, .int .i64 o.2.2.1.2.1, .int .i64 o.2.2.1.2.2, .int .i64 o.2.2.2.1, .int .i64 o.2.2.2.2]
def stC (s : Stp) : List Value := [.int .i64 s.1.1, .int .i64 s.1.2.1, .int .i64 s.1.2.2.1.1, .int .i64 s.1.2.2.1.2.1, .int .i64 s.1.2.2.1.2.2, .int .i64 s.1.2.2.2.1, .int .i64 s.1.2.2.2.2, .bool s.2.1, .int .i64 s.2.2.1, .int .i64 s.2.2.2.1, .int .i64 s.2.2.2.2]
theorem stC_len (s : Stp) : (stC s).length = 11 := rfl
theorem stC_one (s : Stp) : ∀ v ∈ stC s, v.oneCell' = true := by
  intro v hv
  simp [stC] at hv
  rcases hv with rfl | rfl | rfl | rfl | rfl | rfl | rfl | rfl | rfl | rfl | rfl <;> rfl

def inB (n a b : Int) : Bool := decide (a ≤ n ∧ n ≤ b)

set_option maxHeartbeats 400000 in
theorem within_any (w : World) (n a b : Int) :
    Calls Tryz.prog 82 #[.int .i64 n, .int .i64 a, .int .i64 b] w fun e w' => e = .returned (.bool (inB n a b)) ∧ w' = w := by
  by_cases h1 : a ≤ n
  all_goals by_cases h2 : n ≤ b
  all_goals
    go_enter Tryz.func82, Tryz.ntmps82
    go_wp2
    go_ret
    exact ⟨ret_bool (by simp [inB]; try omega), rfl⟩

theorem checkOp_in (o : Mv) : opOkB o = (inB o.1 1 10000 && inB o.2.1 0 2 && inB o.2.2.1.1 1 15 && inB o.2.2.1.2.1 0 16 && inB o.2.2.1.2.2 0 99 && inB o.2.2.2.1 1 50 && inB o.2.2.2.2 1 30) := by
  rw [Bool.eq_iff_iff]
  simp [opOkB, inB]
  omega

set_option maxHeartbeats 2000000 in
theorem moveCheck_any (w : World) (o : Mv) :
    Calls Tryz.prog 62 #[opV o] w fun e w' => e = .returned (.int .i64 (checkOp o)) ∧ Below w.heap.size w w' := by
  have hk := checkOp_in o
  obtain ⟨o1, o2, ⟨o3, o4, o5⟩, o6, o7⟩ := o
  have HE : Hid (checkOp (o1, o2, (o3, o4, o5), o6, o7) = if opOkB (o1, o2, (o3, o4, o5), o6, o7) = true then 0 else 3) := rfl
  have HK : Hid (opOkB (o1, o2, (o3, o4, o5), o6, o7) = (inB o1 1 10000 && inB o2 0 2 && inB o3 1 15 && inB o4 0 16 && inB o5 0 99 && inB o6 1 50 && inB o7 1 30)) := hk
  clear hk
  go_enter Tryz.func62, Tryz.ntmps62
  go_wp2_with fail
  refine (within_any _ o1 _ _).mono ?_
  rintro e w1 ⟨rfl, rfl⟩
  cases h1 : inB o1 1 10000
  · go_wp2
    go_ret
    exact ⟨ret_int (by rw [HE.out, HK.out]; simp [h1]), Go.Joins.below_alloc1 w _⟩
  go_wp2_with fail
  refine (within_any _ o2 _ _).mono ?_
  rintro e w1 ⟨rfl, rfl⟩
  cases h2 : inB o2 0 2
  · go_wp2
    go_ret
    exact ⟨ret_int (by rw [HE.out, HK.out]; simp [h2]), Go.Joins.below_alloc1 w _⟩
  go_wp2_with fail
  refine (within_any _ o3 _ _).mono ?_
  rintro e w1 ⟨rfl, rfl⟩
  cases h3 : inB o3 1 15
  · go_wp2
    go_ret
    exact ⟨ret_int (by rw [HE.out, HK.out]; simp [h3]), Go.Joins.below_alloc1 w _⟩
  go_wp2_with fail
  refine (within_any _ o4 _ _).mono ?_
  rintro e w1 ⟨rfl, rfl⟩
  cases h4 : inB o4 0 16
  · go_wp2
    go_ret
    exact ⟨ret_int (by rw [HE.out, HK.out]; simp [h4]), Go.Joins.below_alloc1 w _⟩
  go_wp2_with fail
  refine (within_any _ o5 _ _).mono ?_
  rintro e w1 ⟨rfl, rfl⟩
  cases h5 : inB o5 0 99
  · go_wp2
    go_ret
    exact ⟨ret_int (by rw [HE.out, HK.out]; simp [h5]), Go.Joins.below_alloc1 w _⟩
  go_wp2_with fail
  refine (within_any _ o6 _ _).mono ?_
  rintro e w1 ⟨rfl, rfl⟩
  cases h6 : inB o6 1 50
  · go_wp2
    go_ret
    exact ⟨ret_int (by rw [HE.out, HK.out]; simp [h6]), Go.Joins.below_alloc1 w _⟩
  go_wp2_with fail
  refine (within_any _ o7 _ _).mono ?_
  rintro e w1 ⟨rfl, rfl⟩
  cases h7 : inB o7 1 30
  · go_wp2
    go_ret
    exact ⟨ret_int (by rw [HE.out, HK.out]; simp [h7]), Go.Joins.below_alloc1 w _⟩
  go_wp2
  go_ret
  exact ⟨ret_int (by rw [HE.out, HK.out]; simp [h1, h2, h3, h4, h5, h6, h7]), Go.Joins.below_alloc1 w _⟩

theorem without1_any (w : World) (p : Pl) (n : Int) (b : Nat) (hb : b < w.heap.size) (hc : w.cell? ⟨b, 0, none⟩ = some (.int .i64 n)) :
    Calls Tryz.prog 158 #[plV p, .pointer (some ⟨b, 0, none⟩)] w fun e w' => e = .returned (.bool (p.1 == n)) ∧ Below w.heap.size w w' := by
  go_enter Tryz.func158, Tryz.ntmps158
  have hne : ¬ w.heap.size = b := by omega
  go_wp2
  go_ret
  exact ⟨rfl, Go.Joins.below_alloc1 w _⟩

set_option maxHeartbeats 400000 in
theorem target_any (w : World) (o : Mv) :
    Calls Tryz.prog 125 #[opV o] w fun e w' => e = .returned (plV o.2.2.1) ∧ Below w.heap.size w w' := by
  obtain ⟨o1, o2, ⟨o3, o4, o5⟩, o6, o7⟩ := o
  go_enter Tryz.func125, Tryz.ntmps125
  go_wp2
  refine bodyPost_ret (v := plV (o3, o4, o5)) (by simp [results, Tryz.results125, go_sem]) rfl ⟨rfl, Go.Joins.below_alloc2 w _ _⟩

theorem ref_in (o : Mv) : opOkB o = (inB o.1 1 10000 && inB o.2.1 0 2 && inRangeB o.2.2.1 && inB o.2.2.2.1 1 50 && inB o.2.2.2.2 1 30) := by
  rw [Bool.eq_iff_iff]
  simp [opOkB, inB, inRangeB]
  omega

end Go.Proofs.YthlhnokgcnieeadGreatDoor

/- Slices of whatever elements in memory of the call's own; operations and steps in their cells. -/
namespace Go.Proofs.YthlhnokgcnieeadGreatDoor
open Go.ChangeShapes Go.WideShapes Go.ChangeAt Go.RowKit
open Orangery (Pl Mv Stp)

/-- a slice of the call's own, of elements of k cells -/
def OwnE {α : Type} (enc : α → List Value) (k : Nat) (e : TypeId) (w : World) (base : Nat) (v : Value) (l : List α) : Prop :=
  w.ownsRow base e k v l.length (l.flatMap enc)

theorem OwnE.row {α : Type} {enc : α → List Value} {k : Nat} {e : TypeId} {w : World} {base : Nat} {v : Value} {l : List α} (h : OwnE enc k e w base v l) : w.ownsRow base e k v l.length (l.flatMap enc) := h

theorem OwnE.val {α : Type} {enc : α → List Value} {k : Nat} {e : TypeId} {w : World} {base : Nat} {v : Value} {l : List α} (h : OwnE enc k e w base v l) :
    ∃ a cap, v = .slice a l.length cap ∧ SlE enc w a l ∧ l.length ≤ cap := by
  obtain ⟨a, cap, e1, h1, _⟩ := own_slE h
  refine ⟨a, cap, e1, h1, ?_⟩
  rcases h.2 with ⟨e2, hn⟩ | ⟨g, cap', cur, e2, _, _, hn, _⟩
  · rw [e1] at e2
    obtain ⟨_, h2, h3⟩ : a = none ∧ l.length = 0 ∧ cap = 0 := by simpa using e2
    omega
  · rw [e1] at e2
    obtain ⟨_, rfl⟩ : a = _ ∧ cap = cap' := by simpa using e2
    exact hn

theorem OwnE.read {α : Type} {enc : α → List Value} {k : Nat} {e : TypeId} {w : World} {base n c : Nat} {a : Option Addr} {l : List α} (h : OwnE enc k e w base (.slice a n c) l) : SlE enc w a l := own_readE h

theorem OwnE.keep {α : Type} {enc : α → List Value} {k : Nat} {e : TypeId} {w w' : World} {base : Nat} {v : Value} {l : List α} (h : OwnE enc k e w base v l) (hb : Below w.heap.size w w') : OwnE enc k e w' base v l := own_below h hb
theorem OwnE.alloc {α : Type} {enc : α → List Value} {k : Nat} {e : TypeId} {w : World} {base : Nat} {v : Value} {l : List α} (h : OwnE enc k e w base v l) (o : Obj) : OwnE enc k e (w.alloc o) base v l := h.keep (Go.Joins.below_alloc1 w o)
theorem OwnE.drew {α : Type} {enc : α → List Value} {k : Nat} {e : TypeId} {w : World} {base : Nat} {v : Value} {l : List α} (h : OwnE enc k e w base v l) : OwnE enc k e w.drew base v l := h
theorem OwnE.mono {α : Type} {enc : α → List Value} {k : Nat} {e : TypeId} {w : World} {base base' : Nat} {v : Value} {l : List α} (h : OwnE enc k e w base v l) (hb : base' ≤ base) : OwnE enc k e w base' v l := by
  obtain ⟨h1, h2⟩ := h
  refine ⟨h1, ?_⟩
  rcases h2 with h2 | ⟨g, cap, cur, e2, hg, r⟩
  · exact Or.inl h2
  · exact Or.inr ⟨g, cap, cur, e2, by omega, r⟩
theorem OwnE.other {α : Type} {enc : α → List Value} {k : Nat} {e : TypeId} {w : World} {base : Nat} {v : Value} {l : List α} (h : OwnE enc k e w base v l) (g : Nat) (hg : g < base) (j : Nat) (u : Value) : OwnE enc k e (w.setCell ⟨g, j, none⟩ u) base v l :=
  ownsRow_setCell_below h (a := ⟨g, j, none⟩) hg u
theorem OwnE.others {α : Type} {enc : α → List Value} {k : Nat} {e : TypeId} {base : Nat} {v : Value} {l : List α} (g : Nat) (hg : g < base) : ∀ (us : List Value) (o : Nat) (w : World), OwnE enc k e w base v l → OwnE enc k e (w.setCells g o us) base v l
  | [], _, _, h => h
  | u :: us, o, _, h => OwnE.others g hg us (o + 1) _ (h.other g hg o u)
/-- an own slice, behind an append to another one -/
theorem OwnE.grown {α : Type} {enc : α → List Value} {k : Nat} {e : TypeId} {w w' : World} {base : Nat} {v : Value} {l : List α} {row : Option Nat} (h : OwnE enc k e w base v l) (hg : w.grownBy w' row) (hne : ∀ g, row = some g → g < base) : OwnE enc k e w' base v l := by
  obtain ⟨h1, h2⟩ := h
  refine ⟨h1, ?_⟩
  rcases h2 with h2 | ⟨g, cap, cur, e2, hb, hh, r⟩
  · exact Or.inl h2
  · refine Or.inr ⟨g, cap, cur, e2, hb, ?_, r⟩
    rw [hg.block g (blk_lt hh) (fun e => by have := hne g e.symm; omega)]
    exact hh
theorem OwnE.nil {α : Type} {enc : α → List Value} {k : Nat} {e : TypeId} (w : World) (base : Nat) : OwnE enc k e w base (.slice none 0 0) ([] : List α) := ⟨by simp, Or.inl ⟨rfl, rfl⟩⟩

theorem OwnS.grown {w w' : World} {base : Nat} {v : Value} {l : List Pl} {row : Option Nat} (h : OwnS w base v l) (hg : w.grownBy w' row) (hne : ∀ g, row = some g → g < base) : OwnS w' base v l :=
  own_pls (OwnE.grown (enc := encPl) (k := 3) (e := 93) h.row hg hne)
theorem OwnS.alloc {w : World} {base : Nat} {v : Value} {l : List Pl} (h : OwnS w base v l) (o : Obj) : OwnS (w.alloc o) base v l := h.below (Go.Joins.below_alloc1 w o)
theorem OwnS.drew {w : World} {base : Nat} {v : Value} {l : List Pl} (h : OwnS w base v l) : OwnS w.drew base v l := h

theorem SlE.at {α : Type} {enc : α → List Value} {k : Nat} (hk : ∀ x, (enc x).length = k) {w : World} {a : Option Addr} {l : List α} (h : SlE enc w a l) (i : Nat) (hi : i < l.length) :
    ∃ b off, a = some ⟨b, off, none⟩ ∧ b < w.heap.size ∧ w.rangeAt b (off + i * k) (enc l[i]) := by
  rcases h with h | ⟨b, off, ha, hb, hr⟩
  · subst h; simp at hi
  · exact ⟨b, off, ha, hb, elemE hk hr i hi⟩
theorem SlE.take {α : Type} {enc : α → List Value} {w : World} {a : Option Addr} {l : List α} (h : SlE enc w a l) (i : Nat) : SlE enc w a (l.take i) := by
  rcases h with h | ⟨b, off, ha, hb, hr⟩
  · subst h; exact Or.inl (by simp)
  · refine Or.inr ⟨b, off, ha, hb, fun j v hv => hr j v ?_⟩
    have e : l.flatMap enc = (l.take i).flatMap enc ++ (l.drop i).flatMap enc := by rw [← List.flatMap_append, List.take_append_drop]
    rw [e, List.getElem?_append_left (List.getElem?_eq_some_iff.1 hv).1]
    exact hv
theorem SlE.drew {α : Type} {enc : α → List Value} {w : World} {a : Option Addr} {l : List α} (h : SlE enc w a l) : SlE enc w.drew a l := h
theorem SlE.nil {α : Type} {enc : α → List Value} {w : World} {a : Option Addr} : SlE enc w a ([] : List α) := Or.inl rfl

theorem opC_len (o : Mv) : (opC o).length = 7 := rfl
theorem opC_one (o : Mv) : ∀ v ∈ opC o, v.oneCell' = true := by
  intro v hv
  simp [opC] at hv
  rcases hv with rfl | rfl | rfl | rfl | rfl | rfl | rfl <;> rfl
theorem flat_oneE {α : Type} {enc : α → List Value} (h : ∀ x, ∀ v ∈ enc x, v.oneCell' = true) (l : List α) : ∀ v ∈ l.flatMap enc, v.oneCell' = true := by
  intro v hv
  rw [List.mem_flatMap] at hv
  obtain ⟨x, _, hx⟩ := hv
  exact h x v hx

theorem op_cells {w : World} {b o : Nat} {x : Mv} (h : w.rangeAt b o (opC x)) :
    w.cell? ⟨b, o, none⟩ = some (.int .i64 x.1) ∧ w.cell? ⟨b, o + 1, none⟩ = some (.int .i64 x.2.1) ∧ w.cell? ⟨b, o + 2, none⟩ = some (.int .i64 x.2.2.1.1) ∧ w.cell? ⟨b, o + 3, none⟩ = some (.int .i64 x.2.2.1.2.1) ∧ w.cell? ⟨b, o + 4, none⟩ = some (.int .i64 x.2.2.1.2.2) ∧ w.cell? ⟨b, o + 5, none⟩ = some (.int .i64 x.2.2.2.1) ∧ w.cell? ⟨b, o + 6, none⟩ = some (.int .i64 x.2.2.2.2) :=
  ⟨h 0 _ rfl, h 1 _ rfl, h 2 _ rfl, h 3 _ rfl, h 4 _ rfl, h 5 _ rfl, h 6 _ rfl⟩
theorem st_cells {w : World} {b o : Nat} {x : Stp} (h : w.rangeAt b o (stC x)) :
    w.cell? ⟨b, o, none⟩ = some (.int .i64 x.1.1) ∧ w.cell? ⟨b, o + 1, none⟩ = some (.int .i64 x.1.2.1) ∧ w.cell? ⟨b, o + 2, none⟩ = some (.int .i64 x.1.2.2.1.1) ∧ w.cell? ⟨b, o + 3, none⟩ = some (.int .i64 x.1.2.2.1.2.1) ∧ w.cell? ⟨b, o + 4, none⟩ = some (.int .i64 x.1.2.2.1.2.2) ∧ w.cell? ⟨b, o + 5, none⟩ = some (.int .i64 x.1.2.2.2.1) ∧ w.cell? ⟨b, o + 6, none⟩ = some (.int .i64 x.1.2.2.2.2) ∧ w.cell? ⟨b, o + 7, none⟩ = some (.bool x.2.1) ∧ w.cell? ⟨b, o + 8, none⟩ = some (.int .i64 x.2.2.1) ∧ w.cell? ⟨b, o + 9, none⟩ = some (.int .i64 x.2.2.2.1) ∧ w.cell? ⟨b, o + 10, none⟩ = some (.int .i64 x.2.2.2.2) :=
  ⟨h 0 _ rfl, h 1 _ rfl, h 2 _ rfl, h 3 _ rfl, h 4 _ rfl, h 5 _ rfl, h 6 _ rfl, h 7 _ rfl, h 8 _ rfl, h 9 _ rfl, h 10 _ rfl⟩

theorem infoOp : (Tryz.prog.info? 41).map (fun i => (i.zero, i.size, i.bytes)) = some (some (.agg #[.int .i64 0, .int .i64 0, .int .i64 0, .int .i64 0, .int .i64 0, .int .i64 0, .int .i64 0]), 7, 56) := by kernel_rfl
theorem infoStep : (Tryz.prog.info? 95).map (fun i => (i.zero, i.size, i.bytes)) = some (some (.agg #[.int .i64 0, .int .i64 0, .int .i64 0, .int .i64 0, .int .i64 0, .int .i64 0, .int .i64 0, .bool false, .int .i64 0, .int .i64 0, .int .i64 0]), 11, 88) := by kernel_rfl
theorem sizeHist : (Tryz.prog.info? 28).map (·.size) = some 2 := by kernel_rfl
theorem sizeStamp : (Tryz.prog.info? 39).map (·.size) = some 2 := by kernel_rfl
/-- the next operation is a store of this type -/
theorem at_store {ops : Array Oper} {Q : Exit → Act → World → Prop} {rest : List Oper} {x y : Operand} {t : TypeId} {pos : String} {after : Array Edge} {a : Act} {w : World} (ty : TypeId)
    (h : wpList Tryz.prog ops Q (⟨none, .store ty x y, t, pos, after, none⟩ :: rest) a w) : wpList Tryz.prog ops Q (⟨none, .store ty x y, t, pos, after, none⟩ :: rest) a w := h
/-- the value of a history -/
abbrev hiV (x y : Value) : Value := .agg #[x, y]
end Go.Proofs.YthlhnokgcnieeadGreatDoor

/- cmp.Compare, cmp.Or at ints; tree.byName. -/
namespace Go.Proofs.YthlhnokgcnieeadGreatDoor
open Go.ChangeShapes Go.WideShapes Go.ChangeAt Go.RowKit
open Orangery (Pl cmpI byN orI)

set_option maxHeartbeats 400000 in
theorem compare_any (w : World) (x y : Int) :
    Calls Tryz.prog 98 #[.int .i64 x, .int .i64 y] w fun e w' => e = .returned (.int .i64 (cmpI x y)) ∧ w' = w := by
  have hx : (x != x) = false := by simp
  have hy : (y != y) = false := by simp
  by_cases h1 : x < y
  · have e : cmpI x y = -1 := by simp [cmpI, h1]
    have HE : Hid (cmpI x y = -1) := e
    clear e
    go_enter Tryz.func98, Tryz.ntmps98
    go_wp2
    go_ret
    exact ⟨ret_int (by rw [HE.out]), rfl⟩
  · by_cases h2 : y < x
    · have e : cmpI x y = 1 := by simp [cmpI, h1, h2]
      have HE : Hid (cmpI x y = 1) := e
      clear e
      go_enter Tryz.func98, Tryz.ntmps98
      go_wp2
      go_ret
      exact ⟨ret_int (by rw [HE.out]), rfl⟩
    · have e : cmpI x y = 0 := by simp [cmpI, h1, h2]
      have HE : Hid (cmpI x y = 0) := e
      clear e
      go_enter Tryz.func98, Tryz.ntmps98
      go_wp2
      go_ret
      exact ⟨ret_int (by rw [HE.out]), rfl⟩

set_option maxHeartbeats 400000 in
theorem or_any (w : World) (b c : Nat) (x y : Int) (h0 : w.cell? ⟨b, 0, none⟩ = some (.int .i64 x)) (h1 : w.cell? ⟨b, 1, none⟩ = some (.int .i64 y)) :
    Calls Tryz.prog 97 #[.slice (some ⟨b, 0, none⟩) 2 c] w fun e w' => e = .returned (.int .i64 (orI x y)) ∧ w' = w := by
  go_enter Tryz.func97, Tryz.ntmps97
  go_wp2
  go_loop [8] (fun i => ∃ k : Nat, k ≤ 2 ∧ i = .int .i64 k ∧ (1 ≤ k → x = 0) ∧ (2 ≤ k → y = 0)) (fun i => 2 - (intOf i).toNat)
  case atStart => exact ⟨0, by omega, rfl, by omega, by omega⟩
  case round =>
    obtain ⟨k, hk, rfl, hx, hy⟩ := hrel
    have hc : k = 0 ∨ k = 1 ∨ k = 2 := by omega
    rcases hc with rfl | rfl | rfl
    · clear hx hy
      by_cases hx : x = 0
      · have hx' : (x != 0) = false := by simp [hx]
        have HX : Hid (x = 0) := hx
        clear hx
        go_wp2
        go_round
        case rel => exact ⟨1, by omega, by go_num, fun _ => HX.out, by omega⟩
        case measure => simp [intOf]
      · have hx' : (x != 0) = true := by simp [hx]
        have HX : Hid (x ≠ 0) := hx
        clear hx
        go_wp2
        go_ret
        exact ⟨ret_int (by rw [orI, if_pos HX.out]), rfl⟩
    · have HX : Hid (x = 0) := hx (by omega)
      clear hx hy
      by_cases hy : y = 0
      · have hy' : (y != 0) = false := by simp [hy]
        have HY : Hid (y = 0) := hy
        clear hy
        go_wp2
        go_round
        case rel => exact ⟨2, by omega, by go_num, fun _ => HX.out, fun _ => HY.out⟩
        case measure => simp [intOf]
      · have hy' : (y != 0) = true := by simp [hy]
        clear hy
        go_wp2
        go_ret
        exact ⟨ret_int (by rw [orI, if_neg (by simp [HX.out])]), rfl⟩
    · have HX : Hid (x = 0) := hx (by omega)
      have HY : Hid (y = 0) := hy (by omega)
      clear hx hy
      go_wp2
      go_ret
      exact ⟨ret_int (by rw [orI, if_neg (by simp [HX.out]), HY.out]), rfl⟩

end Go.Proofs.YthlhnokgcnieeadGreatDoor

/- Steps and operations held against themselves. -/
namespace Go.Proofs.YthlhnokgcnieeadGreatDoor
open Go.ChangeShapes Go.WideShapes Go.ChangeAt Go.RowKit
open Orangery (Pl Mv Stp)

theorem eqin_op (n : Nat) (o1 o2 o3 o4 o5 o6 o7 : Int) (w : World) :
    (Op.equalIn (n + 3) 41 (.agg #[.int .i64 o1, .int .i64 o2, .int .i64 o3, .int .i64 o4, .int .i64 o5, .int .i64 o6, .int .i64 o7]) (.agg #[.int .i64 o1, .int .i64 o2, .int .i64 o3, .int .i64 o4, .int .i64 o5, .int .i64 o6, .int .i64 o7])).run Tryz.prog w = .ok true w := by
  have u3 := Tryz.underlying3
  have a3 := Tryz.isAgg3
  have z3 := Tryz.sizeOf3
  have a4 := Tryz.isAgg39
  have z4 := Tryz.sizeOf39
  have hS : Tryz.prog.underlying 41 = some (.struct (Tryz.prog.fieldsOf 41)) := by kernel_rfl
  have hp : Tryz.prog.stoodInHeld 41 = false := by kernel_rfl
  have hS2 : Tryz.prog.underlying 39 = some (.struct (Tryz.prog.fieldsOf 39)) := by kernel_rfl
  have hp2 : Tryz.prog.stoodInHeld 39 = false := by kernel_rfl
  have hst : ∀ w, (Op.equalIn (n + 2) 39 (.agg #[.int .i64 o1, .int .i64 o2]) (.agg #[.int .i64 o1, .int .i64 o2])).run Tryz.prog w = .ok true w := by
    intro w
    rw [run_equalIn_agg w (n + 1) 39 _ _ hS2 hp2]
    simp only [Program.fieldsOf, Tryz.underlying39]
    go_simp
  rw [run_equalIn_agg w (n + 2) 41 _ _ hS hp]
  simp only [Program.fieldsOf, Tryz.underlying41]
  go_simp

theorem eqin_pl (n : Nat) (o1 o2 o3 : Int) (w : World) :
    (Op.equalIn (n + 2) 93 (.agg #[.int .i64 o1, .int .i64 o2, .int .i64 o3]) (.agg #[.int .i64 o1, .int .i64 o2, .int .i64 o3])).run Tryz.prog w = .ok true w := by
  have u3 := Tryz.underlying3
  have a3 := Tryz.isAgg3
  have z3 := Tryz.sizeOf3
  have hS : Tryz.prog.underlying 93 = some (.struct (Tryz.prog.fieldsOf 93)) := by kernel_rfl
  have hp : Tryz.prog.stoodInHeld 93 = false := by kernel_rfl
  rw [run_equalIn_agg w (n + 1) 93 _ _ hS hp]
  simp only [Program.fieldsOf, Tryz.underlying93]
  go_simp

theorem run_eql_step (s : Stp) (w : World) : (binOp .eql 95 (stV s) (stV s)).run Tryz.prog w = .ok (.bool true) w := by
  have u3 := Tryz.underlying4
  have a3 := Tryz.isAgg4
  have z3 := Tryz.sizeOf4
  have a4 := Tryz.isAgg41
  have z4 := Tryz.sizeOf41
  have a5 := Tryz.isAgg93
  have z5 := Tryz.sizeOf93
  have hS : Tryz.prog.underlying 95 = some (.struct (Tryz.prog.fieldsOf 95)) := by kernel_rfl
  have hp : Tryz.prog.stoodInHeld 95 = false := by kernel_rfl
  have e1 := eqin_op 9996 s.1.1 s.1.2.1 s.1.2.2.1.1 s.1.2.2.1.2.1 s.1.2.2.1.2.2 s.1.2.2.2.1 s.1.2.2.2.2
  have e2 := eqin_pl 9997 s.2.2.1 s.2.2.2.1 s.2.2.2.2
  rw [run_eql_struct, show (10000 : Nat) = 9999 + 1 from rfl, run_equalIn_agg w 9999 95 _ _ hS hp]
  simp only [Program.fieldsOf, Tryz.underlying95]
  go_simp

theorem guard_step (op : BinOp) (x y : Operand) (xs ys : Array Value) (w : World) : (eqGuard op 95 x y (.agg xs) (.agg ys)).run Tryz.prog w = .ok () w :=
  run_eqGuard_agg w op 95 x y xs ys (by kernel_rfl)

theorem run_neq_op (o : Mv) (w : World) : (binOp .neq 41 (opV o) (opV o)).run Tryz.prog w = .ok (.bool false) w := by
  have e1 := eqin_op 9997 o.1 o.2.1 o.2.2.1.1 o.2.2.1.2.1 o.2.2.1.2.2 o.2.2.2.1 o.2.2.2.2 w
  rw [run_neq_struct, show (10000 : Nat) = 9997 + 3 from rfl, e1]
  rfl

theorem guard_op (op : BinOp) (x y : Operand) (xs ys : Array Value) (w : World) : (eqGuard op 41 x y (.agg xs) (.agg ys)).run Tryz.prog w = .ok () w :=
  run_eqGuard_agg w op 41 x y xs ys (by kernel_rfl)
end Go.Proofs.YthlhnokgcnieeadGreatDoor

/- Stamps, operations and steps held against each other, whatever they are. -/
namespace Go.Proofs.YthlhnokgcnieeadGreatDoor
open Go.ChangeShapes Go.WideShapes Go.ChangeAt Go.RowKit
open Orangery (Pl Mv Stp)

theorem eqg_stamp (n : Nat) (a b c d : Int) (w : World) :
    (Op.equalIn (n + 2) 39 (.agg #[.int .i64 a, .int .i64 b]) (.agg #[.int .i64 c, .int .i64 d])).run Tryz.prog w = .ok (decide (a = c ∧ b = d)) w := by
  have u3 := Tryz.underlying3
  have a3 := Tryz.isAgg3
  have z3 := Tryz.sizeOf3
  have hS2 : Tryz.prog.underlying 39 = some (.struct (Tryz.prog.fieldsOf 39)) := by kernel_rfl
  have hp2 : Tryz.prog.stoodInHeld 39 = false := by kernel_rfl
  rw [run_equalIn_agg w (n + 1) 39 _ _ hS2 hp2]
  simp only [Program.fieldsOf, Tryz.underlying39]
  go_simp
  by_cases h1 : a = c <;> by_cases h2 : b = d <;> simp [h1, h2]

theorem eqg_pl (n : Nat) (a b c x y z : Int) (w : World) :
    (Op.equalIn (n + 2) 93 (.agg #[.int .i64 a, .int .i64 b, .int .i64 c]) (.agg #[.int .i64 x, .int .i64 y, .int .i64 z])).run Tryz.prog w = .ok (decide (a = x ∧ b = y ∧ c = z)) w := by
  have u3 := Tryz.underlying3
  have a3 := Tryz.isAgg3
  have z3 := Tryz.sizeOf3
  have hS : Tryz.prog.underlying 93 = some (.struct (Tryz.prog.fieldsOf 93)) := by kernel_rfl
  have hp : Tryz.prog.stoodInHeld 93 = false := by kernel_rfl
  rw [run_equalIn_agg w (n + 1) 93 _ _ hS hp]
  simp only [Program.fieldsOf, Tryz.underlying93]
  go_simp
  by_cases h1 : a = x <;> by_cases h2 : b = y <;> by_cases h3 : c = z <;> simp [h1, h2, h3]

theorem eqg_op (n : Nat) (o p : Mv) (w : World) :
    (Op.equalIn (n + 3) 41 (opV o) (opV p)).run Tryz.prog w = .ok (decide (o = p)) w := by
  obtain ⟨o1, o2, ⟨o3, o4, o5⟩, o6, o7⟩ := o
  obtain ⟨p1, p2, ⟨p3, p4, p5⟩, p6, p7⟩ := p
  have u3 := Tryz.underlying3
  have a3 := Tryz.isAgg3
  have z3 := Tryz.sizeOf3
  have a4 := Tryz.isAgg39
  have z4 := Tryz.sizeOf39
  have hS : Tryz.prog.underlying 41 = some (.struct (Tryz.prog.fieldsOf 41)) := by kernel_rfl
  have hp : Tryz.prog.stoodInHeld 41 = false := by kernel_rfl
  have hst := eqg_stamp n o1 o2 p1 p2
  rw [run_equalIn_agg w (n + 2) 41 _ _ hS hp]
  simp only [Program.fieldsOf, Tryz.underlying41]
  go_simp
  by_cases h1 : o1 = p1
  case neg => simp [h1]
  by_cases h2 : o2 = p2
  case neg => simp [h1, h2]
  by_cases h3 : o3 = p3
  case neg => simp [h1, h2, h3]
  by_cases h4 : o4 = p4
  case neg => simp [h1, h2, h3, h4]
  by_cases h5 : o5 = p5
  case neg => simp [h1, h2, h3, h4, h5]
  by_cases h6 : o6 = p6
  case neg => simp [h1, h2, h3, h4, h5, h6]
  by_cases h7 : o7 = p7
  case neg => simp [h1, h2, h3, h4, h5, h6, h7]
  simp [h1, h2, h3, h4, h5, h6, h7]

theorem run_neq_opg (o p : Mv) (w : World) : (binOp .neq 41 (opV o) (opV p)).run Tryz.prog w = .ok (.bool (!decide (o = p))) w := by
  have e1 := eqg_op 9997 o p w
  rw [run_neq_struct, show (10000 : Nat) = 9997 + 3 from rfl, e1]
  rfl
theorem run_eql_opg (o p : Mv) (w : World) : (binOp .eql 41 (opV o) (opV p)).run Tryz.prog w = .ok (.bool (decide (o = p))) w := by
  have e1 := eqg_op 9997 o p w
  rw [run_eql_struct, show (10000 : Nat) = 9997 + 3 from rfl, e1]
  rfl
theorem run_eql_stamp (a b c d : Int) (w : World) : (binOp .eql 39 (.agg #[.int .i64 a, .int .i64 b]) (.agg #[.int .i64 c, .int .i64 d])).run Tryz.prog w = .ok (.bool (decide (a = c ∧ b = d))) w := by
  have e1 := eqg_stamp 9998 a b c d w
  rw [run_eql_struct, show (10000 : Nat) = 9998 + 2 from rfl, e1]
  rfl
theorem guard_stamp (op : BinOp) (x y : Operand) (xs ys : Array Value) (w : World) : (eqGuard op 39 x y (.agg xs) (.agg ys)).run Tryz.prog w = .ok () w :=
  run_eqGuard_agg w op 39 x y xs ys (by kernel_rfl)

theorem eqg_step (n : Nat) (s t : Stp) (w : World) : (Op.equalIn (n + 4) 95 (stV s) (stV t)).run Tryz.prog w = .ok (decide (s = t)) w := by
  obtain ⟨o, d, ⟨p1, p2, p3⟩⟩ := s
  obtain ⟨q, f, ⟨r1, r2, r3⟩⟩ := t
  have u3 := Tryz.underlying4
  have a3 := Tryz.isAgg4
  have z3 := Tryz.sizeOf4
  have a4 := Tryz.isAgg41
  have z4 := Tryz.sizeOf41
  have a5 := Tryz.isAgg93
  have z5 := Tryz.sizeOf93
  have hS : Tryz.prog.underlying 95 = some (.struct (Tryz.prog.fieldsOf 95)) := by kernel_rfl
  have hp : Tryz.prog.stoodInHeld 95 = false := by kernel_rfl
  have e1 := eqg_op n o q
  have e2 := eqg_pl (n + 1) p1 p2 p3 r1 r2 r3
  rw [run_equalIn_agg w (n + 3) 95 _ _ hS hp]
  simp only [Program.fieldsOf, Tryz.underlying95]
  go_simp
  by_cases h1 : o = q
  case neg => simp [h1]
  by_cases h2 : d = f
  case neg => simp [h1, h2]
  by_cases h3 : p1 = r1
  case neg => simp [h1, h2, h3]
  by_cases h4 : p2 = r2
  case neg => simp [h1, h2, h3, h4]
  by_cases h5 : p3 = r3
  case neg => simp [h1, h2, h3, h4, h5]
  simp [h1, h2, h3, h4, h5]
theorem run_neq_stepg (s t : Stp) (w : World) : (binOp .neq 95 (stV s) (stV t)).run Tryz.prog w = .ok (.bool (!decide (s = t))) w := by
  have e1 := eqg_step 9996 s t w
  rw [run_neq_struct, show (10000 : Nat) = 9996 + 4 from rfl, e1]
  rfl
end Go.Proofs.YthlhnokgcnieeadGreatDoor

/- Plain facts: what an operation leaves of a tree. -/
namespace Orangery

theorem doT_eq {l : List Pl} {o : Mv} (h : doE l o = 0) : doT l o = if ring l o = true then l else inL l o.2.2.1 := by
  unfold doT; rw [if_neg (by simp [h])]
theorem doS_eq {l : List Pl} {o : Mv} (h : doE l o = 0) : doS l o = (o, !ring l o, find l o.2.2.1.1) := by
  unfold doS; rw [if_neg (by simp [h])]

theorem doT_check {l : List Pl} {o : Mv} (h : doE l o = 0) : check (doT l o) = 0 := by
  obtain ⟨h1, h2⟩ := doE_zero h
  obtain ⟨hr, _, _⟩ := opOk_place (checkOp_zero h2)
  rw [doT_eq h]
  cases hring : ring l o
  · exact check_in l _ h1 hr hring
  · exact h1

theorem doT_find {l : List Pl} {o : Mv} (h : doE l o = 0) (n : Int) (hn : n ≠ o.2.2.1.1) : find (doT l o) n = find l n := by
  rw [doT_eq h]
  split
  · rfl
  · rw [find_in, if_neg hn]

theorem doT_moved {l : List Pl} {o : Mv} (h : doE l o = 0) (hr : ring l o = false) : find (doT l o) o.2.2.1.1 = o.2.2.1 := by
  rw [doT_eq h, hr]
  simp [find_in]
end Orangery

/- Plain facts on histories: operations by their stamps, done one by one: runT (the tree), runS (the steps), srt (by rank, of like ranks the first one). -/
namespace Orangery

/-- the rank of an operation's stamp -/
def rk (o : Mv) : Int := o.1 * 3 + o.2.1
abbrev byRk (l : List Mv) : Prop := l.Pairwise fun a b => rk a < rk b

/-- one operation, of a right tree -/
def dT (t : List Pl) (o : Mv) : List Pl := if ring t o = true then t else inL t o.2.2.1
def dS (t : List Pl) (o : Mv) : Stp := (o, !ring t o, find t o.2.2.1.1)
def runT : List Pl → List Mv → List Pl
  | t, [] => t
  | t, o :: l => runT (dT t o) l
def runS : List Pl → List Mv → List Stp
  | _, [] => []
  | t, o :: l => dS t o :: runS (dT t o) l

theorem runT_append (l m : List Mv) : ∀ t, runT t (l ++ m) = runT (runT t l) m := by
  induction l with
  | nil => intro t; rfl
  | cons o l ih => intro t; exact ih _
theorem runS_append (l m : List Mv) : ∀ t, runS t (l ++ m) = runS t l ++ runS (runT t l) m := by
  induction l with
  | nil => intro t; rfl
  | cons o l ih => intro t; show dS t o :: runS (dT t o) (l ++ m) = dS t o :: (runS (dT t o) l ++ runS (runT (dT t o) l) m); rw [ih]
theorem runS_ops (l : List Mv) : ∀ t, (runS t l).map (·.1) = l := by
  induction l with
  | nil => intro t; rfl
  | cons o l ih => intro t; show o :: (runS (dT t o) l).map (·.1) = o :: l; rw [ih]
theorem runS_len (l : List Mv) (t : List Pl) : (runS t l).length = l.length := by
  have := congrArg List.length (runS_ops l t)
  simpa using this

theorem dT_eq {t : List Pl} {o : Mv} (h : doE t o = 0) : doT t o = dT t o ∧ doS t o = dS t o := ⟨doT_eq h, doS_eq h⟩
theorem doE_of {t : List Pl} {o : Mv} (h1 : check t = 0) (h2 : checkOp o = 0) : doE t o = 0 := by
  unfold doE orI
  rw [if_neg (by simp [h1]), h2]
theorem dT_check {t : List Pl} {o : Mv} (h1 : check t = 0) (h2 : checkOp o = 0) : check (dT t o) = 0 := by
  have h := doE_of h1 h2
  rw [← (dT_eq h).1]
  exact doT_check h
theorem runT_check (l : List Mv) : ∀ t, check t = 0 → (∀ o ∈ l, checkOp o = 0) → check (runT t l) = 0 := by
  induction l with
  | nil => intro t h _; exact h
  | cons o l ih => intro t h hl; exact ih _ (dT_check h (hl o (by simp))) (fun p hp => hl p (by simp [hp]))
theorem check_empty : check [] = 0 := by decide

theorem snoc_ind {P : List Mv → Prop} (h0 : P []) (h1 : ∀ l o, P l → P (l ++ [o])) : ∀ l, P l := by
  have key : ∀ r : List Mv, P r.reverse := by
    intro r
    induction r with
    | nil => exact h0
    | cons o r ih => rw [List.reverse_cons]; exact h1 _ _ ih
  intro l
  have := key l.reverse
  rwa [List.reverse_reverse] at this

/-- an operation put in by its rank -/
def insO (o : Mv) (l : List Mv) : List Mv := (l.filter fun x => decide (rk x < rk o)) ++ o :: (l.filter fun x => decide (rk o < rk x))
def hasR (o : Mv) (l : List Mv) : Bool := l.any fun x => rk x == rk o
def addO (l : List Mv) (o : Mv) : List Mv := if hasR o l = true then l else insO o l
def srt (l : List Mv) : List Mv := l.foldl addO []

theorem srt_nil : srt [] = [] := rfl
theorem srt_snoc (l : List Mv) (o : Mv) : srt (l ++ [o]) = addO (srt l) o := by
  unfold srt
  rw [List.foldl_append]
  rfl

theorem hasR_iff (o : Mv) (l : List Mv) : hasR o l = true ↔ ∃ x ∈ l, rk x = rk o := by
  unfold hasR
  rw [List.any_eq_true]
  simp

theorem insO_sorted (o : Mv) (l : List Mv) (h : byRk l) : byRk (insO o l) := by
  unfold insO byRk
  rw [List.pairwise_append]
  refine ⟨h.filter _, ?_, ?_⟩
  · rw [List.pairwise_cons]
    exact ⟨by intro q hq; simp at hq; omega, h.filter _⟩
  · intro q hq r hr
    simp at hq hr
    rcases hr with rfl | hr <;> omega

theorem insO_mem (o : Mv) (l : List Mv) (h : hasR o l = false) (x : Mv) : x ∈ insO o l ↔ x = o ∨ x ∈ l := by
  have hn : ∀ y ∈ l, rk y ≠ rk o := by
    intro y hy e
    have := (hasR_iff o l).2 ⟨y, hy, e⟩
    rw [h] at this
    simp at this
  unfold insO
  rw [List.mem_append, List.mem_cons, List.mem_filter, List.mem_filter]
  simp only [decide_eq_true_eq]
  constructor
  · rintro (⟨h1, _⟩ | h1 | ⟨h1, _⟩)
    · exact Or.inr h1
    · exact Or.inl h1
    · exact Or.inr h1
  · rintro (h1 | h1)
    · exact Or.inr (Or.inl h1)
    · rcases Int.lt_or_gt_of_ne (hn x h1) with h2 | h2
      · exact Or.inl ⟨h1, h2⟩
      · exact Or.inr (Or.inr ⟨h1, h2⟩)

theorem filterM_or (f g : Mv → Bool) (hd : ∀ p, f p = true → g p = false) (l : List Mv) : (l.filter f ++ l.filter g).Perm (l.filter fun p => f p || g p) := by
  induction l with
  | nil => exact List.Perm.refl _
  | cons p l ih =>
    simp only [List.filter_cons]
    cases hf : f p
    · cases hg : g p
      · simpa using ih
      · simp only [Bool.or_true, if_true, Bool.false_eq_true, if_false]
        exact List.perm_middle.trans (List.Perm.cons _ ih)
    · have hg := hd p hf
      simp only [hg, Bool.or_false, if_true, Bool.false_eq_true, if_false, List.cons_append]
      exact List.Perm.cons _ ih

theorem insO_perm (o : Mv) (l : List Mv) (h : hasR o l = false) : (insO o l).Perm (l ++ [o]) := by
  have h1 := filterM_or (fun q => decide (rk q < rk o)) (fun q => decide (rk o < rk q)) (by intro q hq; simp at hq ⊢; omega) l
  have e : (l.filter fun q => decide (rk q < rk o) || decide (rk o < rk q)) = l := by
    rw [List.filter_eq_self]
    intro q hq
    have : rk q ≠ rk o := by
      intro e
      have := (hasR_iff o l).2 ⟨q, hq, e⟩
      rw [h] at this
      simp at this
    simp
    omega
  rw [e] at h1
  unfold insO
  refine List.perm_middle.trans ?_
  refine (List.Perm.cons o h1).trans ?_
  exact List.perm_append_comm (l₁ := [o])

theorem srt_sorted : ∀ l, byRk (srt l) := by
  refine snoc_ind ?_ ?_
  · exact List.Pairwise.nil
  · intro l o ih
    rw [srt_snoc]
    unfold addO
    split
    · exact ih
    · exact insO_sorted o _ ih

theorem srt_first : ∀ l, ∀ d ∈ srt l, l.find? (fun x => rk x == rk d) = some d := by
  refine snoc_ind ?_ ?_
  · intro d hd; simp [srt_nil] at hd
  · intro l o ih d hd
    rw [srt_snoc] at hd
    rw [List.find?_append]
    unfold addO at hd
    split at hd
    · rw [ih d hd]; rfl
    · rename_i hn
      have hn' : hasR o (srt l) = false := by simpa using hn
      rw [insO_mem o _ hn'] at hd
      rcases hd with rfl | hd
      · have : l.find? (fun x => rk x == rk d) = none := by
          rw [List.find?_eq_none]
          intro x hx he
          have he' : rk x = rk d := by simpa using he
          have key : ∀ l : List Mv, ∀ x ∈ l, ∃ y ∈ srt l, rk y = rk x := by
            refine snoc_ind ?_ ?_
            · intro x hx; simp at hx
            · intro l o ih x hx
              rw [srt_snoc]
              unfold addO
              split
              · rename_i hh
                rw [List.mem_append] at hx
                rcases hx with hx | hx
                · exact ih x hx
                · simp at hx
                  subst hx
                  exact (hasR_iff _ _).1 hh
              · rename_i hh
                have hh' : hasR o (srt l) = false := by simpa using hh
                rw [List.mem_append] at hx
                rcases hx with hx | hx
                · obtain ⟨y, hy, e⟩ := ih x hx
                  exact ⟨y, (insO_mem o _ hh' y).2 (Or.inr hy), e⟩
                · simp at hx
                  subst hx
                  exact ⟨x, (insO_mem x _ hh' x).2 (Or.inl rfl), rfl⟩
          obtain ⟨y, hy, e⟩ := key l x hx
          have := (hasR_iff d (srt l)).2 ⟨y, hy, by rw [e, he']⟩
          rw [hn'] at this
          simp at this
        rw [this]
        simp
      · rw [ih d hd]; rfl

theorem srt_all : ∀ l : List Mv, ∀ x ∈ l, ∃ y ∈ srt l, rk y = rk x := by
  refine snoc_ind ?_ ?_
  · intro x hx; simp at hx
  · intro l o ih x hx
    rw [srt_snoc]
    unfold addO
    split
    · rename_i hh
      rw [List.mem_append] at hx
      rcases hx with hx | hx
      · exact ih x hx
      · simp at hx
        subst hx
        exact (hasR_iff _ _).1 hh
    · rename_i hh
      have hh' : hasR o (srt l) = false := by simpa using hh
      rw [List.mem_append] at hx
      rcases hx with hx | hx
      · obtain ⟨y, hy, e⟩ := ih x hx
        exact ⟨y, (insO_mem o _ hh' y).2 (Or.inr hy), e⟩
      · simp at hx
        subst hx
        exact ⟨x, (insO_mem x _ hh' x).2 (Or.inl rfl), rfl⟩

theorem srt_mem (l : List Mv) (d : Mv) (h : d ∈ srt l) : d ∈ l := List.mem_of_find?_eq_some (srt_first l d h)

/-- no two of a like rank -/
abbrev noTwo (l : List Mv) : Prop := l.Pairwise fun a b => rk a ≠ rk b

theorem srt_len : ∀ l, (srt l).length ≤ l.length ∧ (noTwo l → (srt l).Perm l) ∧ (¬ noTwo l → (srt l).length < l.length) := by
  refine snoc_ind ?_ ?_
  · exact ⟨by simp [srt_nil], fun _ => by rw [srt_nil], fun h => absurd List.Pairwise.nil h⟩
  · intro l o ⟨h1, h2, h3⟩
    rw [srt_snoc]
    unfold addO
    have hlast : noTwo (l ++ [o]) ↔ noTwo l ∧ ∀ x ∈ l, rk x ≠ rk o := by
      unfold noTwo
      rw [List.pairwise_append]
      simp
    split
    · rename_i hh
      refine ⟨by simp; omega, fun hn => ?_, fun _ => by simp; omega⟩
      exfalso
      obtain ⟨x, hx, e⟩ := (hasR_iff _ _).1 hh
      exact (hlast.1 hn).2 x (srt_mem l x hx) e
    · rename_i hh
      have hh' : hasR o (srt l) = false := by simpa using hh
      have hp := insO_perm o (srt l) hh'
      have hl := hp.length_eq
      rw [List.length_append] at hl
      refine ⟨by rw [hl]; simp; exact h1, fun hn => ?_, fun hn => ?_⟩
      · exact hp.trans ((h2 (hlast.1 hn).1).append_right [o])
      · rw [hl]
        have : ¬ noTwo l := by
          intro hl'
          apply hn
          rw [hlast]
          refine ⟨hl', fun x hx e => ?_⟩
          obtain ⟨y, hy, e2⟩ := srt_all l x hx
          have := (hasR_iff o (srt l)).2 ⟨y, hy, by rw [e2, e]⟩
          rw [hh'] at this
          simp at this
        have := h3 this
        simp
        exact this

theorem rk_unique (l m : List Mv) (hl : byRk l) (hm : byRk m) (hp : l.Perm m) : l = m := by
  refine List.Perm.eq_of_pairwise (le := fun a b : Mv => rk a ≤ rk b) ?_ (hl.imp (by intro a b h; omega)) (hm.imp (by intro a b h; omega)) hp
  intro a b h1 h2 h3 h4
  have h5 : a ∈ m := hp.mem_iff.1 h1
  have key : ∀ m : List Mv, byRk m → a ∈ m → b ∈ m → rk a = rk b → a = b := by
    intro m
    induction m with
    | nil => intro _ h; simp at h
    | cons x m ih =>
      intro hb ha hbm e
      replace hb := List.pairwise_cons.1 hb
      simp at ha hbm
      rcases ha with rfl | ha <;> rcases hbm with rfl | hbm
      · rfl
      · have := hb.1 b hbm; omega
      · have := hb.1 a ha; omega
      · exact ih hb.2 ha hbm e
  exact key m hm h5 h2 (by omega)

theorem byRk_noTwo {l : List Mv} (h : byRk l) : noTwo l := h.imp (by intro a b h; omega)
theorem noTwo_perm {l m : List Mv} (h : l.Perm m) (hl : noTwo l) : noTwo m :=
  (h.pairwise_iff (by intro a b h e; exact h e.symm)).1 hl

/-- what is in order, and holds the same ones, is what is sorted -/
theorem srt_unique (l m : List Mv) (hm : byRk m) (hp : m.Perm l) : srt l = m :=
  rk_unique _ _ (srt_sorted l) hm (((srt_len l).2.1 (noTwo_perm hp (byRk_noTwo hm))).trans hp.symm)
theorem srt_self (l : List Mv) (h : byRk l) : srt l = l := srt_unique l l h (List.Perm.refl _)
theorem srt_perm (l m : List Mv) (hn : noTwo l) (hp : l.Perm m) : srt l = srt m :=
  srt_unique l (srt m) (srt_sorted m) (((srt_len m).2.1 (noTwo_perm hp hn)).trans hp.symm)
theorem srt_again (l : List Mv) : srt (srt l) = srt l := srt_self _ (srt_sorted l)

/-- the rank ahead of the k-th -/
def lastR (d : List Mv) (k : Nat) : Int := if h : 0 < k ∧ k - 1 < d.length then rk d[k - 1] else -1

/-- the least one above the last one is the next one -/
theorem srt_next (l : List Mv) (k : Nat) (hk : k ≤ (srt l).length) (hpos : ∀ o ∈ l, 0 ≤ rk o) (b : Mv) (hf : l.find? (fun x => rk x == rk b) = some b) (hb : lastR (srt l) k < rk b)
    (hmin : ∀ x ∈ l, lastR (srt l) k < rk x → rk b ≤ rk x) : ∃ h : k < (srt l).length, (srt l)[k] = b := by
  have hbl : b ∈ l := List.mem_of_find?_eq_some hf
  obtain ⟨d, hd, e⟩ := srt_all l b hbl
  have hdb : d = b := by
    have h1 := srt_first l d hd
    rw [e, hf] at h1
    exact (Option.some.inj h1).symm
  subst hdb
  obtain ⟨j, hj, hjd⟩ := List.getElem_of_mem hd
  have hs := List.pairwise_iff_getElem.1 (srt_sorted l)
  have hjk : k ≤ j := by
    rcases Nat.lt_or_ge j k with h | h
    · exfalso
      unfold lastR at hb
      rw [dif_pos ⟨by omega, by omega⟩, ← hjd] at hb
      rcases Nat.lt_or_ge j (k - 1) with h2 | h2
      · have := hs j (k - 1) hj (by omega) h2; omega
      · have e2 : j = k - 1 := by omega
        subst e2
        omega
    · exact h
  have hlt : k < (srt l).length := by omega
  refine ⟨hlt, ?_⟩
  rcases Nat.lt_or_ge k j with h | h
  · exfalso
    have h1 := hs k j hlt hj h
    have h2 : lastR (srt l) k < rk (srt l)[k] := by
      unfold lastR
      split
      · exact hs (k - 1) k (by omega) hlt (by omega)
      · have := hpos _ (srt_mem l _ (List.getElem_mem hlt)); omega
    have h3 := hmin _ (srt_mem l _ (List.getElem_mem hlt)) h2
    rw [hjd] at h1
    omega
  · have e2 : j = k := by omega
    subst e2
    exact hjd

/-- where none is above the last one, all are there -/
theorem srt_none (l : List Mv) (k : Nat) (hk : k ≤ (srt l).length) (hpos : ∀ o ∈ l, 0 ≤ rk o) (hno : ∀ x ∈ l, ¬ lastR (srt l) k < rk x) : k = (srt l).length := by
  rcases Nat.lt_or_ge k (srt l).length with h | h
  · exfalso
    have hs := List.pairwise_iff_getElem.1 (srt_sorted l)
    refine hno _ (srt_mem l _ (List.getElem_mem h)) ?_
    unfold lastR
    split
    · exact hs (k - 1) k (by omega) h (by omega)
    · have := hpos _ (srt_mem l _ (List.getElem_mem h)); omega
  · omega

/-- later ones come behind -/
theorem srt_late (d : List Mv) (o : Mv) (hd : byRk d) (h : ∀ x ∈ d, rk x < rk o) : srt (d ++ [o]) = d ++ [o] := by
  refine srt_self _ ?_
  unfold byRk
  rw [List.pairwise_append]
  refine ⟨hd, by simp, ?_⟩
  intro a ha b hb
  simp at hb
  subst hb
  exact h a ha

theorem rk_pos {o : Mv} (h : checkOp o = 0) : 0 ≤ rk o := by
  have := checkOp_zero h
  simp only [opOkB, decide_eq_true_eq] at this
  unfold rk
  omega
/-- like ranks are like stamps -/
theorem rk_eq {o p : Mv} (ho : checkOp o = 0) (hp : checkOp p = 0) : rk o = rk p ↔ o.1 = p.1 ∧ o.2.1 = p.2.1 := by
  have h1 := checkOp_zero ho
  have h2 := checkOp_zero hp
  simp only [opOkB, decide_eq_true_eq] at h1 h2
  unfold rk
  omega
theorem rk_lt {o p : Mv} (ho : checkOp o = 0) (hp : checkOp p = 0) : rk o < rk p ↔ o.1 < p.1 ∨ (o.1 = p.1 ∧ o.2.1 < p.2.1) := by
  have h1 := checkOp_zero ho
  have h2 := checkOp_zero hp
  simp only [opOkB, decide_eq_true_eq] at h1 h2
  unfold rk
  omega

/-- where the last step of a node that did anything put it -/
def wantAt (n : Int) : Pl → List Stp → Pl
  | p, [] => p
  | p, s :: l => wantAt n (if s.1.2.2.1.1 = n ∧ s.2.1 = true then (n, s.1.2.2.1.2.1, s.1.2.2.1.2.2) else p) l

theorem run_want (n : Int) (l : List Mv) : ∀ t, find (runT t l) n = wantAt n (find t n) (runS t l) := by
  induction l with
  | nil => intro t; rfl
  | cons o l ih =>
    intro t
    show find (runT (dT t o) l) n = wantAt n (if o.2.2.1.1 = n ∧ (!ring t o) = true then (n, o.2.2.1.2.1, o.2.2.1.2.2) else find t n) (runS (dT t o) l)
    rw [ih]
    congr 1
    unfold dT
    cases hr : ring t o
    · rw [if_neg (by simp), find_in]
      by_cases hn : n = o.2.2.1.1
      · subst hn
        simp
      · rw [if_neg hn, if_neg (fun h => hn h.1.symm)]
    · simp
end Orangery

