/- Plain facts: moving a node and back; what the tables and lists of the document's own answer make. -/
import Derived.Test.YtphameoibnimmaaPlainM
namespace Orangery

theorem in_self (l : List Pl) (p : Pl) (h : byNode l) (hp : p ∈ l) : inL l p = l := by
  refine (in_unique l l p h ?_ (h.imp (by intro p q h; omega))).symm
  have h1 := out_perm l p
  have key : ∀ m : List Pl, byNode m → p ∈ m → (outL m p.1 ++ [p]).Perm m := by
    intro m
    induction m with
    | nil => intro _ hm; simp at hm
    | cons q m ih =>
      intro hs hm
      replace hs := List.pairwise_cons.1 hs
      by_cases hq : q = p
      · subst hq
        have e : outL (q :: m) q.1 = m := by
          unfold outL
          rw [List.filter_cons]
          simp only [beq_self_eq_true, Bool.not_true, Bool.false_eq_true, if_false]
          rw [List.filter_eq_self]
          intro r hr
          have := hs.1 r hr
          simp; omega
        rw [e]
        exact List.perm_append_comm
      · have hm' : p ∈ m := by simp at hm; rcases hm with rfl | hm; exact absurd rfl hq; exact hm
        have hlt := hs.1 p hm'
        have e : outL (q :: m) p.1 = q :: outL m p.1 := by
          unfold outL
          rw [List.filter_cons, if_pos (by simp; omega)]
        rw [e, List.cons_append]
        exact List.Perm.cons q (ih hs.2 hm')
  exact (key l h hp).symm

theorem out_self (l : List Pl) (n : Int) (h : ∀ p ∈ l, p.1 ≠ n) : outL l n = l := by
  unfold outL
  rw [List.filter_eq_self]
  intro p hp
  simp [h p hp]

theorem out_in (l : List Pl) (p : Pl) : outL (inL l p) p.1 = (l.filter fun q => decide (q.1 < p.1)) ++ (l.filter fun q => decide (p.1 < q.1)) := by
  unfold outL inL
  rw [List.filter_append, List.filter_cons]
  simp only [beq_self_eq_true, Bool.not_true, Bool.false_eq_true, if_false]
  congr 1
  · rw [List.filter_eq_self]; intro q hq; simp at hq; simp; omega
  · rw [List.filter_eq_self]; intro q hq; simp at hq; simp; omega

theorem out_split (l : List Pl) (n : Int) (h : byNode l) : outL l n = (l.filter fun q => decide (q.1 < n)) ++ (l.filter fun q => decide (n < q.1)) := by
  induction l with
  | nil => rfl
  | cons q l ih =>
    replace h := List.pairwise_cons.1 h
    have ih' := ih h.2
    unfold outL at ih' ⊢
    rw [List.filter_cons, List.filter_cons, List.filter_cons]
    rcases Int.lt_trichotomy q.1 n with hq | hq | hq
    · rw [if_pos (by simp; omega), if_pos (by simp; omega), if_neg (by simp; omega), List.cons_append, ih']
    · rw [if_neg (by simp [hq]), if_neg (by simp; omega), if_neg (by simp; omega), ih']
    · have e1 : (l.filter fun r => decide (r.1 < n)) = [] := by
        rw [List.filter_eq_nil_iff]; intro r hr; have := h.1 r hr; simp; omega
      rw [if_pos (by simp; omega), if_neg (by simp; omega), if_pos (by simp; omega), e1, ih', e1]
      rfl

theorem out_in_eq (l : List Pl) (p : Pl) (h : byNode l) : outL (inL l p) p.1 = outL l p.1 := by
  rw [out_in, out_split l _ h]

theorem in_in (l : List Pl) (p q : Pl) (h : byNode l) (e : q.1 = p.1) : inL (inL l p) q = inL l q := by
  refine sorted_unique _ _ (in_sorted l q h) ?_ ((in_sorted _ q (in_sorted l p h)).imp (by intro a b h; omega))
  refine (out_perm _ q).symm.trans ?_
  rw [e, out_in_eq l p h, ← e]
  exact out_perm l q

theorem find_zero (l : List Pl) (n : Int) (h : ∀ p ∈ l, p.1 ≠ n) : find l n = (0, 0, 0) := by
  have := find_append l [] n h
  rw [List.append_nil] at this
  rw [this, find_nil]

/-- where a node was, put back -/
theorem back_in (l : List Pl) (p : Pl) (h : check l = 0) (hz : (find l p.1).1 ≠ 0) : inL (inL l p) (find l p.1) = l := by
  have hb := ((check_iff l).1 h).2.1
  obtain ⟨h1, h2⟩ := find_mem l p.1 hz
  rw [in_in l p _ hb h2, in_self l _ hb h1]
theorem back_out (l : List Pl) (p : Pl) (h : check l = 0) (hz : (find l p.1).1 = 0) : outL (inL l p) p.1 = l := by
  have hc := (check_iff l).1 h
  rw [out_in_eq l p hc.2.1, out_self]
  intro q hq e
  have := find_of_mem hc.2.1 q hq
  rw [e] at this
  rw [this] at hz
  have := (inRangeB_iff q).1 (hc.1 q hq)
  omega

/-- a row of a table by node: the place, or one that says nowhere -/
def tabAt (l : List Pl) (n : Int) : Pl := if (find l n).1 = 0 then (0, -1, 0) else find l n
/-- the places of the rows 1 .. of a table -/
def rows (t : Nat → Pl) (k : Nat) : List Pl := (List.range k).flatMap fun n => if 0 < n ∧ 0 ≤ (t n).2.1 then [t n] else []

theorem rows_zero (t : Nat → Pl) : rows t 0 = [] := rfl
theorem rows_succ (t : Nat → Pl) (k : Nat) : rows t (k + 1) = rows t k ++ if 0 < k ∧ 0 ≤ (t k).2.1 then [t k] else [] := by
  simp [rows, List.range_succ]
theorem rows_len (t : Nat → Pl) (k : Nat) : (rows t k).length ≤ k := by
  induction k with
  | zero => simp [rows_zero]
  | succ k ih =>
    rw [rows_succ, List.length_append]
    split <;> simp <;> omega
theorem rows_congr (t u : Nat → Pl) (k : Nat) (h : ∀ n, n < k → t n = u n) : rows t k = rows u k := by
  induction k with
  | zero => rfl
  | succ k ih => rw [rows_succ, rows_succ, ih (fun n hn => h n (by omega)), h k (by omega)]

theorem rows_below (l : List Pl) (hs : scan 0 l = 0) (k : Nat) : rows (fun n => tabAt l n) k = l.filter fun p => decide (p.1 < (k : Int)) := by
  obtain ⟨h1, h2⟩ := (scan0_iff l).1 hs
  induction k with
  | zero =>
    rw [rows_zero]
    symm
    rw [List.filter_eq_nil_iff]
    intro p hp
    have := (inRangeB_iff p).1 (h1 p hp)
    simp
    omega
  | succ k ih =>
    rw [rows_succ, ih]
    have key : ∀ m : List Pl, (∀ p ∈ m, inRangeB p = true) → byNode m → (m.filter fun p => decide (p.1 < (k : Int))) ++ (if 0 < k ∧ 0 ≤ (tabAt m k).2.1 then [tabAt m k] else []) = m.filter fun p => decide (p.1 < ((k + 1 : Nat) : Int)) := by
      intro m
      induction m with
      | nil =>
        intro _ _
        rw [if_neg (by simp [tabAt, find_nil])]
        rfl
      | cons q m ih =>
        intro hr hb
        replace hb := List.pairwise_cons.1 hb
        have ih' := ih (fun p hp => hr p (by simp [hp])) hb.2
        have hq := (inRangeB_iff q).1 (hr q (by simp))
        rw [List.filter_cons, List.filter_cons]
        rcases Int.lt_trichotomy q.1 (k : Int) with hk | hk | hk
        · have hfc : find (q :: m) (k : Int) = find m (k : Int) := by rw [find_cons, if_neg (by omega)]
          have e : tabAt (q :: m) k = tabAt m k := by unfold tabAt; rw [hfc]
          have d1 : decide (q.1 < (k : Int)) = true := by simp; omega
          have d2 : decide (q.1 < ((k + 1 : Nat) : Int)) = true := by simp; omega
          rw [d1, d2, e, if_pos rfl, if_pos rfl, List.cons_append, ih']
        · have hfc : find (q :: m) (k : Int) = q := by rw [find_cons, if_pos hk]
          have e : tabAt (q :: m) k = q := by unfold tabAt; rw [hfc, if_neg (by omega)]
          have d1 : decide (q.1 < (k : Int)) = false := by simp; omega
          have d2 : decide (q.1 < ((k + 1 : Nat) : Int)) = true := by simp; omega
          have e1 : (m.filter fun r => decide (r.1 < (k : Int))) = [] := by
            rw [List.filter_eq_nil_iff]; intro r hr; have := hb.1 r hr; simp; omega
          have e2 : (m.filter fun r => decide (r.1 < ((k + 1 : Nat) : Int))) = [] := by
            rw [List.filter_eq_nil_iff]; intro r hr; have := hb.1 r hr; simp; omega
          rw [d1, d2, e, e1, e2, if_neg (by simp), if_pos (by omega), if_pos rfl]
          rfl
        · have hf : find (q :: m) (k : Int) = (0, 0, 0) := find_zero _ _ (by
            intro r hr
            simp at hr
            rcases hr with rfl | hr
            · omega
            · have := hb.1 r hr; omega)
          have e : tabAt (q :: m) k = (0, -1, 0) := by unfold tabAt; rw [hf]; rfl
          have e1 : (m.filter fun r => decide (r.1 < (k : Int))) = [] := by
            rw [List.filter_eq_nil_iff]; intro r hr; have := hb.1 r hr; simp; omega
          have e2 : (m.filter fun r => decide (r.1 < ((k + 1 : Nat) : Int))) = [] := by
            rw [List.filter_eq_nil_iff]; intro r hr; have := hb.1 r hr; simp; omega
          have d1 : decide (q.1 < (k : Int)) = false := by simp; omega
          have d2 : decide (q.1 < ((k + 1 : Nat) : Int)) = false := by simp; omega
          rw [d1, d2, e, e1, e2]
          simp
    exact key l h1 h2

theorem rows_all (l : List Pl) (hs : scan 0 l = 0) : rows (fun n => tabAt l n) 16 = l := by
  rw [rows_below l hs, List.filter_eq_self]
  intro p hp
  have := (inRangeB_iff p).1 ((scan0_iff l).1 hs |>.1 p hp)
  simp
  omega

theorem scan_in (l : List Pl) (p : Pl) (h : scan 0 l = 0) (hr : inRangeB p = true) : scan 0 (inL l p) = 0 := by
  obtain ⟨h1, h2⟩ := (scan0_iff l).1 h
  refine (scan0_iff _).2 ⟨?_, in_sorted l p h2⟩
  intro q hq
  rw [in_mem] at hq
  rcases hq with rfl | hq
  · exact hr
  · exact h1 q hq.1

/-- a table with one row set, read as places -/
theorem rows_set (l : List Pl) (p : Pl) (h : scan 0 l = 0) (hr : inRangeB p = true) : rows (fun n => if (n : Int) = p.1 then p else tabAt l n) 16 = inL l p := by
  have hp := (inRangeB_iff p).1 hr
  rw [← rows_all (inL l p) (scan_in l p h hr)]
  apply rows_congr
  intro n _
  unfold tabAt
  rw [find_in]
  by_cases hn : (n : Int) = p.1
  · rw [if_pos hn, if_pos hn, if_neg (by omega)]
  · rw [if_neg hn, if_neg hn]

/-- each place of a node put at another one, or left out -/
def swap (n : Int) (r : List Pl) (l : List Pl) : List Pl := l.flatMap fun p => if p.1 = n then r else [p]
theorem swap_nil (l : List Pl) (n : Int) : swap n [] l = outL l n := by
  induction l with
  | nil => rfl
  | cons q l ih =>
    unfold swap outL at *
    rw [List.flatMap_cons, ih, List.filter_cons]
    by_cases hq : q.1 = n <;> simp [hq]
theorem swap_one (l : List Pl) (n : Int) (p : Pl) (h : byNode l) (hz : (find l n).1 ≠ 0) (hp : p.1 = n) : swap n [p] l = inL l p := by
  subst hp
  have key : ∀ m : List Pl, byNode m → (∃ q ∈ m, q.1 = p.1) → swap p.1 [p] m = inL m p := by
    intro m
    induction m with
    | nil => rintro _ ⟨q, hq, _⟩; simp at hq
    | cons q m ih =>
      rintro hb ⟨r, hr, he⟩
      replace hb := List.pairwise_cons.1 hb
      unfold swap inL at *
      rw [List.flatMap_cons, List.filter_cons, List.filter_cons]
      by_cases hq : q.1 = p.1
      · have e0 : (m.flatMap fun r => if r.1 = p.1 then [p] else [r]) = m := by
          have : ∀ m : List Pl, (∀ r ∈ m, q.1 < r.1) → (m.flatMap fun r => if r.1 = p.1 then [p] else [r]) = m := by
            intro m
            induction m with
            | nil => intro _; rfl
            | cons s m ih =>
              intro h
              have := h s (by simp)
              rw [List.flatMap_cons, if_neg (by omega), ih (fun r hr => h r (by simp [hr]))]
              rfl
          exact this m hb.1
        have e1 : (m.filter fun r => decide (r.1 < p.1)) = [] := by
          rw [List.filter_eq_nil_iff]; intro r hr; have := hb.1 r hr; simp; omega
        have e2 : (m.filter fun r => decide (p.1 < r.1)) = m := by
          rw [List.filter_eq_self]; intro r hr; have := hb.1 r hr; simp; omega
        rw [if_pos hq, if_neg (by simp; omega), if_neg (by simp; omega), e0, e1, e2]
        rfl
      · have hr' : r ∈ m := by
          simp at hr
          rcases hr with rfl | hr
          · exact absurd he hq
          · exact hr
        have hlt := hb.1 r hr'
        rw [if_neg hq, if_pos (by simp; omega), if_neg (by simp; omega), ih hb.2 ⟨r, hr', he⟩]
        rfl
  obtain ⟨h1, h2⟩ := find_mem l p.1 hz
  exact key l h ⟨_, h1, h2⟩

/-- a loop that puts the place at most once does so -/
theorem swap_take (n : Int) (r : List Pl) (l : List Pl) (k : Nat) (h : k < l.length) : swap n r (l.take (k + 1)) = swap n r (l.take k) ++ if l[k].1 = n then r else [l[k]] := by
  unfold swap
  rw [List.take_succ_eq_append_getElem h, List.flatMap_append]
  simp
theorem swap_len (n : Int) (r : List Pl) (hr : r.length ≤ 1) (l : List Pl) : (swap n r l).length ≤ l.length := by
  induction l with
  | nil => simp [swap]
  | cons q l ih =>
    unfold swap at *
    rw [List.flatMap_cons, List.length_append, List.length_cons]
    split
    · omega
    · rw [List.length_singleton]; omega
theorem node_once (l : List Pl) (h : byNode l) (i k : Nat) (hi : i < l.length) (hk : k < l.length) (e : l[i].1 = l[k].1) : i = k := by
  have h' := List.pairwise_iff_getElem.1 h
  rcases Nat.lt_trichotomy i k with hl | hl | hl
  · have := h' i k hi hk hl; omega
  · exact hl
  · have := h' k i hk hi hl; omega

/-- move.Do -/
def doE (l : List Pl) (o : Mv) : Int := orI (check l) (checkOp o)
def ring (l : List Pl) (o : Mv) : Bool := underB l o.2.2.1.2.1 o.2.2.1.1
def doT (l : List Pl) (o : Mv) : List Pl := if doE l o ≠ 0 then [] else if ring l o = true then l else inL l o.2.2.1
def noOp : Mv := (0, 0, (0, 0, 0), 0, 0)
def noStep : Stp := (noOp, false, (0, 0, 0))
def doS (l : List Pl) (o : Mv) : Stp := if doE l o ≠ 0 then noStep else (o, !ring l o, find l o.2.2.1.1)

/-- move.Undo -/
def badB (l : List Pl) (s : Stp) : Bool := (s.2.2.1 != 0 && s.2.2.1 != s.1.2.2.1.1) || decide (find l s.1.2.2.1.1 ≠ s.1.2.2.1)
def goneB (s : Stp) : Bool := s.2.2.1 == 0 || decide (s.2.2.2.1 < 0)
def undoE (l : List Pl) (s : Stp) : Int :=
  if doE l s.1 ≠ 0 then doE l s.1 else if s.2.1 = false then 0 else if badB l s = true then 4 else if goneB s = true then 0 else check (inL l s.2.2)
def undoT (l : List Pl) (s : Stp) : List Pl :=
  if undoE l s ≠ 0 then [] else if s.2.1 = false then l else if goneB s = true then outL l s.1.2.2.1.1 else inL l s.2.2

theorem doE_zero {l : List Pl} {o : Mv} (h : doE l o = 0) : check l = 0 ∧ checkOp o = 0 := by
  unfold doE orI at h
  split at h
  · contradiction
  · rename_i h1
    exact ⟨by simpa using h1, h⟩

/-- what is done is undone -/
theorem undone (l : List Pl) (o : Mv) (h : doE l o = 0) : undoE (doT l o) (doS l o) = 0 ∧ undoT (doT l o) (doS l o) = l := by
  obtain ⟨h1, h2⟩ := doE_zero h
  have hok := checkOp_zero h2
  obtain ⟨hr, hn, hp⟩ := opOk_place hok
  have hrr := (inRangeB_iff _).1 hr
  have eS : doS l o = (o, !ring l o, find l o.2.2.1.1) := by unfold doS; rw [if_neg (by simp [h])]
  have eT : doT l o = if ring l o = true then l else inL l o.2.2.1 := by unfold doT; rw [if_neg (by simp [h])]
  rw [eS, eT]
  cases hring : ring l o
  · simp only [Bool.false_eq_true, if_false, Bool.not_false]
    have hc : check (inL l o.2.2.1) = 0 := check_in l _ h1 hr hring
    have hd : doE (inL l o.2.2.1) o = 0 := by unfold doE orI; rw [if_neg (by simp [hc]), h2]
    have hf : find (inL l o.2.2.1) o.2.2.1.1 = o.2.2.1 := by rw [find_in, if_pos rfl]
    by_cases hz : (find l o.2.2.1.1).1 = 0
    · have hb : badB (inL l o.2.2.1) (o, true, find l o.2.2.1.1) = false := by simp [badB, hz, hf]
      have hg : goneB (o, true, find l o.2.2.1.1) = true := by simp [goneB, hz]
      have e0 : undoE (inL l o.2.2.1) (o, true, find l o.2.2.1.1) = 0 := by simp [undoE, hd, hb, hg]
      refine ⟨e0, ?_⟩
      simp only [undoT, e0, hg]
      simp
      exact back_out l _ h1 hz
    · obtain ⟨hm, he⟩ := find_mem l _ hz
      have hi := (inRangeB_iff _).1 (((check_iff l).1 h1).1 _ hm)
      have hb : badB (inL l o.2.2.1) (o, true, find l o.2.2.1.1) = false := by simp [badB, he, hf]
      have hg : goneB (o, true, find l o.2.2.1.1) = false := by simp [goneB, hz]; omega
      have e1 := back_in l o.2.2.1 h1 hz
      have e0 : undoE (inL l o.2.2.1) (o, true, find l o.2.2.1.1) = 0 := by simp [undoE, hd, hb, hg, e1, h1]
      refine ⟨e0, ?_⟩
      simp only [undoT, e0, hg]
      simp
      exact e1
  · simp only [if_true, Bool.not_true]
    have e0 : undoE l (o, false, find l o.2.2.1.1) = 0 := by simp [undoE, h]
    exact ⟨e0, by simp [undoT, e0]⟩
end Orangery
