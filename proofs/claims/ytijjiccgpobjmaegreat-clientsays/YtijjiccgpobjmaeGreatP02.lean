/- 6 texts of the proof: Plain facts: moving a node and back; what the tables and lists of the document's own answer make. Plain facts: what an operation leaves of a tree. Plain facts on views: what is known, what is the way up, and that a view of a view is the same. Plain facts on deltas: what goes, what is here, and that it makes the other one. Plain facts on a view's two parts put together. Plain facts for ViewAgain an -/
import Derived.Test.YtijjiccgpobjmaeGreatP01
/- Plain facts: moving a node and back; what the tables and lists of the document's own answer make. -/
namespace Orangery

theorem in_self (l : List Pl) (p : Pl) (h : byNode l) (hp : p ∈ l) : inL l p = l := by
  refine (in_unique l l p h ?_ (h.imp (by intro p q h; omega))).symm
  have h1 := out_perm l p
  have key : ∀ m : List Pl, byNode m → p ∈ m → (outL m p.1 ++ [p]).Perm m := by
    intro m
    induction m with
    | nil => intro _ hm; simp at hm
    | cons q m ih =>
      intro hs hm
      replace hs := List.pairwise_cons.1 hs
      by_cases hq : q = p
      · subst hq
        have e : outL (q :: m) q.1 = m := by
          unfold outL
          rw [List.filter_cons]
          simp only [beq_self_eq_true, Bool.not_true, Bool.false_eq_true, if_false]
          rw [List.filter_eq_self]
          intro r hr
          have := hs.1 r hr
          simp; omega
        rw [e]
        exact List.perm_append_comm
      · have hm' : p ∈ m := by simp at hm; rcases hm with rfl | hm; exact absurd rfl hq; exact hm
        have hlt := hs.1 p hm'
        have e : outL (q :: m) p.1 = q :: outL m p.1 := by
          unfold outL
          rw [List.filter_cons, if_pos (by simp; omega)]
        rw [e, List.cons_append]
        exact List.Perm.cons q (ih hs.2 hm')
  exact (key l h hp).symm

theorem out_self (l : List Pl) (n : Int) (h : ∀ p ∈ l, p.1 ≠ n) : outL l n = l := by
  unfold outL
  rw [List.filter_eq_self]
  intro p hp
  simp [h p hp]

theorem out_in (l : List Pl) (p : Pl) : outL (inL l p) p.1 = (l.filter fun q => decide (q.1 < p.1)) ++ (l.filter fun q => decide (p.1 < q.1)) := by
  unfold outL inL
  rw [List.filter_append, List.filter_cons]
  simp only [beq_self_eq_true, Bool.not_true, Bool.false_eq_true, if_false]
  congr 1
  · rw [List.filter_eq_self]; intro q hq; simp at hq; simp; omega
  · rw [List.filter_eq_self]; intro q hq; simp at hq; simp; omega

theorem out_split (l : List Pl) (n : Int) (h : byNode l) : outL l n = (l.filter fun q => decide (q.1 < n)) ++ (l.filter fun q => decide (n < q.1)) := by
  induction l with
  | nil => rfl
  | cons q l ih =>
    replace h := List.pairwise_cons.1 h
    have ih' := ih h.2
    unfold outL at ih' ⊢
    rw [List.filter_cons, List.filter_cons, List.filter_cons]
    rcases Int.lt_trichotomy q.1 n with hq | hq | hq
    · rw [if_pos (by simp; omega), if_pos (by simp; omega), if_neg (by simp; omega), List.cons_append, ih']
    · rw [if_neg (by simp [hq]), if_neg (by simp; omega), if_neg (by simp; omega), ih']
    · have e1 : (l.filter fun r => decide (r.1 < n)) = [] := by
        rw [List.filter_eq_nil_iff]; intro r hr; have := h.1 r hr; simp; omega
      rw [if_pos (by simp; omega), if_neg (by simp; omega), if_pos (by simp; omega), e1, ih', e1]
      rfl

theorem out_in_eq (l : List Pl) (p : Pl) (h : byNode l) : outL (inL l p) p.1 = outL l p.1 := by
  rw [out_in, out_split l _ h]

theorem in_in (l : List Pl) (p q : Pl) (h : byNode l) (e : q.1 = p.1) : inL (inL l p) q = inL l q := by
  refine sorted_unique _ _ (in_sorted l q h) ?_ ((in_sorted _ q (in_sorted l p h)).imp (by intro a b h; omega))
  refine (out_perm _ q).symm.trans ?_
  rw [e, out_in_eq l p h, ← e]
  exact out_perm l q

theorem find_zero (l : List Pl) (n : Int) (h : ∀ p ∈ l, p.1 ≠ n) : find l n = (0, 0, 0) := by
  have := find_append l [] n h
  rw [List.append_nil] at this
  rw [this, find_nil]

/-- where a node was, put back -/
theorem back_in (l : List Pl) (p : Pl) (h : check l = 0) (hz : (find l p.1).1 ≠ 0) : inL (inL l p) (find l p.1) = l := by
  have hb := ((check_iff l).1 h).2.1
  obtain ⟨h1, h2⟩ := find_mem l p.1 hz
  rw [in_in l p _ hb h2, in_self l _ hb h1]
theorem back_out (l : List Pl) (p : Pl) (h : check l = 0) (hz : (find l p.1).1 = 0) : outL (inL l p) p.1 = l := by
  have hc := (check_iff l).1 h
  rw [out_in_eq l p hc.2.1, out_self]
  intro q hq e
  have := find_of_mem hc.2.1 q hq
  rw [e] at this
  rw [this] at hz
  have := (inRangeB_iff q).1 (hc.1 q hq)
  omega

/-- a row of a table by node: the place, or one that says nowhere -/
def tabAt (l : List Pl) (n : Int) : Pl := if (find l n).1 = 0 then (0, -1, 0) else find l n
/-- the places of the rows 1 .. of a table -/
def rows (t : Nat → Pl) (k : Nat) : List Pl := (List.range k).flatMap fun n => if 0 < n ∧ 0 ≤ (t n).2.1 then [t n] else []

theorem rows_zero (t : Nat → Pl) : rows t 0 = [] := rfl
theorem rows_succ (t : Nat → Pl) (k : Nat) : rows t (k + 1) = rows t k ++ if 0 < k ∧ 0 ≤ (t k).2.1 then [t k] else [] := by
  simp [rows, List.range_succ]
theorem rows_len (t : Nat → Pl) (k : Nat) : (rows t k).length ≤ k := by
  induction k with
  | zero => simp [rows_zero]
  | succ k ih =>
    rw [rows_succ, List.length_append]
    split <;> simp <;> omega
theorem rows_congr (t u : Nat → Pl) (k : Nat) (h : ∀ n, n < k → t n = u n) : rows t k = rows u k := by
  induction k with
  | zero => rfl
  | succ k ih => rw [rows_succ, rows_succ, ih (fun n hn => h n (by omega)), h k (by omega)]

theorem rows_below (l : List Pl) (hs : scan 0 l = 0) (k : Nat) : rows (fun n => tabAt l n) k = l.filter fun p => decide (p.1 < (k : Int)) := by
  obtain ⟨h1, h2⟩ := (scan0_iff l).1 hs
  induction k with
  | zero =>
    rw [rows_zero]
    symm
    rw [List.filter_eq_nil_iff]
    intro p hp
    have := (inRangeB_iff p).1 (h1 p hp)
    simp
    omega
  | succ k ih =>
    rw [rows_succ, ih]
    have key : ∀ m : List Pl, (∀ p ∈ m, inRangeB p = true) → byNode m → (m.filter fun p => decide (p.1 < (k : Int))) ++ (if 0 < k ∧ 0 ≤ (tabAt m k).2.1 then [tabAt m k] else []) = m.filter fun p => decide (p.1 < ((k + 1 : Nat) : Int)) := by
      intro m
      induction m with
      | nil =>
        intro _ _
        rw [if_neg (by simp [tabAt, find_nil])]
        rfl
      | cons q m ih =>
        intro hr hb
        replace hb := List.pairwise_cons.1 hb
        have ih' := ih (fun p hp => hr p (by simp [hp])) hb.2
        have hq := (inRangeB_iff q).1 (hr q (by simp))
        rw [List.filter_cons, List.filter_cons]
        rcases Int.lt_trichotomy q.1 (k : Int) with hk | hk | hk
        · have hfc : find (q :: m) (k : Int) = find m (k : Int) := by rw [find_cons, if_neg (by omega)]
          have e : tabAt (q :: m) k = tabAt m k := by unfold tabAt; rw [hfc]
          have d1 : decide (q.1 < (k : Int)) = true := by simp; omega
          have d2 : decide (q.1 < ((k + 1 : Nat) : Int)) = true := by simp; omega
          rw [d1, d2, e, if_pos rfl, if_pos rfl, List.cons_append, ih']
        · have hfc : find (q :: m) (k : Int) = q := by rw [find_cons, if_pos hk]
          have e : tabAt (q :: m) k = q := by unfold tabAt; rw [hfc, if_neg (by omega)]
          have d1 : decide (q.1 < (k : Int)) = false := by simp; omega
          have d2 : decide (q.1 < ((k + 1 : Nat) : Int)) = true := by simp; omega
          have e1 : (m.filter fun r => decide (r.1 < (k : Int))) = [] := by
            rw [List.filter_eq_nil_iff]; intro r hr; have := hb.1 r hr; simp; omega
          have e2 : (m.filter fun r => decide (r.1 < ((k + 1 : Nat) : Int))) = [] := by
            rw [List.filter_eq_nil_iff]; intro r hr; have := hb.1 r hr; simp; omega
          rw [d1, d2, e, e1, e2, if_neg (by simp), if_pos (by omega), if_pos rfl]
          rfl
        · have hf : find (q :: m) (k : Int) = (0, 0, 0) := find_zero _ _ (by
            intro r hr
            simp at hr
            rcases hr with rfl | hr
            · omega
            · have := hb.1 r hr; omega)
          have e : tabAt (q :: m) k = (0, -1, 0) := by unfold tabAt; rw [hf]; rfl
          have e1 : (m.filter fun r => decide (r.1 < (k : Int))) = [] := by
            rw [List.filter_eq_nil_iff]; intro r hr; have := hb.1 r hr; simp; omega
          have e2 : (m.filter fun r => decide (r.1 < ((k + 1 : Nat) : Int))) = [] := by
            rw [List.filter_eq_nil_iff]; intro r hr; have := hb.1 r hr; simp; omega
          have d1 : decide (q.1 < (k : Int)) = false := by simp; omega
          have d2 : decide (q.1 < ((k + 1 : Nat) : Int)) = false := by simp; omega
          rw [d1, d2, e, e1, e2]
          simp
    exact key l h1 h2

theorem rows_all (l : List Pl) (hs : scan 0 l = 0) : rows (fun n => tabAt l n) 16 = l := by
  rw [rows_below l hs, List.filter_eq_self]
  intro p hp
  have := (inRangeB_iff p).1 ((scan0_iff l).1 hs |>.1 p hp)
  simp
  omega

theorem scan_in (l : List Pl) (p : Pl) (h : scan 0 l = 0) (hr : inRangeB p = true) : scan 0 (inL l p) = 0 := by
  obtain ⟨h1, h2⟩ := (scan0_iff l).1 h
  refine (scan0_iff _).2 ⟨?_, in_sorted l p h2⟩
  intro q hq
  rw [in_mem] at hq
  rcases hq with rfl | hq
  · exact hr
  · exact h1 q hq.1

/-- a table with one row set, read as places -/
theorem rows_set (l : List Pl) (p : Pl) (h : scan 0 l = 0) (hr : inRangeB p = true) : rows (fun n => if (n : Int) = p.1 then p else tabAt l n) 16 = inL l p := by
  have hp := (inRangeB_iff p).1 hr
  rw [← rows_all (inL l p) (scan_in l p h hr)]
  apply rows_congr
  intro n _
  unfold tabAt
  rw [find_in]
  by_cases hn : (n : Int) = p.1
  · rw [if_pos hn, if_pos hn, if_neg (by omega)]
  · rw [if_neg hn, if_neg hn]

/-- each place of a node put at another one, or left out -/
def swap (n : Int) (r : List Pl) (l : List Pl) : List Pl := l.flatMap fun p => if p.1 = n then r else [p]
theorem swap_nil (l : List Pl) (n : Int) : swap n [] l = outL l n := by
  induction l with
  | nil => rfl
  | cons q l ih =>
    unfold swap outL at *
    rw [List.flatMap_cons, ih, List.filter_cons]
    by_cases hq : q.1 = n <;> simp [hq]
theorem swap_one (l : List Pl) (n : Int) (p : Pl) (h : byNode l) (hz : (find l n).1 ≠ 0) (hp : p.1 = n) : swap n [p] l = inL l p := by
  subst hp
  have key : ∀ m : List Pl, byNode m → (∃ q ∈ m, q.1 = p.1) → swap p.1 [p] m = inL m p := by
    intro m
    induction m with
    | nil => rintro _ ⟨q, hq, _⟩; simp at hq
    | cons q m ih =>
      rintro hb ⟨r, hr, he⟩
      replace hb := List.pairwise_cons.1 hb
      unfold swap inL at *
      rw [List.flatMap_cons, List.filter_cons, List.filter_cons]
      by_cases hq : q.1 = p.1
      · have e0 : (m.flatMap fun r => if r.1 = p.1 then [p] else [r]) = m := by
          have : ∀ m : List Pl, (∀ r ∈ m, q.1 < r.1) → (m.flatMap fun r => if r.1 = p.1 then [p] else [r]) = m := by
            intro m
            induction m with
            | nil => intro _; rfl
            | cons s m ih =>
              intro h
              have := h s (by simp)
              rw [List.flatMap_cons, if_neg (by omega), ih (fun r hr => h r (by simp [hr]))]
              rfl
          exact this m hb.1
        have e1 : (m.filter fun r => decide (r.1 < p.1)) = [] := by
          rw [List.filter_eq_nil_iff]; intro r hr; have := hb.1 r hr; simp; omega
        have e2 : (m.filter fun r => decide (p.1 < r.1)) = m := by
          rw [List.filter_eq_self]; intro r hr; have := hb.1 r hr; simp; omega
        rw [if_pos hq, if_neg (by simp; omega), if_neg (by simp; omega), e0, e1, e2]
        rfl
      · have hr' : r ∈ m := by
          simp at hr
          rcases hr with rfl | hr
          · exact absurd he hq
          · exact hr
        have hlt := hb.1 r hr'
        rw [if_neg hq, if_pos (by simp; omega), if_neg (by simp; omega), ih hb.2 ⟨r, hr', he⟩]
        rfl
  obtain ⟨h1, h2⟩ := find_mem l p.1 hz
  exact key l h ⟨_, h1, h2⟩

/-- a loop that puts the place at most once does so -/
theorem swap_take (n : Int) (r : List Pl) (l : List Pl) (k : Nat) (h : k < l.length) : swap n r (l.take (k + 1)) = swap n r (l.take k) ++ if l[k].1 = n then r else [l[k]] := by
  unfold swap
  rw [List.take_succ_eq_append_getElem h, List.flatMap_append]
  simp
theorem swap_len (n : Int) (r : List Pl) (hr : r.length ≤ 1) (l : List Pl) : (swap n r l).length ≤ l.length := by
  induction l with
  | nil => simp [swap]
  | cons q l ih =>
    unfold swap at *
    rw [List.flatMap_cons, List.length_append, List.length_cons]
    split
    · omega
    · rw [List.length_singleton]; omega
theorem node_once (l : List Pl) (h : byNode l) (i k : Nat) (hi : i < l.length) (hk : k < l.length) (e : l[i].1 = l[k].1) : i = k := by
  have h' := List.pairwise_iff_getElem.1 h
  rcases Nat.lt_trichotomy i k with hl | hl | hl
  · have := h' i k hi hk hl; omega
  · exact hl
  · have := h' k i hk hi hl; omega

/-- move.Do -/
def doE (l : List Pl) (o : Mv) : Int := orI (check l) (checkOp o)
def ring (l : List Pl) (o : Mv) : Bool := underB l o.2.2.1.2.1 o.2.2.1.1
def doT (l : List Pl) (o : Mv) : List Pl := if doE l o ≠ 0 then [] else if ring l o = true then l else inL l o.2.2.1
def noOp : Mv := (0, 0, (0, 0, 0), 0, 0)
def noStep : Stp := (noOp, false, (0, 0, 0))
def doS (l : List Pl) (o : Mv) : Stp := if doE l o ≠ 0 then noStep else (o, !ring l o, find l o.2.2.1.1)

/-- move.Undo -/
def badB (l : List Pl) (s : Stp) : Bool := (s.2.2.1 != 0 && s.2.2.1 != s.1.2.2.1.1) || decide (find l s.1.2.2.1.1 ≠ s.1.2.2.1)
def goneB (s : Stp) : Bool := s.2.2.1 == 0 || decide (s.2.2.2.1 < 0)
def undoE (l : List Pl) (s : Stp) : Int :=
  if doE l s.1 ≠ 0 then doE l s.1 else if s.2.1 = false then 0 else if badB l s = true then 4 else if goneB s = true then 0 else check (inL l s.2.2)
def undoT (l : List Pl) (s : Stp) : List Pl :=
  if undoE l s ≠ 0 then [] else if s.2.1 = false then l else if goneB s = true then outL l s.1.2.2.1.1 else inL l s.2.2

theorem doE_zero {l : List Pl} {o : Mv} (h : doE l o = 0) : check l = 0 ∧ checkOp o = 0 := by
  unfold doE orI at h
  split at h
  · contradiction
  · rename_i h1
    exact ⟨by simpa using h1, h⟩

/-- what is done is undone -/
theorem undone (l : List Pl) (o : Mv) (h : doE l o = 0) : undoE (doT l o) (doS l o) = 0 ∧ undoT (doT l o) (doS l o) = l := by
  obtain ⟨h1, h2⟩ := doE_zero h
  have hok := checkOp_zero h2
  obtain ⟨hr, hn, hp⟩ := opOk_place hok
  have hrr := (inRangeB_iff _).1 hr
  have eS : doS l o = (o, !ring l o, find l o.2.2.1.1) := by unfold doS; rw [if_neg (by simp [h])]
  have eT : doT l o = if ring l o = true then l else inL l o.2.2.1 := by unfold doT; rw [if_neg (by simp [h])]
  rw [eS, eT]
  cases hring : ring l o
  · simp only [Bool.false_eq_true, if_false, Bool.not_false]
    have hc : check (inL l o.2.2.1) = 0 := check_in l _ h1 hr hring
    have hd : doE (inL l o.2.2.1) o = 0 := by unfold doE orI; rw [if_neg (by simp [hc]), h2]
    have hf : find (inL l o.2.2.1) o.2.2.1.1 = o.2.2.1 := by rw [find_in, if_pos rfl]
    by_cases hz : (find l o.2.2.1.1).1 = 0
    · have hb : badB (inL l o.2.2.1) (o, true, find l o.2.2.1.1) = false := by simp [badB, hz, hf]
      have hg : goneB (o, true, find l o.2.2.1.1) = true := by simp [goneB, hz]
      have e0 : undoE (inL l o.2.2.1) (o, true, find l o.2.2.1.1) = 0 := by simp [undoE, hd, hb, hg]
      refine ⟨e0, ?_⟩
      simp only [undoT, e0, hg]
      simp
      exact back_out l _ h1 hz
    · obtain ⟨hm, he⟩ := find_mem l _ hz
      have hi := (inRangeB_iff _).1 (((check_iff l).1 h1).1 _ hm)
      have hb : badB (inL l o.2.2.1) (o, true, find l o.2.2.1.1) = false := by simp [badB, he, hf]
      have hg : goneB (o, true, find l o.2.2.1.1) = false := by simp [goneB, hz]; omega
      have e1 := back_in l o.2.2.1 h1 hz
      have e0 : undoE (inL l o.2.2.1) (o, true, find l o.2.2.1.1) = 0 := by simp [undoE, hd, hb, hg, e1, h1]
      refine ⟨e0, ?_⟩
      simp only [undoT, e0, hg]
      simp
      exact e1
  · simp only [if_true, Bool.not_true]
    have e0 : undoE l (o, false, find l o.2.2.1.1) = 0 := by simp [undoE, h]
    exact ⟨e0, by simp [undoT, e0]⟩
end Orangery

/- Plain facts: what an operation leaves of a tree. -/
namespace Orangery

theorem doT_eq {l : List Pl} {o : Mv} (h : doE l o = 0) : doT l o = if ring l o = true then l else inL l o.2.2.1 := by
  unfold doT; rw [if_neg (by simp [h])]
theorem doS_eq {l : List Pl} {o : Mv} (h : doE l o = 0) : doS l o = (o, !ring l o, find l o.2.2.1.1) := by
  unfold doS; rw [if_neg (by simp [h])]

theorem doT_check {l : List Pl} {o : Mv} (h : doE l o = 0) : check (doT l o) = 0 := by
  obtain ⟨h1, h2⟩ := doE_zero h
  obtain ⟨hr, _, _⟩ := opOk_place (checkOp_zero h2)
  rw [doT_eq h]
  cases hring : ring l o
  · exact check_in l _ h1 hr hring
  · exact h1

theorem doT_find {l : List Pl} {o : Mv} (h : doE l o = 0) (n : Int) (hn : n ≠ o.2.2.1.1) : find (doT l o) n = find l n := by
  rw [doT_eq h]
  split
  · rfl
  · rw [find_in, if_neg hn]

theorem doT_moved {l : List Pl} {o : Mv} (h : doE l o = 0) (hr : ring l o = false) : find (doT l o) o.2.2.1.1 = o.2.2.1 := by
  rw [doT_eq h, hr]
  simp [find_in]
end Orangery

/- Plain facts on views: what is known, what is the way up, and that a view of a view is the same. -/
namespace Orangery

/-- a node that is one of the roots, or below one -/
def knB (l : List Pl) (roots : List Int) (n : Int) : Bool := roots.any fun r => underB l n r
/-- another one, above a root -/
def wyB (l : List Pl) (roots : List Int) (n : Int) : Bool := !knB l roots n && roots.any fun r => underB l r n
def viewK (l : List Pl) (roots : List Int) : List Pl := l.filter fun p => knB l roots p.1
def viewW (l : List Pl) (roots : List Int) : List Pl := l.filter fun p => wyB l roots p.1
/-- both -/
def seenB (l : List Pl) (roots : List Int) (n : Int) : Bool := knB l roots n || wyB l roots n
def viewA (l : List Pl) (roots : List Int) : List Pl := l.filter fun p => seenB l roots p.1

/-- roots that may be -/
def rootsE : Int → List Int → Int
  | _, [] => 0
  | a, n :: l => if isNodeB n = false then 5 else if n ≤ a then 6 else rootsE n l
def rootsOk (l : List Int) : Int := if 4 < l.length then 2 else rootsE (-1) l

theorem rootsE_step (l : List Int) (k : Nat) (a : Int) (h : k < l.length) (hs : rootsE a (l.drop k) = rootsE (-1) l) :
    (isNodeB l[k] = false → rootsE (-1) l = 5) ∧ (isNodeB l[k] = true → l[k] ≤ a → rootsE (-1) l = 6) ∧ (isNodeB l[k] = true → ¬ l[k] ≤ a → rootsE l[k] (l.drop (k + 1)) = rootsE (-1) l) := by
  rw [List.drop_eq_getElem_cons h] at hs
  have e : rootsE a (l[k] :: l.drop (k + 1)) = if isNodeB l[k] = false then 5 else if l[k] ≤ a then 6 else rootsE l[k] (l.drop (k + 1)) := rfl
  rw [e] at hs
  refine ⟨fun h1 => ?_, fun h1 h2 => ?_, fun h1 h2 => ?_⟩
  · rw [if_pos h1] at hs; exact hs.symm
  · rw [if_neg (by simp [h1]), if_pos h2] at hs; exact hs.symm
  · rw [if_neg (by simp [h1]), if_neg h2] at hs; exact hs

theorem rootsE_node (l : List Int) : ∀ a, rootsE a l = 0 → (∀ r ∈ l, isNodeB r = true ∧ a < r) ∧ l.Pairwise (· < ·) := by
  induction l with
  | nil => intro a _; exact ⟨by simp, List.Pairwise.nil⟩
  | cons n l ih =>
    intro a h
    unfold rootsE at h
    split at h
    · omega
    · split at h
      · omega
      · rename_i h1 h2
        obtain ⟨h3, h4⟩ := ih n h
        refine ⟨?_, List.pairwise_cons.2 ⟨fun r hr => (h3 r hr).2, h4⟩⟩
        intro r hr
        simp at hr h1
        rcases hr with rfl | hr
        · exact ⟨h1, by omega⟩
        · exact ⟨(h3 r hr).1, by have := (h3 r hr).2; omega⟩
theorem rootsOk_node {l : List Int} (h : rootsOk l = 0) : ∀ r ∈ l, isNodeB r = true := by
  unfold rootsOk at h
  split at h
  · omega
  · exact fun r hr => ((rootsE_node l _ h).1 r hr).1
theorem rootsOk_len {l : List Int} (h : rootsOk l = 0) : l.length ≤ 4 := by
  unfold rootsOk at h
  split at h
  · omega
  · omega

/-- places of some nodes alone -/
theorem find_g (g : Int → Bool) (l : List Pl) (n : Int) : find (l.filter fun p => g p.1) n = if g n = true then find l n else (0, 0, 0) := by
  cases h : g n
  · rw [if_neg (by simp)]
    refine find_zero _ _ ?_
    intro q hq e
    have : g q.1 = true := (List.mem_filter.1 hq).2
    rw [e, h] at this
    simp at this
  · rw [if_pos rfl]
    exact find_filter _ l n (fun q _ e => by rw [e]; exact h)

theorem up_g1 (g : Int → Bool) (l : List Pl) (k : Nat) : ∀ a b, upN (l.filter fun p => g p.1) k a = some b → upN l k a = some b := by
  induction k with
  | zero => intro a b h; exact h
  | succ k ih =>
    intro a b h
    rw [upN, find_g] at h
    rw [upN]
    cases hg : g a
    · rw [hg] at h; simp at h
    · rw [hg] at h
      simp only [if_true] at h
      split at h
      · simp at h
      · rename_i hz
        rw [if_neg hz]
        exact ih _ _ h

theorem up_g2 (g : Int → Bool) (l : List Pl) (k : Nat) : ∀ a b, upN l k a = some b → (∀ i, i < k → ∀ c, upN l i a = some c → g c = true) → upN (l.filter fun p => g p.1) k a = some b := by
  induction k with
  | zero => intro a b h _; exact h
  | succ k ih =>
    intro a b h hg
    have h0 : g a = true := hg 0 (by omega) a rfl
    rw [upN, find_g, h0]
    simp only [if_true]
    rw [upN] at h
    split at h
    · simp at h
    · rename_i hz
      rw [if_neg hz]
      exact ih _ _ h (fun i hi c hc => hg (i + 1) (by omega) c (by rw [upN, if_neg hz]; exact hc))

theorem check_g (g : Int → Bool) (l : List Pl) (h : check l = 0) : check (l.filter fun p => g p.1) = 0 := by
  rw [check_iff] at h ⊢
  obtain ⟨h1, h2, h3⟩ := h
  exact ⟨fun p hp => h1 p (List.mem_filter.1 hp).1, h2.filter _, fun a j hj => h3 a j (up_g1 g l _ _ _ hj)⟩

theorem up_node (l : List Pl) (h : check l = 0) (k : Nat) : ∀ a b, isNodeB a = true → upN l k a = some b → isNodeB b = true := by
  induction k with
  | zero => intro a b ha hb; simp [upN] at hb; subst hb; exact ha
  | succ k ih =>
    intro a b ha hb
    rw [upN] at hb
    split at hb
    · simp at hb
    · rename_i hz
      obtain ⟨hm, _⟩ := find_mem l a hz
      exact ih _ _ (mem_node l h _ hm).2.1 hb

theorem kn_iff (l : List Pl) (roots : List Int) (h : check l = 0) (hr : ∀ r ∈ roots, isNodeB r = true) (n : Int) (hn : isNodeB n = true) : knB l roots n = true ↔ ∃ r ∈ roots, ∃ j, upN l j n = some r := by
  unfold knB
  rw [List.any_eq_true]
  constructor
  · rintro ⟨r, hm, hu⟩; exact ⟨r, hm, (under_iff l n r h hn (hr r hm)).1 hu⟩
  · rintro ⟨r, hm, hu⟩; exact ⟨r, hm, (under_iff l n r h hn (hr r hm)).2 hu⟩
theorem wy_iff (l : List Pl) (roots : List Int) (h : check l = 0) (hr : ∀ r ∈ roots, isNodeB r = true) (n : Int) (hn : isNodeB n = true) : wyB l roots n = true ↔ knB l roots n = false ∧ ∃ r ∈ roots, ∃ j, upN l j r = some n := by
  unfold wyB
  rw [Bool.and_eq_true, List.any_eq_true]
  have e : (!knB l roots n) = true ↔ knB l roots n = false := by simp
  rw [e]
  constructor
  · rintro ⟨h1, r, hm, hu⟩; exact ⟨h1, r, hm, (under_iff l r n h (hr r hm) hn).1 hu⟩
  · rintro ⟨h1, r, hm, hu⟩; exact ⟨h1, r, hm, (under_iff l r n h (hr r hm) hn).2 hu⟩

theorem kn_again (l : List Pl) (roots : List Int) (h : check l = 0) (hr : ∀ r ∈ roots, isNodeB r = true) (n : Int) (hn : isNodeB n = true) : knB (viewA l roots) roots n = knB l roots n := by
  have hc : check (viewA l roots) = 0 := check_g (seenB l roots) l h
  rw [Bool.eq_iff_iff, kn_iff _ roots hc hr n hn, kn_iff l roots h hr n hn]
  constructor
  · rintro ⟨r, hm, j, hj⟩; exact ⟨r, hm, j, up_g1 (seenB l roots) l _ _ _ hj⟩
  · rintro ⟨r, hm, j, hj⟩
    refine ⟨r, hm, j, up_g2 (seenB l roots) l _ _ _ hj ?_⟩
    intro i hi c hc'
    have : knB l roots c = true := (kn_iff l roots h hr c (up_node l h i n c hn hc')).2 ⟨r, hm, j - i, by
      have := upN_add l i (j - i) n
      rw [show i + (j - i) = j by omega, hj, hc'] at this
      exact this.symm⟩
    unfold seenB
    rw [this]
    rfl

theorem wy_again (l : List Pl) (roots : List Int) (h : check l = 0) (hr : ∀ r ∈ roots, isNodeB r = true) (n : Int) (hn : isNodeB n = true) : wyB (viewA l roots) roots n = wyB l roots n := by
  have hc : check (viewA l roots) = 0 := check_g (seenB l roots) l h
  rw [Bool.eq_iff_iff, wy_iff _ roots hc hr n hn, wy_iff l roots h hr n hn, kn_again l roots h hr n hn]
  constructor
  · rintro ⟨h1, r, hm, j, hj⟩; exact ⟨h1, r, hm, j, up_g1 (seenB l roots) l _ _ _ hj⟩
  · rintro ⟨h1, r, hm, j, hj⟩
    refine ⟨h1, r, hm, j, up_g2 (seenB l roots) l _ _ _ hj ?_⟩
    intro i hi c hc'
    have hcn := up_node l h i r c (hr r hm) hc'
    unfold seenB
    cases hk : knB l roots c
    · rw [(wy_iff l roots h hr c hcn).2 ⟨hk, r, hm, i, hc'⟩]; rfl
    · rfl

/-- a view of a view is the same -/
theorem view_again (l : List Pl) (roots : List Int) (h : check l = 0) (hr : ∀ r ∈ roots, isNodeB r = true) :
    check (viewA l roots) = 0 ∧ viewK (viewA l roots) roots = viewK l roots ∧ viewW (viewA l roots) roots = viewW l roots := by
  refine ⟨check_g (seenB l roots) l h, ?_, ?_⟩
  · unfold viewK
    conv => lhs; arg 2; unfold viewA
    rw [List.filter_filter]
    apply List.filter_congr
    intro p hp
    rw [kn_again l roots h hr p.1 (mem_node l h p hp).1]
    unfold seenB
    cases knB l roots p.1 <;> simp
  · unfold viewW
    conv => lhs; arg 2; unfold viewA
    rw [List.filter_filter]
    apply List.filter_congr
    intro p hp
    rw [wy_again l roots h hr p.1 (mem_node l h p hp).1]
    unfold seenB
    cases wyB l roots p.1 <;> simp

/-- what is known and what is the way are apart -/
theorem view_apart (l : List Pl) (roots : List Int) (n : Int) (h : knB l roots n = true) : wyB l roots n = false := by
  unfold wyB
  rw [h]
  rfl
theorem view_perm (l : List Pl) (roots : List Int) : (viewK l roots ++ viewW l roots).Perm (viewA l roots) := by
  exact filter_or _ _ (fun p hp => view_apart l roots p.1 hp) l

/-- who is known, or a root, has all their kids known -/
theorem view_kids (l : List Pl) (roots : List Int) (h : check l = 0) (hr : ∀ r ∈ roots, isNodeB r = true) (p : Pl) (hp : p ∈ l) (hk : knB l roots p.2.1 = true) : knB l roots p.1 = true := by
  obtain ⟨h1, h2, h3, _⟩ := mem_node l h p hp
  obtain ⟨r, hm, j, hj⟩ := (kn_iff l roots h hr _ h2).1 hk
  refine (kn_iff l roots h hr _ h1).2 ⟨r, hm, j + 1, ?_⟩
  have hz : p.1 ≠ 0 := by have := (scan_range l 0 (check_scan l h) p hp).2; omega
  rw [upN, h3, if_neg hz]
  exact hj
theorem root_known (l : List Pl) (roots : List Int) (h : check l = 0) (r : Int) (hr : isNodeB r = true) (hm : r ∈ roots) : knB l roots r = true := by
  unfold knB
  rw [List.any_eq_true]
  exact ⟨r, hm, under_refl l r h hr⟩

/-- with more roots no less is known -/
theorem view_more (l : List Pl) (roots more : List Int) (hs : ∀ r ∈ roots, r ∈ more) (n : Int) (h : knB l roots n = true) : knB l more n = true := by
  unfold knB at *
  rw [List.any_eq_true] at *
  obtain ⟨r, hm, hu⟩ := h
  exact ⟨r, hs r hm, hu⟩

/-- the reference's way to reckon it: on chains -/
theorem kn_chain (l : List Pl) (roots : List Int) (h : check l = 0) (hr : ∀ r ∈ roots, isNodeB r = true) (n : Int) (hn : isNodeB n = true) : knB l roots n = (chain l n).any fun m => hasB m roots := by
  rw [Bool.eq_iff_iff]
  unfold knB
  rw [List.any_eq_true, List.any_eq_true]
  constructor
  · rintro ⟨r, hm, hu⟩
    rw [under_eq l n r h hn (hr r hm)] at hu
    exact ⟨r, by simpa [hasB] using hu, by simpa [hasB] using hm⟩
  · rintro ⟨m, hm, hu⟩
    have hm' : m ∈ roots := by simpa [hasB] using hu
    exact ⟨m, hm', by rw [under_eq l n m h hn (hr m hm')]; simpa [hasB] using hm⟩

theorem chain_head (l : List Pl) (r : Int) (h : check l = 0) (hr : isNodeB r = true) : ∃ t, chain l r = r :: t ∧ r ∉ t := by
  rw [isNodeB_iff] at hr
  obtain ⟨m, ⟨hok, hi, _⟩, _⟩ := chain_inv l r (scan_up (check_scan l h)) hr.1 hr.2
  have hpos := hok.2.2
  have h0 := hi 0 (by omega)
  cases hc : chain l r with
  | nil => rw [hc] at hpos; simp at hpos
  | cons x t =>
    have e : x = r := by
      have : upN l 0 r = some (chain l r)[0] := h0
      simp only [hc, List.getElem_cons_zero, upN] at this
      exact (Option.some.inj this).symm
    subst e
    refine ⟨t, rfl, ?_⟩
    have := hok.1
    rw [hc] at this
    exact (List.nodup_cons.1 this).1

theorem wy_chain (l : List Pl) (roots : List Int) (h : check l = 0) (hr : ∀ r ∈ roots, isNodeB r = true) (n : Int) (hn : isNodeB n = true) (hk : knB l roots n = false) :
    wyB l roots n = roots.any fun r => hasB n ((chain l r).drop 1) := by
  unfold wyB
  rw [hk, Bool.eq_iff_iff]
  simp only [Bool.not_false, Bool.true_and]
  rw [List.any_eq_true, List.any_eq_true]
  constructor
  · rintro ⟨r, hm, hu⟩
    refine ⟨r, hm, ?_⟩
    rw [under_eq l r n h (hr r hm) hn] at hu
    obtain ⟨t, ht, _⟩ := chain_head l r h (hr r hm)
    have hne : n ≠ r := by
      rintro rfl
      rw [root_known l roots h n hn hm] at hk
      simp at hk
    rw [ht] at hu ⊢
    simp [hasB] at hu ⊢
    rcases hu with hu | hu
    · exact absurd hu hne
    · exact hu
  · rintro ⟨r, hm, hu⟩
    refine ⟨r, hm, ?_⟩
    rw [under_eq l r n h (hr r hm) hn]
    obtain ⟨t, ht, _⟩ := chain_head l r h (hr r hm)
    rw [ht] at hu ⊢
    simp [hasB] at hu ⊢
    exact Or.inr hu

/-- a row of a table, of places in whatever order: the last one counts -/
def tabLast (l : List Pl) (n : Int) : Pl := l.foldl (fun t p => if p.1 = n then p else t) (0, -1, 0)
theorem tabLast_snoc (l : List Pl) (p : Pl) (n : Int) : tabLast (l ++ [p]) n = if p.1 = n then p else tabLast l n := by
  unfold tabLast
  rw [List.foldl_append]
  rfl
theorem tabLast_take (l : List Pl) (k : Nat) (h : k < l.length) (n : Int) : tabLast (l.take (k + 1)) n = if n = l[k].1 then l[k] else tabLast (l.take k) n := by
  rw [List.take_succ_eq_append_getElem h, tabLast_snoc]
  by_cases he : l[k].1 = n
  · rw [if_pos he, if_pos he.symm]
  · rw [if_neg he, if_neg (fun e => he e.symm)]
theorem tabLast_append (l m : List Pl) (n : Int) : tabLast (l ++ m) n = m.foldl (fun t p => if p.1 = n then p else t) (tabLast l n) := by
  unfold tabLast
  rw [List.foldl_append]
theorem foldl_at (m : List Pl) (n : Int) (hb : byNode m) (hz : ∀ p ∈ m, p.1 ≠ 0) : ∀ t, m.foldl (fun t p => if p.1 = n then p else t) t = if (find m n).1 = 0 then t else find m n := by
  induction m with
  | nil => intro t; simp [find_nil]
  | cons q m ih =>
    intro t
    replace hb := List.pairwise_cons.1 hb
    rw [List.foldl_cons, ih hb.2 (fun p hp => hz p (by simp [hp])), find_cons]
    by_cases hq : q.1 = n
    · rw [if_pos hq, if_pos hq]
      have hf : find m n = (0, 0, 0) := find_zero m n (fun p hp e => by have := hb.1 p hp; omega)
      rw [hf]
      have := hz q (by simp)
      simp [this]
    · rw [if_neg hq, if_neg hq]
theorem tabLast_eq (l : List Pl) (h : scan 0 l = 0) (n : Int) : tabLast l n = tabAt l n := by
  obtain ⟨h1, h2⟩ := (scan0_iff l).1 h
  unfold tabLast tabAt
  rw [foldl_at l n h2 (fun p hp => by have := (inRangeB_iff p).1 (h1 p hp); omega)]
end Orangery

/- Plain facts on deltas: what goes, what is here, and that it makes the other one. -/
namespace Orangery

/-- two trees in which all are found alike are one -/
theorem ext_find (l m : List Pl) (hl : scan 0 l = 0) (hm : scan 0 m = 0) (h : ∀ n, find l n = find m n) : l = m := by
  rw [← rows_all l hl, ← rows_all m hm]
  apply rows_congr
  intro n _
  unfold tabAt
  rw [h]

def goneL (a b : List Pl) : List Int := (a.filter fun p => decide ((find b p.1).1 = 0)).map (·.1)
def hereL (a b : List Pl) : List Pl := b.filter fun p => decide (find a p.1 ≠ p)
/-- some go, some stand so -/
def appL (l : List Pl) (gone : List Int) (here : List Pl) : List Pl := here.foldl inL (l.filter fun p => !hasB p.1 gone)

theorem find_ins (here : List Pl) (hb : byNode here) (hz : ∀ p ∈ here, p.1 ≠ 0) : ∀ l n, find (here.foldl inL l) n = if (find here n).1 = 0 then find l n else find here n := by
  induction here with
  | nil => intro l n; simp [find_nil]
  | cons q m ih =>
    intro l n
    replace hb := List.pairwise_cons.1 hb
    rw [List.foldl_cons, ih hb.2 (fun p hp => hz p (by simp [hp])), find_cons, find_in]
    by_cases hq : q.1 = n
    · subst hq
      have hf : find m q.1 = (0, 0, 0) := find_zero m q.1 (fun p hp e => by have := hb.1 p hp; omega)
      have := hz q (by simp)
      simp [hf, this]
    · have e1 : (if n = q.1 then q else find l n) = find l n := if_neg (fun e => hq e.symm)
      have e2 : (if q.1 = n then q else find m n) = find m n := if_neg hq
      rw [e1, e2]

theorem find_app (l : List Pl) (gone : List Int) (here : List Pl) (hb : byNode here) (hz : ∀ p ∈ here, p.1 ≠ 0) (n : Int) :
    find (appL l gone here) n = if (find here n).1 = 0 then (if hasB n gone = true then (0, 0, 0) else find l n) else find here n := by
  unfold appL
  rw [find_ins here hb hz]
  have h := find_g (fun m => !hasB m gone) l n
  rw [h]
  cases hasB n gone <;> simp

theorem scan_filter (l : List Pl) (f : Pl → Bool) (h : scan 0 l = 0) : scan 0 (l.filter f) = 0 := by
  obtain ⟨h1, h2⟩ := (scan0_iff l).1 h
  exact (scan0_iff _).2 ⟨fun p hp => h1 p (List.mem_filter.1 hp).1, h2.filter _⟩

theorem scan_ins (here : List Pl) (hr : ∀ p ∈ here, inRangeB p = true) : ∀ l, scan 0 l = 0 → scan 0 (here.foldl inL l) = 0 := by
  induction here with
  | nil => intro l h; exact h
  | cons q m ih => intro l h; exact ih (fun p hp => hr p (by simp [hp])) _ (scan_in l q h (hr q (by simp)))

theorem scan_app (l : List Pl) (gone : List Int) (here : List Pl) (hl : scan 0 l = 0) (hh : scan 0 here = 0) : scan 0 (appL l gone here) = 0 :=
  scan_ins here ((scan0_iff here).1 hh).1 _ (scan_filter l _ hl)

theorem find_here (a b : List Pl) (hb : scan 0 b = 0) (n : Int) : find (hereL a b) n = if find a n = find b n then (0, 0, 0) else find b n := by
  obtain ⟨h1, h2⟩ := (scan0_iff b).1 hb
  by_cases hz : (find b n).1 = 0
  · have hno : ∀ p ∈ b, p.1 ≠ n := by
      intro p hp e
      have := find_of_mem h2 p hp
      rw [e] at this
      rw [this] at hz
      have := (inRangeB_iff p).1 (h1 p hp)
      omega
    have e1 : find b n = (0, 0, 0) := find_zero b n hno
    have e2 : find (hereL a b) n = (0, 0, 0) := find_zero _ n (fun p hp => hno p (List.mem_filter.1 hp).1)
    rw [e1, e2]
    simp
  · obtain ⟨hm, hn⟩ := find_mem b n hz
    by_cases he : find a n = find b n
    · rw [if_pos he]
      refine find_zero _ n ?_
      intro p hp e
      obtain ⟨hp1, hp2⟩ := List.mem_filter.1 hp
      have h3 := find_of_mem h2 p hp1
      rw [e] at h3
      simp only [decide_eq_true_eq] at hp2
      rw [e, he, h3] at hp2
      exact hp2 rfl
    · rw [if_neg he]
      refine find_filter _ b n ?_
      intro p hp e
      have h3 := find_of_mem h2 p hp
      rw [e] at h3
      simp only [decide_eq_true_eq]
      rw [e, ← h3]
      exact he

theorem gone_iff (a b : List Pl) (ha : scan 0 a = 0) (n : Int) : hasB n (goneL a b) = true ↔ (find a n).1 ≠ 0 ∧ (find b n).1 = 0 := by
  obtain ⟨h1, h2⟩ := (scan0_iff a).1 ha
  unfold hasB goneL
  rw [decide_eq_true_eq, List.mem_map]
  constructor
  · rintro ⟨p, hp, rfl⟩
    obtain ⟨hp1, hp2⟩ := List.mem_filter.1 hp
    refine ⟨?_, by simpa using hp2⟩
    rw [find_of_mem h2 p hp1]
    have := (inRangeB_iff p).1 (h1 p hp1)
    omega
  · rintro ⟨h3, h4⟩
    obtain ⟨hm, hn⟩ := find_mem a n h3
    exact ⟨find a n, List.mem_filter.2 ⟨hm, by rw [hn]; simpa using h4⟩, hn⟩

theorem find_none (l : List Pl) (h : scan 0 l = 0) (n : Int) (hz : (find l n).1 = 0) : find l n = (0, 0, 0) := by
  obtain ⟨h1, h2⟩ := (scan0_iff l).1 h
  refine find_zero l n ?_
  intro p hp e
  have := find_of_mem h2 p hp
  rw [e] at this
  rw [this] at hz
  have := (inRangeB_iff p).1 (h1 p hp)
  omega

/-- what changes, applied, makes the other one -/
theorem delta_makes (a b : List Pl) (ha : scan 0 a = 0) (hb : scan 0 b = 0) : appL a (goneL a b) (hereL a b) = b := by
  obtain ⟨h1, h2⟩ := (scan0_iff b).1 hb
  have hh : scan 0 (hereL a b) = 0 := scan_filter b _ hb
  obtain ⟨h3, h4⟩ := (scan0_iff _).1 hh
  refine ext_find _ _ (scan_app a _ _ ha hh) hb ?_
  intro n
  rw [find_app a _ _ h4 (fun p hp => by have := (inRangeB_iff p).1 (h3 p hp); omega), find_here a b hb]
  by_cases he : find a n = find b n
  · rw [if_pos he]
    simp only [if_true]
    rw [if_neg, he]
    rw [gone_iff a b ha, he]
    exact fun h => h.1 h.2
  · rw [if_neg he]
    by_cases hz : (find b n).1 = 0
    · have e0 := find_none b hb n hz
      rw [if_pos hz, if_pos, e0]
      rw [gone_iff a b ha]
      refine ⟨fun h => he ?_, hz⟩
      rw [find_none a ha n h, e0]
    · rw [if_neg hz]

/-- of like ones there is none -/
theorem delta_none (a : List Pl) (ha : scan 0 a = 0) : goneL a a = [] ∧ hereL a a = [] := by
  obtain ⟨h1, h2⟩ := (scan0_iff a).1 ha
  constructor
  · unfold goneL
    rw [List.map_eq_nil_iff, List.filter_eq_nil_iff]
    intro p hp h
    rw [find_of_mem h2 p hp] at h
    have := (inRangeB_iff p).1 (h1 p hp)
    simp at h
    omega
  · unfold hereL
    rw [List.filter_eq_nil_iff]
    intro p hp h
    rw [find_of_mem h2 p hp] at h
    simp at h
end Orangery

/- Plain facts on a view's two parts put together. -/
namespace Orangery

/-- both together: of a node that is in both the place in the way counts -/
def togL (K W : List Pl) : List Pl := W.foldl inL K
/-- is a node in these places? -/
def inPl (W : List Pl) (n : Int) : Bool := decide ((find W n).1 = n)

def ofE (l : List Pl) (R : List Int) : Int := orI (check l) (rootsOk R)
def ofR (l : List Pl) (R : List Int) : List Int := if ofE l R ≠ 0 then [] else R
def ofK (l : List Pl) (R : List Int) : List Pl := if ofE l R ≠ 0 then [] else viewK l R
def ofW (l : List Pl) (R : List Int) : List Pl := if ofE l R ≠ 0 then [] else viewW l R
def sameV (R R' : List Int) (K K' W W' : List Pl) : Bool := decide (R = R') && decide (K = K') && decide (W = W')
def viewE (R : List Int) (K W : List Pl) : Int :=
  if rootsOk R ≠ 0 then rootsOk R else if check K ≠ 0 then check K else if check W ≠ 0 then check W
  else if check (togL K W) ≠ 0 then check (togL K W) else if sameV R R K (viewK (togL K W) R) W (viewW (togL K W) R) = true then 0 else 4

theorem ofE_zero {l : List Pl} {R : List Int} (h : ofE l R = 0) : check l = 0 ∧ rootsOk R = 0 := by
  unfold ofE orI at h
  split at h
  · rename_i h1; exact absurd h h1
  · rename_i h1
    simp at h1
    exact ⟨h1, h⟩
theorem of_ok {l : List Pl} {R : List Int} (h : ofE l R = 0) : ofR l R = R ∧ ofK l R = viewK l R ∧ ofW l R = viewW l R := by
  unfold ofR ofK ofW
  rw [if_neg (by simp [h]), if_neg (by simp [h]), if_neg (by simp [h])]
  exact ⟨rfl, rfl, rfl⟩
theorem of_bad {l : List Pl} {R : List Int} (h : ofE l R ≠ 0) : ofR l R = [] ∧ ofK l R = [] ∧ ofW l R = [] := by
  unfold ofR ofK ofW
  rw [if_pos h, if_pos h, if_pos h]
  exact ⟨rfl, rfl, rfl⟩

theorem scan_tog {K W : List Pl} (hK : scan 0 K = 0) (hW : scan 0 W = 0) : scan 0 (togL K W) = 0 :=
  scan_ins W (fun p hp => (scan_range W 0 hW p hp).1) K hK
theorem find_tog {K W : List Pl} (hW : scan 0 W = 0) (n : Int) : find (togL K W) n = if (find W n).1 = 0 then find K n else find W n :=
  find_ins W (scan_sorted W 0 hW) (fun p hp => by have := (scan_range W 0 hW p hp).2; omega) K n

theorem inPl_iff {W : List Pl} (n : Int) (hn : n ≠ 0) : inPl W n = true ↔ (find W n).1 ≠ 0 := by
  unfold inPl
  rw [decide_eq_true_iff]
  constructor
  · intro h; rw [h]; exact hn
  · intro h; exact (find_mem W n h).2

theorem node_pos {W : List Pl} (hW : scan 0 W = 0) (p : Pl) (hp : p ∈ W) : p.1 ≠ 0 := by have := (scan_range W 0 hW p hp).2; omega

/-- the program's way: take out of the one what is in the other, put the other behind it, sort -/
theorem tog_unique (K W l' : List Pl) (hK : scan 0 K = 0) (hW : scan 0 W = 0)
    (hp : l'.Perm ((K.filter fun p => !inPl W p.1) ++ W)) (hs : l'.Pairwise fun p q => p.1 ≤ q.1) : l' = togL K W := by
  have hKs := scan_sorted K 0 hK
  have hWs := scan_sorted W 0 hW
  have hmem : ∀ p, p ∈ l' ↔ (p ∈ K ∧ (find W p.1).1 = 0) ∨ p ∈ W := by
    intro p
    rw [hp.mem_iff, List.mem_append, List.mem_filter]
    constructor
    · rintro (⟨h1, h2⟩ | h)
      · left
        refine ⟨h1, ?_⟩
        have hn := node_pos hK p h1
        have : ¬ inPl W p.1 = true := by simpa using h2
        rw [inPl_iff _ hn] at this
        simpa using this
      · exact Or.inr h
    · rintro (⟨h1, h2⟩ | h)
      · left
        refine ⟨h1, ?_⟩
        have hn := node_pos hK p h1
        have : ¬ inPl W p.1 = true := by rw [inPl_iff _ hn]; simpa using h2
        simpa using this
      · exact Or.inr h
  have hnd : (((K.filter fun p => !inPl W p.1) ++ W).map (·.1)).Nodup := by
    rw [List.map_append, List.nodup_append]
    refine ⟨?_, ?_, ?_⟩
    · rw [List.Nodup, List.pairwise_map]
      exact (hKs.filter _).imp (fun h => by omega)
    · rw [List.Nodup, List.pairwise_map]
      exact hWs.imp (fun h => by omega)
    · intro x hx y hy
      simp only [List.mem_map, List.mem_filter] at hx hy
      obtain ⟨p, ⟨h1, h2⟩, rfl⟩ := hx
      obtain ⟨q, h3, rfl⟩ := hy
      intro e
      have hn := node_pos hK p h1
      have : ¬ inPl W p.1 = true := by simpa using h2
      apply this
      rw [inPl_iff _ hn, e, find_of_mem hWs q h3, ← e]
      exact hn
  have hnd' : (l'.map (·.1)).Nodup := ((hp.map (·.1)).nodup_iff).2 hnd
  rw [List.Nodup, List.pairwise_map] at hnd'
  have hb : l'.Pairwise fun p q => p.1 < q.1 := (List.Pairwise.and hs hnd').imp (fun h => by omega)
  have hr : ∀ p ∈ l', inRangeB p = true := by
    intro p h
    rcases (hmem p).1 h with h | h
    · exact (scan_range K 0 hK p h.1).1
    · exact (scan_range W 0 hW p h).1
  refine ext_find _ _ ((scan0_iff l').2 ⟨hr, hb⟩) (scan_tog hK hW) ?_
  intro n
  rw [find_tog hW]
  by_cases h1 : (find W n).1 = 0
  · rw [if_pos h1]
    by_cases h2 : (find K n).1 = 0
    · rw [find_none K hK n h2]
      apply find_zero
      intro p h e
      rcases (hmem p).1 h with h | h
      · rw [← e, find_of_mem hKs p h.1] at h2
        exact node_pos hK p h.1 h2
      · rw [← e, find_of_mem hWs p h] at h1
        exact node_pos hW p h h1
    · obtain ⟨h3, h4⟩ := find_mem K n h2
      have h5 : find K n ∈ l' := (hmem _).2 (Or.inl ⟨h3, by rw [h4]; exact h1⟩)
      have := find_of_mem hb _ h5
      rw [h4] at this
      exact this
  · rw [if_neg h1]
    obtain ⟨h3, h4⟩ := find_mem W n h1
    have h5 : find W n ∈ l' := (hmem _).2 (Or.inr h3)
    have := find_of_mem hb _ h5
    rw [h4] at this
    exact this

/-- the reference's way: a table -/
theorem tog_rows (K W : List Pl) (hK : scan 0 K = 0) (hW : scan 0 W = 0) : rows (fun n => tabLast (K ++ W) n) 16 = togL K W := by
  have h := rows_all (togL K W) (scan_tog hK hW)
  rw [← h]
  apply rows_congr
  intro n _
  obtain ⟨h1, h2⟩ := (scan0_iff W).1 hW
  rw [tabLast_append, tabLast_eq K hK, foldl_at W n h2 (fun p hp => node_pos hW p hp)]
  unfold tabAt
  rw [find_tog hW]
  by_cases h3 : (find W (n : Int)).1 = 0
  · rw [if_pos h3, if_pos h3]
  · rw [if_neg h3, if_neg h3, if_neg h3]

/-- a view is one: what its parts make together -/
theorem tog_view (l : List Pl) (R : List Int) (h : check l = 0) : togL (viewK l R) (viewW l R) = viewA l R := by
  have hs := check_scan l h
  have hK : scan 0 (viewK l R) = 0 := scan_filter l _ hs
  have hW : scan 0 (viewW l R) = 0 := scan_filter l _ hs
  have hA : scan 0 (viewA l R) = 0 := scan_filter l _ hs
  refine ext_find _ _ (scan_tog hK hW) hA ?_
  intro n
  rw [find_tog hW]
  have e1 : find (viewK l R) n = if knB l R n = true then find l n else (0, 0, 0) := find_g (knB l R) l n
  have e2 : find (viewW l R) n = if wyB l R n = true then find l n else (0, 0, 0) := find_g (wyB l R) l n
  have e3 : find (viewA l R) n = if seenB l R n = true then find l n else (0, 0, 0) := find_g (seenB l R) l n
  rw [e1, e2, e3]
  unfold seenB
  cases hk : knB l R n
  · cases hw : wyB l R n
    · simp
    · simp
      intro hz
      rw [find_none l hs n hz]
  · rw [view_apart l R n hk]
    simp

theorem view_ok (l : List Pl) (R : List Int) (h : ofE l R = 0) : viewE R (viewK l R) (viewW l R) = 0 := by
  obtain ⟨h1, h2⟩ := ofE_zero h
  obtain ⟨g1, g2, g3⟩ := view_again l R h1 (rootsOk_node h2)
  unfold viewE
  rw [tog_view l R h1, if_neg (by simp [h2]), if_neg (by simp; exact check_g _ l h1), if_neg (by simp; exact check_g _ l h1), if_neg (by simp [g1]), g2, g3]
  simp [sameV]

/-- the one ahead of the k-th -/
def prevI (l : List Int) : Nat → Int
  | 0 => -1
  | k + 1 => (l[k]?).getD 0
theorem prevI_succ (l : List Int) (k : Nat) (h : k < l.length) : prevI l (k + 1) = l[k] := by simp [prevI, h]

def idxI (f : Int → Bool) : Nat → List Int → Int
  | _, [] => -1
  | k, n :: l => if f n = true then k else idxI f (k + 1) l
theorem idxI_step (f : Int → Bool) (l : List Int) (k : Nat) (h : k < l.length) (hs : idxI f k (l.drop k) = idxI f 0 l) :
    (f l[k] = true → idxI f 0 l = k) ∧ (f l[k] = false → idxI f (k + 1) (l.drop (k + 1)) = idxI f 0 l) := by
  rw [List.drop_eq_getElem_cons h] at hs
  have e : idxI f k (l[k] :: l.drop (k + 1)) = if f l[k] = true then (k : Int) else idxI f (k + 1) (l.drop (k + 1)) := rfl
  rw [e] at hs
  refine ⟨fun h1 => ?_, fun h1 => ?_⟩
  · rw [if_pos h1] at hs; exact hs.symm
  · rw [if_neg (by simp [h1])] at hs; exact hs
theorem idxI_any (f : Int → Bool) (l : List Int) : ∀ k : Nat, (idxI f k l = -1 ∧ l.any f = false) ∨ ((k : Int) ≤ idxI f k l ∧ l.any f = true) := by
  induction l with
  | nil => intro k; exact Or.inl ⟨rfl, rfl⟩
  | cons n l ih =>
    intro k
    have e : idxI f k (n :: l) = if f n = true then (k : Int) else idxI f (k + 1) l := rfl
    rw [e, List.any_cons]
    by_cases h : f n = true
    · rw [if_pos h]; exact Or.inr ⟨Int.le_refl _, by simp [h]⟩
    · rw [if_neg h]
      have hf : f n = false := by simpa using h
      rcases ih (k + 1) with ⟨h1, h2⟩ | ⟨h1, h2⟩
      · exact Or.inl ⟨h1, by simp [hf, h2]⟩
      · refine Or.inr ⟨by omega, by simp [h2]⟩
theorem idxF_any (f : Pl → Bool) (l : List Pl) : ∀ k : Nat, (idxF f k l = -1 ∧ l.any f = false) ∨ ((k : Int) ≤ idxF f k l ∧ l.any f = true) := by
  induction l with
  | nil => intro k; exact Or.inl ⟨rfl, rfl⟩
  | cons n l ih =>
    intro k
    have e : idxF f k (n :: l) = if f n = true then (k : Int) else idxF f (k + 1) l := rfl
    rw [e, List.any_cons]
    by_cases h : f n = true
    · rw [if_pos h]; exact Or.inr ⟨Int.le_refl _, by simp [h]⟩
    · rw [if_neg h]
      have hf : f n = false := by simpa using h
      rcases ih (k + 1) with ⟨h1, h2⟩ | ⟨h1, h2⟩
      · exact Or.inl ⟨h1, by simp [hf, h2]⟩
      · refine Or.inr ⟨by omega, by simp [h2]⟩
theorem under_E {l : List Pl} {n t : Int} (h : underB l n t = true) : underE l n t = 0 := by
  unfold underB at h
  split at h
  · simp at h
  · rename_i h1; simpa using h1
/-- a node above one of the roots -/
def abB (l : List Pl) (R : List Int) (n : Int) : Bool := R.any fun r => underB l r n
theorem wy_ab (l : List Pl) (R : List Int) (n : Int) : wyB l R n = (!knB l R n && abB l R n) := rfl
theorem viewK_take (l : List Pl) (R : List Int) (k : Nat) (h : k < l.length) : (l.take (k + 1)).filter (fun p => knB l R p.1) = (l.take k).filter (fun p => knB l R p.1) ++ if knB l R l[k].1 = true then [l[k]] else [] := by
  rw [List.take_succ_eq_append_getElem h, List.filter_append]
  congr 1
  by_cases hk : knB l R l[k].1 = true
  · simp [hk]
  · simp [hk]
theorem viewW_take (l : List Pl) (R : List Int) (k : Nat) (h : k < l.length) : (l.take (k + 1)).filter (fun p => wyB l R p.1) = (l.take k).filter (fun p => wyB l R p.1) ++ if wyB l R l[k].1 = true then [l[k]] else [] := by
  rw [List.take_succ_eq_append_getElem h, List.filter_append]
  congr 1
  by_cases hk : wyB l R l[k].1 = true
  · simp [hk]
  · simp [hk]

/-- all on the way up from these -/
def upL (l : List Pl) (R : List Int) : List Int := R.flatMap fun r => (chain l r).drop 1
theorem upL_take (l : List Pl) (R : List Int) (k : Nat) (h : k < R.length) : upL l (R.take (k + 1)) = upL l (R.take k) ++ (chain l R[k]).drop 1 := by
  unfold upL
  rw [List.take_succ_eq_append_getElem h, List.flatMap_append]
  simp
theorem upL_len (l : List Pl) (R : List Int) (h : ∀ r ∈ R, (chain l r).length ≤ 17) : (upL l R).length ≤ 16 * R.length := by
  induction R with
  | nil => simp [upL]
  | cons r R ih =>
    have h1 := h r (by simp)
    have h2 := ih (fun r hr => h r (by simp [hr]))
    have e : upL l (r :: R) = (chain l r).drop 1 ++ upL l R := by simp [upL]
    rw [e, List.length_append, List.length_drop, List.length_cons]
    omega
theorem has_up (l : List Pl) (R : List Int) (n : Int) : hasB n (upL l R) = R.any fun r => hasB n ((chain l r).drop 1) := by
  rw [Bool.eq_iff_iff, List.any_eq_true]
  simp only [hasB, decide_eq_true_eq, upL, List.mem_flatMap]
theorem any_take (f : Int → Bool) (l : List Int) (k : Nat) (h : k < l.length) : (l.take (k + 1)).any f = ((l.take k).any f || f l[k]) := by
  rw [List.take_succ_eq_append_getElem h, List.any_append]
  simp
theorem chain_len (l : List Pl) (r : Int) (h : check l = 0) (hr : isNodeB r = true) : (chain l r).length ≤ 17 := by
  rw [isNodeB_iff] at hr
  obtain ⟨m, ⟨hok, _⟩, _⟩ := chain_inv l r (scan_up (check_scan l h)) hr.1 hr.2
  exact outOk_len hok
end Orangery

/- Plain facts for ViewAgain and ViewMore. -/
namespace Orangery

theorem rootsE_take (l : List Int) : ∀ a k, rootsE a l = 0 → rootsE a (l.take k) = 0 := by
  induction l with
  | nil => intro a k h; simpa using h
  | cons n l ih =>
    intro a k h
    cases k with
    | zero => rfl
    | succ k =>
      rw [List.take_succ_cons]
      unfold rootsE at h ⊢
      split at h
      · omega
      · split at h
        · omega
        · rename_i h1 h2
          rw [if_neg h1, if_neg h2]
          exact ih n k h
theorem rootsOk_take {l : List Int} (h : rootsOk l = 0) (k : Nat) : rootsOk (l.take k) = 0 := by
  have hl := rootsOk_len h
  unfold rootsOk at h ⊢
  rw [if_neg (by omega)] at h
  rw [if_neg (by simp; omega)]
  exact rootsE_take l _ k h
theorem ofE_take {l : List Pl} {R : List Int} (h : ofE l R = 0) (k : Nat) : ofE l (R.take k) = 0 := by
  obtain ⟨h1, h2⟩ := ofE_zero h
  unfold ofE orI
  rw [if_neg (by simp [h1])]
  exact rootsOk_take h2 k
theorem more_K (l : List Pl) (R : List Int) (k : Nat) (p : Pl) (hp : p ∈ viewK l (R.take k)) : p ∈ viewK l R := by
  obtain ⟨h1, h2⟩ := List.mem_filter.1 hp
  exact List.mem_filter.2 ⟨h1, view_more l _ _ (fun r hr => List.mem_of_mem_take hr) _ h2⟩
theorem more_W (l : List Pl) (R : List Int) (k : Nat) (p : Pl) (hp : p ∈ viewW l (R.take k)) : p ∉ viewK l R → p ∈ viewW l R := by
  obtain ⟨h1, h2⟩ := List.mem_filter.1 hp
  intro hn
  refine List.mem_filter.2 ⟨h1, ?_⟩
  have hk : knB l R p.1 = false := by
    cases hq : knB l R p.1
    · rfl
    · exact absurd (List.mem_filter.2 ⟨h1, hq⟩) hn
  have h3 : wyB l (R.take k) p.1 = true := h2
  rw [wy_ab] at h3 ⊢
  rw [hk]
  simp only [Bool.not_false, Bool.true_and]
  have h4 : abB l (R.take k) p.1 = true := by
    cases hq : abB l (R.take k) p.1
    · rw [hq] at h3; simp at h3
    · rfl
  unfold abB at h4 ⊢
  rw [List.any_eq_true] at h4 ⊢
  obtain ⟨r, hr, hu⟩ := h4
  exact ⟨r, List.mem_of_mem_take hr, hu⟩

/-- both parts of a view, sorted -/
theorem again_both (l : List Pl) (R : List Int) (h : check l = 0) (l' : List Pl) (hp : l'.Perm (viewK l R ++ viewW l R)) (hs : l'.Pairwise fun p q => p.1 ≤ q.1) : l' = viewA l R := by
  have hb : byNode (viewA l R) := ((check_iff l).1 h).2.1.filter _
  exact sorted_unique l' (viewA l R) hb (hp.trans (view_perm l R)) hs
theorem again_of (l : List Pl) (R : List Int) (h : ofE l R = 0) : ofE (viewA l R) R = 0 ∧ ofR (viewA l R) R = R ∧ ofK (viewA l R) R = viewK l R ∧ ofW (viewA l R) R = viewW l R := by
  obtain ⟨h1, h2⟩ := ofE_zero h
  obtain ⟨g1, g2, g3⟩ := view_again l R h1 (rootsOk_node h2)
  have e : ofE (viewA l R) R = 0 := by unfold ofE orI; rw [if_neg (by simp [g1])]; exact h2
  obtain ⟨k1, k2, k3⟩ := of_ok e
  exact ⟨e, k1, by rw [k2, g2], by rw [k3, g3]⟩
theorem again_find (l : List Pl) (R : List Int) (h : check l = 0) (p : Pl) (hp : p ∈ viewA l R) : find l p.1 = p :=
  (mem_node l h p (List.mem_filter.1 hp).1).2.2.1
theorem again_next (l : List Pl) (R : List Int) (h : check l = 0) (i j : Nat) (hi : i < (viewA l R).length) (hj : j < (viewA l R).length) (hij : i < j) : (viewA l R)[i].1 < (viewA l R)[j].1 := by
  have hb : byNode (viewA l R) := ((check_iff l).1 h).2.1.filter _
  exact List.pairwise_iff_getElem.1 hb i j hi hj hij
theorem again_kids (l : List Pl) (R : List Int) (h : check l = 0) (hr : ∀ r ∈ R, isNodeB r = true) (p : Pl) (hp : p ∈ l) (hu : (viewK l R).any (fun q => q.1 == p.2.1) = true ∨ hasB p.2.1 R = true) : p ∈ viewK l R := by
  have hk : knB l R p.2.1 = true := by
    rcases hu with hu | hu
    · rw [List.any_eq_true] at hu
      obtain ⟨q, hq, e⟩ := hu
      have e' : q.1 = p.2.1 := by simpa using e
      rw [← e']
      exact (List.mem_filter.1 hq).2
    · have hm : p.2.1 ∈ R := by simpa [hasB] using hu
      exact root_known l R h _ (hr _ hm) hm
  exact List.mem_filter.2 ⟨hp, view_kids l R h hr p hp hk⟩
end Orangery

