/- Plain facts on moving one node: the place taken out, put in by its node, and what a check says of that. -/
import Derived.Test.YtphameoibnimmaaPlainG
namespace Orangery

/-- an operation: time, who, its place, life, number -/
abbrev Mv := Int × Int × Pl × Int × Int
/-- a step: operation, done or not, where the node was -/
abbrev Stp := Mv × Bool × Pl

def opOkB (o : Mv) : Bool := decide (1 ≤ o.1 ∧ o.1 ≤ 10000 ∧ 0 ≤ o.2.1 ∧ o.2.1 ≤ 2 ∧ 1 ≤ o.2.2.1.1 ∧ o.2.2.1.1 ≤ 15 ∧ 0 ≤ o.2.2.1.2.1 ∧ o.2.2.1.2.1 ≤ 16 ∧ 0 ≤ o.2.2.1.2.2 ∧ o.2.2.1.2.2 ≤ 99 ∧ 1 ≤ o.2.2.2.1 ∧ o.2.2.2.1 ≤ 50 ∧ 1 ≤ o.2.2.2.2 ∧ o.2.2.2.2 ≤ 30)
def checkOp (o : Mv) : Int := if opOkB o = true then 0 else 3

theorem checkOp_zero {o : Mv} (h : checkOp o = 0) : opOkB o = true := by
  unfold checkOp at h
  split at h
  · assumption
  · omega
theorem opOk_place {o : Mv} (h : opOkB o = true) : inRangeB o.2.2.1 = true ∧ isNodeB o.2.2.1.1 = true ∧ isNodeB o.2.2.1.2.1 = true := by
  simp only [opOkB, decide_eq_true_eq] at h
  exact ⟨by rw [inRangeB_iff]; omega, (isNodeB_iff _).2 (by omega), (isNodeB_iff _).2 (by omega)⟩

/-- the places without a node -/
def outL (l : List Pl) (n : Int) : List Pl := l.filter fun p => !(p.1 == n)
/-- the places with one of them put at p -/
def inL (l : List Pl) (p : Pl) : List Pl := (l.filter fun q => decide (q.1 < p.1)) ++ p :: (l.filter fun q => decide (p.1 < q.1))

abbrev byNode (l : List Pl) : Prop := l.Pairwise fun p q => p.1 < q.1

theorem find_out (l : List Pl) (n m : Int) : find (outL l n) m = if m = n then (0, 0, 0) else find l m := by
  induction l with
  | nil => simp [outL, find_nil]
  | cons q l ih =>
    unfold outL at ih ⊢
    rw [List.filter_cons]
    by_cases hq : q.1 = n
    · have e : (!(q.1 == n)) = false := by simp [hq]
      rw [e, find_cons]
      simp only [Bool.false_eq_true, if_false, ih]
      by_cases hm : m = n
      · simp [hm]
      · have : ¬ q.1 = m := by omega
        simp [hm, this]
    · have e : (!(q.1 == n)) = true := by simp [hq]
      rw [e, if_pos rfl, find_cons, find_cons, ih]
      by_cases hm : m = n
      · subst hm
        simp [hq]
      · simp [hm]

theorem find_append (l m : List Pl) (n : Int) (h : ∀ q ∈ l, q.1 ≠ n) : find (l ++ m) n = find m n := by
  induction l with
  | nil => rfl
  | cons q l ih =>
    rw [List.cons_append, find_cons, if_neg (h q (by simp)), ih (fun r hr => h r (by simp [hr]))]

theorem find_filter (f : Pl → Bool) (l : List Pl) (n : Int) (h : ∀ q ∈ l, q.1 = n → f q = true) : find (l.filter f) n = find l n := by
  induction l with
  | nil => rfl
  | cons q l ih =>
    have ih' := ih (fun r hr => h r (by simp [hr]))
    rw [List.filter_cons, find_cons]
    by_cases hq : q.1 = n
    · rw [h q (by simp) hq, if_pos rfl, find_cons]
      simp [hq]
    · cases hf : f q
      · simp [hq, ih']
      · simp only [if_true, find_cons, hq, if_false, ih']

theorem find_front (l m : List Pl) (n : Int) (h : ∀ q ∈ m, q.1 ≠ n) : find (l ++ m) n = find l n := by
  induction l with
  | nil =>
    have := find_append m [] n h
    rw [List.append_nil] at this
    rw [List.nil_append, this]
  | cons q l ih => rw [List.cons_append, find_cons, find_cons, ih]

theorem find_in (l : List Pl) (p : Pl) (m : Int) : find (inL l p) m = if m = p.1 then p else find l m := by
  unfold inL
  by_cases hm : m = p.1
  · subst hm
    rw [if_pos rfl, find_append _ _ _ (by intro q hq; simp at hq; omega), find_cons, if_pos rfl]
  · rw [if_neg hm]
    by_cases hlt : m < p.1
    · rw [find_front _ _ _ (by intro q hq; simp at hq; rcases hq with rfl | hq <;> omega)]
      exact find_filter _ l m (by intro q _ hq; simp; omega)
    · rw [find_append _ _ _ (by intro q hq; simp at hq; omega), find_cons, if_neg (by omega)]
      exact find_filter _ l m (by intro q _ hq; simp; omega)

theorem in_sorted (l : List Pl) (p : Pl) (h : byNode l) : byNode (inL l p) := by
  unfold inL byNode
  rw [List.pairwise_append]
  refine ⟨h.filter _, ?_, ?_⟩
  · rw [List.pairwise_cons]
    exact ⟨by intro q hq; simp at hq; omega, h.filter _⟩
  · intro q hq r hr
    simp at hq hr
    rcases hr with rfl | hr <;> omega

theorem in_mem (l : List Pl) (p q : Pl) : q ∈ inL l p ↔ q = p ∨ (q ∈ l ∧ q.1 ≠ p.1) := by
  unfold inL
  rw [List.mem_append, List.mem_cons, List.mem_filter, List.mem_filter]
  simp only [decide_eq_true_eq]
  constructor
  · rintro (⟨h1, h2⟩ | h | ⟨h1, h2⟩)
    · exact Or.inr ⟨h1, by omega⟩
    · exact Or.inl h
    · exact Or.inr ⟨h1, by omega⟩
  · rintro (h | ⟨h1, h2⟩)
    · exact Or.inr (Or.inl h)
    · rcases Int.lt_or_gt_of_ne h2 with h3 | h3
      · exact Or.inl ⟨h1, h3⟩
      · exact Or.inr (Or.inr ⟨h1, h3⟩)

theorem out_perm (l : List Pl) (p : Pl) : (outL l p.1 ++ [p]).Perm (inL l p) := by
  have h := filter_or (fun q => decide (q.1 < p.1)) (fun q => decide (p.1 < q.1)) (by intro q hq; simp at hq ⊢; omega) l
  have e : (l.filter fun q => decide (q.1 < p.1) || decide (p.1 < q.1)) = outL l p.1 := by
    unfold outL
    apply List.filter_congr
    intro q _
    rw [Bool.eq_iff_iff]
    simp
    omega
  rw [e] at h
  unfold inL
  refine (List.perm_append_comm.trans ?_)
  refine List.Perm.trans ?_ List.perm_middle.symm
  exact List.Perm.cons p h.symm

theorem sorted_unique (l m : List Pl) (hm : byNode m) (hp : l.Perm m) (hs : l.Pairwise fun p q => p.1 ≤ q.1) : l = m := by
  refine List.Perm.eq_of_pairwise (le := fun p q : Pl => p.1 ≤ q.1) ?_ hs (hm.imp (by intro p q h; omega)) hp
  intro p q h1 h2 h3 h4
  have m1 : p ∈ m := hp.mem_iff.1 h1
  have f1 := find_of_mem hm p m1
  have f2 := find_of_mem hm q h2
  have e : p.1 = q.1 := by omega
  rw [← f1, e, f2]

theorem in_unique (l l' : List Pl) (p : Pl) (h : byNode l) (hp : l'.Perm (outL l p.1 ++ [p])) (hs : l'.Pairwise fun p q => p.1 ≤ q.1) : l' = inL l p :=
  sorted_unique _ _ (in_sorted l p h) (hp.trans (out_perm l p)) hs

theorem scan_iff (l : List Pl) : ∀ a, scan a l = 0 ↔ (∀ p ∈ l, inRangeB p = true ∧ a < p.1) ∧ byNode l := by
  induction l with
  | nil => intro a; simp [scan, byNode]
  | cons q l ih =>
    intro a
    constructor
    · intro h
      exact ⟨scan_range _ a h, scan_sorted _ a h⟩
    · rintro ⟨h1, h2⟩
      replace h2 := List.pairwise_cons.1 h2
      have hq := h1 q (by simp)
      unfold scan
      rw [if_neg (by simp [hq.1]), if_neg (by omega)]
      exact (ih q.1).2 ⟨fun p hp => ⟨(h1 p (by simp [hp])).1, h2.1 p hp⟩, h2.2⟩

theorem scan0_iff (l : List Pl) : scan 0 l = 0 ↔ (∀ p ∈ l, inRangeB p = true) ∧ byNode l := by
  rw [scan_iff]
  constructor
  · rintro ⟨h1, h2⟩; exact ⟨fun p hp => (h1 p hp).1, h2⟩
  · rintro ⟨h1, h2⟩
    refine ⟨fun p hp => ⟨h1 p hp, ?_⟩, h2⟩
    have := (inRangeB_iff p).1 (h1 p hp)
    omega

theorem check_iff (l : List Pl) : check l = 0 ↔ (∀ p ∈ l, inRangeB p = true) ∧ byNode l ∧ ∀ a j, upN l (j + 1) a ≠ some a := by
  constructor
  · intro h
    have hs := (scan0_iff l).1 (check_scan l h)
    exact ⟨hs.1, hs.2, fun a j hj => no_back l h a j hj⟩
  · rintro ⟨h1, h2, h3⟩
    have hs := (scan0_iff l).2 ⟨h1, h2⟩
    refine check_of_none l hs ?_
    intro i hi
    cases hr : ringAt l l[i]
    · rfl
    · exfalso
      unfold ringAt at hr
      rw [meetsN_iff] at hr
      obtain ⟨j, hj, _, h⟩ := hr
      obtain ⟨k, rfl⟩ : ∃ k, j = k + 1 := ⟨j - 1, by omega⟩
      exact h3 _ _ h

theorem up_out (l : List Pl) (n : Int) (k : Nat) : ∀ a b, upN (outL l n) k a = some b → upN l k a = some b := by
  induction k with
  | zero => intro a b h; exact h
  | succ k ih =>
    intro a b h
    rw [upN] at h ⊢
    rw [find_out] at h
    by_cases ha : a = n
    · simp [ha] at h
    · rw [if_neg ha] at h
      split at h
      · simp at h
      · rename_i hz
        rw [if_neg hz]
        exact ih _ _ h

theorem check_out (l : List Pl) (n : Int) (h : check l = 0) : check (outL l n) = 0 := by
  rw [check_iff] at h ⊢
  obtain ⟨h1, h2, h3⟩ := h
  refine ⟨fun p hp => h1 p (List.mem_filter.1 hp).1, h2.filter _, fun a j hj => h3 a j (up_out l n _ _ _ hj)⟩

/-- a way up in the places with p: a way up without it, or by way of p -/
theorem up_in (l : List Pl) (p : Pl) (k : Nat) : ∀ a b, upN (inL l p) k a = some b → upN l k a = some b ∨ ∃ i, i < k ∧ upN (inL l p) i a = some p.1 := by
  induction k with
  | zero => intro a b h; exact Or.inl h
  | succ k ih =>
    intro a b h
    by_cases ha : a = p.1
    · exact Or.inr ⟨0, by omega, by rw [ha]; rfl⟩
    · rw [upN, find_in, if_neg ha] at h
      split at h
      · simp at h
      · rename_i hz
        rcases ih _ _ h with h1 | ⟨i, hi, h1⟩
        · exact Or.inl (by rw [upN, if_neg hz]; exact h1)
        · exact Or.inr ⟨i + 1, by omega, by rw [upN, find_in, if_neg ha, if_neg hz]; exact h1⟩

theorem up_back (l : List Pl) (p : Pl) (hp : p.1 ≠ 0) (hu : ∀ j, upN l j p.2.1 ≠ some p.1) : ∀ d j, j ≤ d → upN (inL l p) (j + 1) p.1 ≠ some p.1 := by
  have e : ∀ j, upN (inL l p) (j + 1) p.1 = upN (inL l p) j p.2.1 := by
    intro j
    rw [upN, find_in, if_pos rfl, if_neg hp]
  intro d
  induction d with
  | zero =>
    intro j hj h
    obtain rfl : j = 0 := by omega
    rw [e] at h
    exact hu 0 h
  | succ d ih =>
    intro j hj h
    rw [e] at h
    rcases up_in l p j _ _ h with h1 | ⟨i, hi, h1⟩
    · exact hu j h1
    · exact ih i (by omega) (by rw [e]; exact h1)

theorem check_in (l : List Pl) (p : Pl) (h : check l = 0) (hr : inRangeB p = true) (hu : underB l p.2.1 p.1 = false) : check (inL l p) = 0 := by
  have hp := (inRangeB_iff p).1 hr
  have hu' : ∀ j, upN l j p.2.1 ≠ some p.1 := by
    intro j hj
    have := (under_iff l p.2.1 p.1 h ((isNodeB_iff _).2 (by omega)) ((isNodeB_iff _).2 (by omega))).2 ⟨j, hj⟩
    rw [hu] at this
    simp at this
  have hb := up_back l p (by omega) hu'
  rw [check_iff] at h ⊢
  obtain ⟨h1, h2, h3⟩ := h
  refine ⟨?_, in_sorted l p h2, ?_⟩
  · intro q hq
    rw [in_mem] at hq
    rcases hq with rfl | hq
    · exact hr
    · exact h1 q hq.1
  · intro a j hj
    rcases up_in l p (j + 1) _ _ hj with h4 | ⟨i, hi, h4⟩
    · exact h3 a j h4
    · refine hb j j (Nat.le_refl _) ?_
      have h5 : upN (inL l p) (i + (j + 1 - i)) a = some a := by rw [show i + (j + 1 - i) = j + 1 by omega]; exact hj
      rw [upN_add, h4] at h5
      have h6 : upN (inL l p) (j + 1 - i) p.1 = some a := h5
      have h7 : upN (inL l p) ((j + 1 - i) + i) p.1 = some p.1 := by rw [upN_add, h6]; exact h4
      rw [show j + 1 - i + i = j + 1 by omega] at h7
      exact h7
end Orangery
