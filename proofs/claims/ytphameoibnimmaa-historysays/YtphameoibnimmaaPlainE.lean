/- Plain facts: orangeryref.KidsOf lists what tree.Kids lists. -/
import Derived.Test.YtphameoibnimmaaPlainD
namespace Orangery

def kidAt (n nm : Int) (p : Pl) : Bool := p.2.1 == n && p.2.2 == nm

/-- orangeryref.KidsOf, of the names below k -/
def kidsR (l : List Pl) (n : Int) (k : Nat) : List Pl := (List.range k).flatMap fun (nm : Nat) => l.filter (kidAt n nm)

theorem kidsR_zero (l : List Pl) (n : Int) : kidsR l n 0 = [] := rfl
theorem kidsR_succ (l : List Pl) (n : Int) (k : Nat) : kidsR l n (k + 1) = kidsR l n k ++ l.filter (kidAt n k) := by
  simp [kidsR, List.range_succ]

theorem kidsR_len (l : List Pl) (n : Int) (k : Nat) : (kidsR l n k).length ≤ k * l.length := by
  induction k with
  | zero => simp [kidsR_zero]
  | succ k ih =>
    rw [kidsR_succ, List.length_append, Nat.succ_mul]
    have := List.length_filter_le (kidAt n k) l
    omega

theorem filter_or (f g : Pl → Bool) (hd : ∀ p, f p = true → g p = false) (l : List Pl) : (l.filter f ++ l.filter g).Perm (l.filter fun p => f p || g p) := by
  induction l with
  | nil => exact List.Perm.refl _
  | cons p l ih =>
    simp only [List.filter_cons]
    cases hf : f p
    · cases hg : g p
      · simpa using ih
      · simp only [Bool.or_true, if_true, Bool.false_eq_true, if_false]
        exact List.perm_middle.trans (List.Perm.cons _ ih)
    · have hg := hd p hf
      simp only [hg, Bool.or_false, if_true, Bool.false_eq_true, if_false, List.cons_append]
      exact List.Perm.cons _ ih

/-- the filter by a name below k: a permutation -/
theorem kidsR_perm (l : List Pl) (n : Int) (k : Nat) : (kidsR l n k).Perm (l.filter fun p => p.2.1 == n && decide (0 ≤ p.2.2 ∧ p.2.2 < k)) := by
  induction k with
  | zero =>
    rw [kidsR_zero]
    have : (l.filter fun p => p.2.1 == n && decide (0 ≤ p.2.2 ∧ p.2.2 < ((0 : Nat) : Int))) = [] := by
      rw [List.filter_eq_nil_iff]
      intro p _ h
      simp at h
      omega
    rw [this]
  | succ k ih =>
    rw [kidsR_succ]
    refine (ih.append_right _).trans ?_
    refine (filter_or _ _ ?_ l).trans ?_
    · intro p hp
      simp [kidAt] at hp ⊢
      omega
    · have e : (l.filter fun (p : Pl) => (p.2.1 == n && decide (0 ≤ p.2.2 ∧ p.2.2 < (k : Int))) || kidAt n (k : Int) p) = l.filter fun p => p.2.1 == n && decide (0 ≤ p.2.2 ∧ p.2.2 < ((k + 1 : Nat) : Int)) := by
        apply List.filter_congr
        intro p _
        rw [Bool.eq_iff_iff]
        simp [kidAt]
        omega
      rw [e]

theorem kidsR_sorted (l : List Pl) (n : Int) (hl : l.Pairwise fun p q => p.1 < q.1) (k : Nat) : (kidsR l n k).Pairwise leP ∧ ∀ p ∈ kidsR l n k, p.2.2 < k := by
  induction k with
  | zero => simp [kidsR_zero]
  | succ k ih =>
    rw [kidsR_succ]
    refine ⟨?_, ?_⟩
    · rw [List.pairwise_append]
      refine ⟨ih.1, ?_, ?_⟩
      · have h1 : (l.filter (kidAt n k)).Pairwise fun p q => p.1 < q.1 := hl.filter _
        refine List.Pairwise.imp_of_mem ?_ h1
        intro p q hp hq h
        simp [kidAt] at hp hq
        unfold leP
        omega
      · intro p hp q hq
        have h1 := ih.2 p hp
        simp [kidAt] at hq
        unfold leP
        omega
    · intro p hp
      rw [List.mem_append] at hp
      rcases hp with hp | hp
      · have := ih.2 p hp; omega
      · simp [kidAt] at hp; omega

theorem scan_sorted (l : List Pl) : ∀ a, scan a l = 0 → l.Pairwise fun p q => p.1 < q.1 := by
  induction l with
  | nil => intro a _; exact List.Pairwise.nil
  | cons p l ih =>
    intro a h
    unfold scan at h
    split at h
    · omega
    · split at h
      · omega
      · rw [List.pairwise_cons]
        exact ⟨fun q hq => (scan_range l p.1 h q hq).2, ih p.1 h⟩

theorem leP_antisymm {l : List Pl} (hl : l.Pairwise fun p q => p.1 < q.1) : ∀ p q, p ∈ l → q ∈ l → leP p q → leP q p → p = q := by
  intro p q hp hq h1 h2
  have e : p.1 = q.1 := by unfold leP at *; omega
  induction l with
  | nil => simp at hp
  | cons r l ih =>
    rw [List.pairwise_cons] at hl
    simp at hp hq
    rcases hp with rfl | hp <;> rcases hq with rfl | hq
    · rfl
    · have := hl.1 q hq; omega
    · have := hl.1 p hp; omega
    · exact ih hl.2 hp hq

/-- what is listed both ways is one -/
theorem kids_eq (l l' : List Pl) (n : Int) (hc : check l = 0) (hp : l'.Perm (l.filter fun p => p.2.1 == n)) (hs : l'.Pairwise leP) : l' = kidsR l n 100 := by
  have hsc := check_scan l hc
  have hso := scan_sorted l 0 hsc
  have e1 : (l.filter fun p => p.2.1 == n && decide (0 ≤ p.2.2 ∧ p.2.2 < ((100 : Nat) : Int))) = l.filter fun p => p.2.1 == n := by
    apply List.filter_congr
    intro p hp
    have := (inRangeB_iff p).1 (scan_range l 0 hsc p hp).1
    have h : 0 ≤ p.2.2 ∧ p.2.2 < ((100 : Nat) : Int) := by omega
    simp [h]
    omega
  have hR := kidsR_perm l n 100
  rw [e1] at hR
  refine List.Perm.eq_of_pairwise (le := leP) ?_ hs (kidsR_sorted l n hso 100).1 (hp.trans hR.symm)
  intro p q h1 h2 h3 h4
  have m1 : p ∈ l := (List.mem_filter.1 (hp.mem_iff.1 h1)).1
  have m2 : q ∈ l := (List.mem_filter.1 (hR.mem_iff.1 h2)).1
  exact leP_antisymm hso p q m1 m2 h3 h4
end Orangery
