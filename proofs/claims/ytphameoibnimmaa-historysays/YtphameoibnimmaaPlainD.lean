/- Plain facts on slices.DeleteFunc: what stays is what is kept. -/
import Derived.Test.YtphameoibnimmaaPlainB
namespace Orangery

/-- the contents m of a row in which i places are kept of the first j of l -/
def Kept (f : Pl → Bool) (l m : List Pl) (i j : Nat) : Prop :=
  m.length = l.length ∧ i < j ∧ j ≤ l.length ∧ m.take i = (l.take j).filter (fun p => !f p) ∧ m.drop j = l.drop j

theorem idxF_first (f : Pl → Bool) (l : List Pl) : ∀ k, (idxF f k l = -1 ∧ l.filter (fun p => !f p) = l) ∨ ∃ i, i < l.length ∧ idxF f k l = ((k + i : Nat) : Int) ∧ (l.take (i + 1)).filter (fun p => !f p) = l.take i := by
  induction l with
  | nil => intro k; exact Or.inl ⟨rfl, rfl⟩
  | cons p l ih =>
    intro k
    cases hp : f p
    · rcases ih (k + 1) with ⟨h1, h2⟩ | ⟨i, hi, h1, h2⟩
      · exact Or.inl ⟨by simp [idxF, hp, h1], by simp [hp, h2]⟩
      · refine Or.inr ⟨i + 1, by simp; omega, ?_, ?_⟩
        · simp [idxF, hp, h1]; omega
        · simp [hp] at h2 ⊢; exact h2
    · exact Or.inr ⟨0, by simp, by simp [idxF, hp], by simp [hp]⟩

theorem Kept.start (f : Pl → Bool) (l : List Pl) (i : Nat) (h : i < l.length) (hf : (l.take (i + 1)).filter (fun p => !f p) = l.take i) : Kept f l l i (i + 1) :=
  ⟨rfl, by omega, by omega, hf.symm, rfl⟩

theorem Kept.get {f : Pl → Bool} {l m : List Pl} {i j : Nat} (h : Kept f l m i j) (hj : j < l.length) : ∃ h' : j < m.length, m[j] = l[j] := by
  obtain ⟨h1, h2, h3, h4, h5⟩ := h
  refine ⟨by omega, ?_⟩
  have := congrArg (fun x => x[0]?) h5
  simp only [List.getElem?_drop, Nat.add_zero] at this
  rw [List.getElem?_eq_getElem (by omega), List.getElem?_eq_getElem hj] at this
  exact Option.some.inj this

theorem Kept.skip {f : Pl → Bool} {l m : List Pl} {i j : Nat} (h : Kept f l m i j) (hj : j < l.length) (hf : f l[j] = true) : Kept f l m i (j + 1) := by
  obtain ⟨h1, h2, h3, h4, h5⟩ := h
  refine ⟨h1, by omega, by omega, ?_, ?_⟩
  · rw [h4, List.take_succ_eq_append_getElem hj, List.filter_append]; simp [hf]
  · rw [← List.drop_drop, h5, List.drop_drop]

theorem Kept.keep {f : Pl → Bool} {l m : List Pl} {i j : Nat} (h : Kept f l m i j) (hj : j < l.length) (hf : f l[j] = false) : Kept f l (m.set i l[j]) (i + 1) (j + 1) := by
  obtain ⟨h1, h2, h3, h4, h5⟩ := h
  refine ⟨by simp [h1], by omega, by omega, ?_, ?_⟩
  · rw [List.take_succ_eq_append_getElem hj, List.filter_append]
    simp only [List.filter_cons, hf, Bool.not_false, if_true, List.filter_nil]
    rw [← h4, List.take_succ_eq_append_getElem (by simp; omega)]
    simp [List.take_set_of_le]
  · rw [List.drop_set_of_lt (by omega), ← List.drop_drop, h5, List.drop_drop]

theorem Kept.done {f : Pl → Bool} {l m : List Pl} {i j : Nat} (h : Kept f l m i j) (hj : ¬ j < l.length) : m.take i = l.filter (fun p => !f p) := by
  obtain ⟨h1, h2, h3, h4, h5⟩ := h
  rw [h4, List.take_of_length_le (by omega)]
/-- p stands ahead of q: by name, of like ones by node -/
def ltP (p q : Pl) : Prop := p.2.2 < q.2.2 ∨ (p.2.2 = q.2.2 ∧ p.1 < q.1)
def leP (p q : Pl) : Prop := p.2.2 < q.2.2 ∨ (p.2.2 = q.2.2 ∧ p.1 ≤ q.1)

theorem byN_lt (p q : Pl) : byN p q < 0 ↔ ltP p q := by
  unfold byN orI ltP cmpI
  by_cases h1 : p.2.2 < q.2.2
  · simp [h1]
  · by_cases h2 : q.2.2 < p.2.2
    · simp [h1, h2]; omega
    · by_cases h3 : p.1 < q.1
      · simp [h1, h2, h3]; omega
      · by_cases h4 : q.1 < p.1
        · simp [h1, h2, h3, h4]
        · simp [h1, h2, h3, h4]

theorem byN_ge (p q : Pl) : ¬ byN q p < 0 ↔ leP p q := by
  rw [byN_lt]
  unfold ltP leP
  omega
theorem scan_len (l : List Pl) : ∀ a : Int, scan a l = 0 → a ≤ 15 → (l.length : Int) ≤ 15 - a := by
  induction l with
  | nil => intro a _ h; simp; omega
  | cons p l ih =>
    intro a h ha
    unfold scan at h
    split at h
    · omega
    · split at h
      · omega
      · rename_i h1 h2
        simp at h1
        rw [inRangeB_iff] at h1
        have := ih p.1 h (by omega)
        simp only [List.length_cons]
        omega

theorem check_scan (l : List Pl) (h : check l = 0) : scan 0 l = 0 := by
  unfold check at h
  split at h
  · omega
  · rename_i h1; simpa using h1

theorem check_len (l : List Pl) (h : check l = 0) : l.length ≤ 15 := by
  have := scan_len l 0 (check_scan l h) (by omega)
  omega

/-- tree.Kids' error -/
def kidsE (l : List Pl) (n : Int) : Int := if check l ≠ 0 then check l else if isNodeB n = true then 0 else 5
end Orangery
