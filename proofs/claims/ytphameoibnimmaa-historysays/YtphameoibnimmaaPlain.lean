/- Plain functions and facts on trees as lists of places; nothing of the program is named here. -/
import Init
namespace Orangery

/-- a place: node, parent, name -/
abbrev Pl := Int × Int × Int

def find (l : List Pl) (n : Int) : Pl := (l.find? (fun p => p.1 == n)).getD (0, 0, 0)

theorem find_nil (n : Int) : find [] n = (0, 0, 0) := rfl
theorem find_cons (p : Pl) (l : List Pl) (n : Int) : find (p :: l) n = if p.1 = n then p else find l n := by
  unfold find
  by_cases h : p.1 = n <;> simp [h]

theorem find_drop (l : List Pl) (n : Int) (k : Nat) (h : k < l.length) (hf : find (l.drop k) n = find l n) :
    (l[k].1 = n → find l n = l[k]) ∧ (l[k].1 ≠ n → find (l.drop (k + 1)) n = find l n) := by
  rw [List.drop_eq_getElem_cons h, find_cons] at hf
  constructor
  · intro e; rw [if_pos e] at hf; exact hf.symm
  · intro e; rw [if_neg e] at hf; exact hf
def isNodeB (n : Int) : Bool := decide (0 ≤ n ∧ n ≤ 16)
def inRangeB (p : Pl) : Bool := decide (1 ≤ p.1 ∧ p.1 < 16 ∧ 0 ≤ p.2.1 ∧ p.2.1 ≤ 16 ∧ 0 ≤ p.2.2 ∧ p.2.2 ≤ 99)

/-- from one parent to the next one, at most so many steps -/
def meetsN (l : List Pl) (f : Int → Bool) : Nat → Int → Bool
  | 0, _ => false
  | k + 1, n => if (find l n).1 = 0 then false else if f (find l n).2.1 = true then true else meetsN l f k (find l n).2.1
theorem meetsN_step (l : List Pl) (f : Int → Bool) (k : Nat) (n : Int) (h : k < l.length) :
    ((find l n).1 = 0 → meetsN l f (l.length - k) n = false) ∧
    ((find l n).1 ≠ 0 → f (find l n).2.1 = true → meetsN l f (l.length - k) n = true) ∧
    ((find l n).1 ≠ 0 → f (find l n).2.1 = false → meetsN l f (l.length - k) n = meetsN l f (l.length - (k + 1)) (find l n).2.1) := by
  obtain ⟨j, hj⟩ : ∃ j, l.length - k = j + 1 := ⟨l.length - k - 1, by omega⟩
  have hj' : l.length - (k + 1) = j := by omega
  rw [hj, hj']
  refine ⟨fun h1 => ?_, fun h1 h2 => ?_, fun h1 h2 => ?_⟩
  · simp [meetsN, h1]
  · simp [meetsN, h1, h2]
  · simp [meetsN, h1, h2]
/-- the first look: place by place, each node above the one ahead -/
def scan : Int → List Pl → Int
  | _, [] => 0
  | a, p :: l => if inRangeB p = false then 3 else if p.1 ≤ a then 6 else scan p.1 l

def ringAt (l : List Pl) (p : Pl) : Bool := meetsN l (fun m => m == p.1) l.length p.1

/-- tree.Check -/
def check (l : List Pl) : Int := if scan 0 l ≠ 0 then scan 0 l else if l.any (ringAt l) = true then 4 else 0

theorem scan_step (l : List Pl) (k : Nat) (a : Int) (h : k < l.length) (hs : scan a (l.drop k) = scan 0 l) :
    (inRangeB l[k] = false → scan 0 l = 3) ∧ (inRangeB l[k] = true → l[k].1 ≤ a → scan 0 l = 6) ∧
    (inRangeB l[k] = true → ¬ l[k].1 ≤ a → scan l[k].1 (l.drop (k + 1)) = scan 0 l) := by
  rw [List.drop_eq_getElem_cons h] at hs
  refine ⟨fun h1 => ?_, fun h1 h2 => ?_, fun h1 h2 => ?_⟩
  · simp [scan, h1] at hs; exact hs.symm
  · simp [scan, h1, h2] at hs; exact hs.symm
  · simp only [scan, h1, h2, Bool.true_eq_false, ↓reduceIte] at hs; exact hs

theorem check_of_scan (l : List Pl) (h : scan 0 l ≠ 0) : check l = scan 0 l := by unfold check; rw [if_pos h]
theorem check_of_ring (l : List Pl) (h : scan 0 l = 0) (k : Nat) (hk : k < l.length) (hr : ringAt l l[k] = true) : check l = 4 := by
  unfold check
  rw [if_neg (by simp [h]), if_pos]
  exact List.any_eq_true.2 ⟨l[k], List.getElem_mem hk, hr⟩
theorem check_of_none (l : List Pl) (h : scan 0 l = 0) (hr : ∀ i, (hi : i < l.length) → ringAt l l[i] = false) : check l = 0 := by
  unfold check
  rw [if_neg (by simp [h]), if_neg]
  intro ha
  obtain ⟨p, hp, hq⟩ := List.any_eq_true.1 ha
  obtain ⟨i, hi, rfl⟩ := List.getElem_of_mem hp
  rw [hr i hi] at hq
  exact absurd hq (by simp)
/-- slices.IndexFunc -/
def idxF (f : Pl → Bool) : Nat → List Pl → Int
  | _, [] => -1
  | k, p :: l => if f p = true then (k : Int) else idxF f (k + 1) l

theorem idxF_step (f : Pl → Bool) (l : List Pl) (k : Nat) (h : k < l.length) (hs : idxF f k (l.drop k) = idxF f 0 l) :
    (f l[k] = true → idxF f 0 l = k) ∧ (f l[k] = false → idxF f (k + 1) (l.drop (k + 1)) = idxF f 0 l) := by
  rw [List.drop_eq_getElem_cons h] at hs
  refine ⟨fun h1 => ?_, fun h1 => ?_⟩
  · simp [idxF, h1] at hs; exact hs.symm
  · simp [idxF, h1] at hs; exact hs

theorem idxF_spec (n : Int) (l : List Pl) : ∀ k, (idxF (fun p => p.1 == n) k l = -1 ∧ find l n = (0, 0, 0)) ∨ ∃ i, ∃ h : i < l.length, idxF (fun p => p.1 == n) k l = ((k + i : Nat) : Int) ∧ find l n = l[i] := by
  induction l with
  | nil => intro k; exact Or.inl ⟨rfl, rfl⟩
  | cons p l ih =>
    intro k
    by_cases hp : p.1 = n
    · refine Or.inr ⟨0, by simp, ?_, ?_⟩
      · simp [idxF, hp]
      · rw [find_cons, if_pos hp]; rfl
    · rcases ih (k + 1) with ⟨h1, h2⟩ | ⟨i, hi, h1, h2⟩
      · refine Or.inl ⟨?_, ?_⟩
        · simp [idxF, hp, h1]
        · rw [find_cons, if_neg hp, h2]
      · refine Or.inr ⟨i + 1, by simp; omega, ?_, ?_⟩
        · simp [idxF, hp, h1]; omega
        · rw [find_cons, if_neg hp, h2]; rfl
theorem find_mem (l : List Pl) (n : Int) (h : (find l n).1 ≠ 0) : find l n ∈ l ∧ (find l n).1 = n := by
  induction l with
  | nil => simp [find_nil] at h
  | cons p l ih =>
    rw [find_cons] at h ⊢
    by_cases hp : p.1 = n
    · rw [if_pos hp]; exact ⟨by simp, hp⟩
    · rw [if_neg hp] at h ⊢
      obtain ⟨h1, h2⟩ := ih h
      exact ⟨by simp [h1], h2⟩

def hasB (x : Int) (l : List Int) : Bool := decide (x ∈ l)

/-- orangeryref.chain -/
def chainN (l : List Pl) : Nat → List Int → Int → List Int
  | 0, out, _ => out
  | k + 1, out, n => if (find l n).1 = 0 ∨ (find l n).2.1 ∈ out then out else chainN l k (out ++ [(find l n).2.1]) (find l n).2.1

def chain (l : List Pl) (n : Int) : List Int := chainN l 17 [n] n

theorem nodup_len (n : Nat) : ∀ (out : List Int), out.Nodup → (∀ x ∈ out, 0 ≤ x ∧ x < n) → out.length ≤ n := by
  induction n with
  | zero =>
    intro out _ hr
    cases out with
    | nil => simp
    | cons x t => have := hr x (by simp); omega
  | succ n ih =>
    intro out hd hr
    by_cases hm : (n : Int) ∈ out
    · have h1 := ih (out.erase (n : Int)) (hd.erase _) (fun x hx => by
        have h2 := hr x (List.mem_of_mem_erase hx)
        have h3 : x ≠ (n : Int) := fun e => by subst e; exact (List.Nodup.not_mem_erase hd) hx
        omega)
      rw [List.length_erase_of_mem hm] at h1
      omega
    · have := ih out hd (fun x hx => by
        have h2 := hr x hx
        have h3 : x ≠ (n : Int) := fun e => by subst e; exact hm hx
        omega)
      omega

def outOk (out : List Int) : Prop := out.Nodup ∧ (∀ x ∈ out, 0 ≤ x ∧ x < 17) ∧ 1 ≤ out.length

theorem outOk_len {out : List Int} (h : outOk out) : out.length ≤ 17 := nodup_len 17 out h.1 h.2.1

theorem outOk_one {n : Int} (h0 : 0 ≤ n) (h1 : n ≤ 16) : outOk [n] := by
  refine ⟨by simp, ?_, by simp⟩
  intro x hx
  simp at hx
  omega

theorem chainN_stop (l : List Pl) (out : List Int) (n : Int) (h : outOk out) (hs : (find l n).1 = 0 ∨ (find l n).2.1 ∈ out) : chainN l (18 - out.length) out n = out := by
  have := outOk_len h
  obtain ⟨j, hj⟩ : ∃ j, 18 - out.length = j + 1 := ⟨17 - out.length, by omega⟩
  rw [hj]
  simp [chainN, hs]

theorem chainN_go (l : List Pl) (out : List Int) (n : Int) (hr : ∀ p ∈ l, 0 ≤ p.2.1 ∧ p.2.1 ≤ 16) (h : outOk out) (h1 : (find l n).1 ≠ 0) (h2 : (find l n).2.1 ∉ out) :
    outOk (out ++ [(find l n).2.1]) ∧ chainN l (18 - out.length) out n = chainN l (18 - (out ++ [(find l n).2.1]).length) (out ++ [(find l n).2.1]) (find l n).2.1 := by
  have := outOk_len h
  have hp := hr _ (find_mem l n h1).1
  refine ⟨⟨?_, ?_, by simp⟩, ?_⟩
  · rw [List.nodup_append]
    refine ⟨h.1, by simp, ?_⟩
    intro a ha b hb
    simp at hb
    subst hb
    intro e
    subst e
    exact h2 ha
  · intro x hx
    simp at hx
    rcases hx with hx | hx
    · exact h.2.1 x hx
    · omega
  · obtain ⟨j, hj⟩ : ∃ j, 18 - out.length = j + 1 := ⟨17 - out.length, by omega⟩
    have hj' : 18 - (out ++ [(find l n).2.1]).length = j := by simp; omega
    rw [hj, hj']
    simp [chainN, h1, h2]
theorem inRangeB_iff (p : Pl) : inRangeB p = true ↔ 1 ≤ p.1 ∧ p.1 < 16 ∧ 0 ≤ p.2.1 ∧ p.2.1 ≤ 16 ∧ 0 ≤ p.2.2 ∧ p.2.2 ≤ 99 := by simp [inRangeB]

theorem scan_range (l : List Pl) : ∀ a, scan a l = 0 → ∀ p ∈ l, inRangeB p = true ∧ a < p.1 := by
  induction l with
  | nil => intro a _ p hp; simp at hp
  | cons q l ih =>
    intro a h p hp
    unfold scan at h
    split at h
    · omega
    · split at h
      · omega
      · rename_i h1 h2
        simp at hp h1
        rcases hp with rfl | hp
        · exact ⟨h1, by omega⟩
        · have := ih q.1 h p hp
          exact ⟨this.1, by omega⟩

def rRing (l : List Pl) (p : Pl) : Bool := hasB p.1 (chain l p.2.1)

/-- orangeryref.CheckTree -/
def checkR (l : List Pl) : Int := if scan 0 l ≠ 0 then scan 0 l else if l.any (rRing l) = true then 4 else 0

theorem checkR_of_scan (l : List Pl) (h : scan 0 l ≠ 0) : checkR l = scan 0 l := by unfold checkR; rw [if_pos h]
theorem checkR_of_ring (l : List Pl) (h : scan 0 l = 0) (k : Nat) (hk : k < l.length) (hr : rRing l l[k] = true) : checkR l = 4 := by
  unfold checkR
  rw [if_neg (by simp [h]), if_pos]
  exact List.any_eq_true.2 ⟨l[k], List.getElem_mem hk, hr⟩
theorem checkR_of_none (l : List Pl) (h : scan 0 l = 0) (hr : ∀ i, (hi : i < l.length) → rRing l l[i] = false) : checkR l = 0 := by
  unfold checkR
  rw [if_neg (by simp [h]), if_neg]
  intro ha
  obtain ⟨p, hp, hq⟩ := List.any_eq_true.1 ha
  obtain ⟨i, hi, rfl⟩ := List.getElem_of_mem hp
  rw [hr i hi] at hq
  exact absurd hq (by simp)
end Orangery
