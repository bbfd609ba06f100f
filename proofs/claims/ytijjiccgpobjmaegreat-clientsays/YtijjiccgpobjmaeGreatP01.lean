/- 7 texts of the proof: Plain functions and facts on trees as lists of places; nothing of the program is named here. Plain functions: tree.Under; a small tree. Plain facts on slices.DeleteFunc: what stays is what is kept. Plain facts: orangeryref.KidsOf lists what tree.Kids lists. Plain facts: who stands below whom, by steps and by chains. Plain facts: below is an order; all kids are all places. Plain facts on moving one -/
import Init
/- Plain functions and facts on trees as lists of places; nothing of the program is named here. -/
namespace Orangery

/-- a place: node, parent, name -/
abbrev Pl := Int × Int × Int

def find (l : List Pl) (n : Int) : Pl := (l.find? (fun p => p.1 == n)).getD (0, 0, 0)

theorem find_nil (n : Int) : find [] n = (0, 0, 0) := rfl
theorem find_cons (p : Pl) (l : List Pl) (n : Int) : find (p :: l) n = if p.1 = n then p else find l n := by
  unfold find
  by_cases h : p.1 = n <;> simp [h]

theorem find_drop (l : List Pl) (n : Int) (k : Nat) (h : k < l.length) (hf : find (l.drop k) n = find l n) :
    (l[k].1 = n → find l n = l[k]) ∧ (l[k].1 ≠ n → find (l.drop (k + 1)) n = find l n) := by
  rw [List.drop_eq_getElem_cons h, find_cons] at hf
  constructor
  · intro e; rw [if_pos e] at hf; exact hf.symm
  · intro e; rw [if_neg e] at hf; exact hf
def isNodeB (n : Int) : Bool := decide (0 ≤ n ∧ n ≤ 16)
def inRangeB (p : Pl) : Bool := decide (1 ≤ p.1 ∧ p.1 < 16 ∧ 0 ≤ p.2.1 ∧ p.2.1 ≤ 16 ∧ 0 ≤ p.2.2 ∧ p.2.2 ≤ 99)

/-- from one parent to the next one, at most so many steps -/
def meetsN (l : List Pl) (f : Int → Bool) : Nat → Int → Bool
  | 0, _ => false
  | k + 1, n => if (find l n).1 = 0 then false else if f (find l n).2.1 = true then true else meetsN l f k (find l n).2.1
theorem meetsN_step (l : List Pl) (f : Int → Bool) (k : Nat) (n : Int) (h : k < l.length) :
    ((find l n).1 = 0 → meetsN l f (l.length - k) n = false) ∧
    ((find l n).1 ≠ 0 → f (find l n).2.1 = true → meetsN l f (l.length - k) n = true) ∧
    ((find l n).1 ≠ 0 → f (find l n).2.1 = false → meetsN l f (l.length - k) n = meetsN l f (l.length - (k + 1)) (find l n).2.1) := by
  obtain ⟨j, hj⟩ : ∃ j, l.length - k = j + 1 := ⟨l.length - k - 1, by omega⟩
  have hj' : l.length - (k + 1) = j := by omega
  rw [hj, hj']
  refine ⟨fun h1 => ?_, fun h1 h2 => ?_, fun h1 h2 => ?_⟩
  · simp [meetsN, h1]
  · simp [meetsN, h1, h2]
  · simp [meetsN, h1, h2]
/-- the first look: place by place, each node above the one ahead -/
def scan : Int → List Pl → Int
  | _, [] => 0
  | a, p :: l => if inRangeB p = false then 3 else if p.1 ≤ a then 6 else scan p.1 l

def ringAt (l : List Pl) (p : Pl) : Bool := meetsN l (fun m => m == p.1) l.length p.1

/-- tree.Check -/
def check (l : List Pl) : Int := if scan 0 l ≠ 0 then scan 0 l else if l.any (ringAt l) = true then 4 else 0

theorem scan_step (l : List Pl) (k : Nat) (a : Int) (h : k < l.length) (hs : scan a (l.drop k) = scan 0 l) :
    (inRangeB l[k] = false → scan 0 l = 3) ∧ (inRangeB l[k] = true → l[k].1 ≤ a → scan 0 l = 6) ∧
    (inRangeB l[k] = true → ¬ l[k].1 ≤ a → scan l[k].1 (l.drop (k + 1)) = scan 0 l) := by
  rw [List.drop_eq_getElem_cons h] at hs
  refine ⟨fun h1 => ?_, fun h1 h2 => ?_, fun h1 h2 => ?_⟩
  · simp [scan, h1] at hs; exact hs.symm
  · simp [scan, h1, h2] at hs; exact hs.symm
  · simp only [scan, h1, h2, Bool.true_eq_false, ↓reduceIte] at hs; exact hs

theorem check_of_scan (l : List Pl) (h : scan 0 l ≠ 0) : check l = scan 0 l := by unfold check; rw [if_pos h]
theorem check_of_ring (l : List Pl) (h : scan 0 l = 0) (k : Nat) (hk : k < l.length) (hr : ringAt l l[k] = true) : check l = 4 := by
  unfold check
  rw [if_neg (by simp [h]), if_pos]
  exact List.any_eq_true.2 ⟨l[k], List.getElem_mem hk, hr⟩
theorem check_of_none (l : List Pl) (h : scan 0 l = 0) (hr : ∀ i, (hi : i < l.length) → ringAt l l[i] = false) : check l = 0 := by
  unfold check
  rw [if_neg (by simp [h]), if_neg]
  intro ha
  obtain ⟨p, hp, hq⟩ := List.any_eq_true.1 ha
  obtain ⟨i, hi, rfl⟩ := List.getElem_of_mem hp
  rw [hr i hi] at hq
  exact absurd hq (by simp)
/-- slices.IndexFunc -/
def idxF (f : Pl → Bool) : Nat → List Pl → Int
  | _, [] => -1
  | k, p :: l => if f p = true then (k : Int) else idxF f (k + 1) l

theorem idxF_step (f : Pl → Bool) (l : List Pl) (k : Nat) (h : k < l.length) (hs : idxF f k (l.drop k) = idxF f 0 l) :
    (f l[k] = true → idxF f 0 l = k) ∧ (f l[k] = false → idxF f (k + 1) (l.drop (k + 1)) = idxF f 0 l) := by
  rw [List.drop_eq_getElem_cons h] at hs
  refine ⟨fun h1 => ?_, fun h1 => ?_⟩
  · simp [idxF, h1] at hs; exact hs.symm
  · simp [idxF, h1] at hs; exact hs

theorem idxF_spec (n : Int) (l : List Pl) : ∀ k, (idxF (fun p => p.1 == n) k l = -1 ∧ find l n = (0, 0, 0)) ∨ ∃ i, ∃ h : i < l.length, idxF (fun p => p.1 == n) k l = ((k + i : Nat) : Int) ∧ find l n = l[i] := by
  induction l with
  | nil => intro k; exact Or.inl ⟨rfl, rfl⟩
  | cons p l ih =>
    intro k
    by_cases hp : p.1 = n
    · refine Or.inr ⟨0, by simp, ?_, ?_⟩
      · simp [idxF, hp]
      · rw [find_cons, if_pos hp]; rfl
    · rcases ih (k + 1) with ⟨h1, h2⟩ | ⟨i, hi, h1, h2⟩
      · refine Or.inl ⟨?_, ?_⟩
        · simp [idxF, hp, h1]
        · rw [find_cons, if_neg hp, h2]
      · refine Or.inr ⟨i + 1, by simp; omega, ?_, ?_⟩
        · simp [idxF, hp, h1]; omega
        · rw [find_cons, if_neg hp, h2]; rfl
theorem find_mem (l : List Pl) (n : Int) (h : (find l n).1 ≠ 0) : find l n ∈ l ∧ (find l n).1 = n := by
  induction l with
  | nil => simp [find_nil] at h
  | cons p l ih =>
    rw [find_cons] at h ⊢
    by_cases hp : p.1 = n
    · rw [if_pos hp]; exact ⟨by simp, hp⟩
    · rw [if_neg hp] at h ⊢
      obtain ⟨h1, h2⟩ := ih h
      exact ⟨by simp [h1], h2⟩

def hasB (x : Int) (l : List Int) : Bool := decide (x ∈ l)

/-- orangeryref.chain -/
def chainN (l : List Pl) : Nat → List Int → Int → List Int
  | 0, out, _ => out
  | k + 1, out, n => if (find l n).1 = 0 ∨ (find l n).2.1 ∈ out then out else chainN l k (out ++ [(find l n).2.1]) (find l n).2.1

def chain (l : List Pl) (n : Int) : List Int := chainN l 17 [n] n

theorem nodup_len (n : Nat) : ∀ (out : List Int), out.Nodup → (∀ x ∈ out, 0 ≤ x ∧ x < n) → out.length ≤ n := by
  induction n with
  | zero =>
    intro out _ hr
    cases out with
    | nil => simp
    | cons x t => have := hr x (by simp); omega
  | succ n ih =>
    intro out hd hr
    by_cases hm : (n : Int) ∈ out
    · have h1 := ih (out.erase (n : Int)) (hd.erase _) (fun x hx => by
        have h2 := hr x (List.mem_of_mem_erase hx)
        have h3 : x ≠ (n : Int) := fun e => by subst e; exact (List.Nodup.not_mem_erase hd) hx
        omega)
      rw [List.length_erase_of_mem hm] at h1
      omega
    · have := ih out hd (fun x hx => by
        have h2 := hr x hx
        have h3 : x ≠ (n : Int) := fun e => by subst e; exact hm hx
        omega)
      omega

def outOk (out : List Int) : Prop := out.Nodup ∧ (∀ x ∈ out, 0 ≤ x ∧ x < 17) ∧ 1 ≤ out.length

theorem outOk_len {out : List Int} (h : outOk out) : out.length ≤ 17 := nodup_len 17 out h.1 h.2.1

theorem outOk_one {n : Int} (h0 : 0 ≤ n) (h1 : n ≤ 16) : outOk [n] := by
  refine ⟨by simp, ?_, by simp⟩
  intro x hx
  simp at hx
  omega

theorem chainN_stop (l : List Pl) (out : List Int) (n : Int) (h : outOk out) (hs : (find l n).1 = 0 ∨ (find l n).2.1 ∈ out) : chainN l (18 - out.length) out n = out := by
  have := outOk_len h
  obtain ⟨j, hj⟩ : ∃ j, 18 - out.length = j + 1 := ⟨17 - out.length, by omega⟩
  rw [hj]
  simp [chainN, hs]

theorem chainN_go (l : List Pl) (out : List Int) (n : Int) (hr : ∀ p ∈ l, 0 ≤ p.2.1 ∧ p.2.1 ≤ 16) (h : outOk out) (h1 : (find l n).1 ≠ 0) (h2 : (find l n).2.1 ∉ out) :
    outOk (out ++ [(find l n).2.1]) ∧ chainN l (18 - out.length) out n = chainN l (18 - (out ++ [(find l n).2.1]).length) (out ++ [(find l n).2.1]) (find l n).2.1 := by
  have := outOk_len h
  have hp := hr _ (find_mem l n h1).1
  refine ⟨⟨?_, ?_, by simp⟩, ?_⟩
  · rw [List.nodup_append]
    refine ⟨h.1, by simp, ?_⟩
    intro a ha b hb
    simp at hb
    subst hb
    intro e
    subst e
    exact h2 ha
  · intro x hx
    simp at hx
    rcases hx with hx | hx
    · exact h.2.1 x hx
    · omega
  · obtain ⟨j, hj⟩ : ∃ j, 18 - out.length = j + 1 := ⟨17 - out.length, by omega⟩
    have hj' : 18 - (out ++ [(find l n).2.1]).length = j := by simp; omega
    rw [hj, hj']
    simp [chainN, h1, h2]
theorem inRangeB_iff (p : Pl) : inRangeB p = true ↔ 1 ≤ p.1 ∧ p.1 < 16 ∧ 0 ≤ p.2.1 ∧ p.2.1 ≤ 16 ∧ 0 ≤ p.2.2 ∧ p.2.2 ≤ 99 := by simp [inRangeB]

theorem scan_range (l : List Pl) : ∀ a, scan a l = 0 → ∀ p ∈ l, inRangeB p = true ∧ a < p.1 := by
  induction l with
  | nil => intro a _ p hp; simp at hp
  | cons q l ih =>
    intro a h p hp
    unfold scan at h
    split at h
    · omega
    · split at h
      · omega
      · rename_i h1 h2
        simp at hp h1
        rcases hp with rfl | hp
        · exact ⟨h1, by omega⟩
        · have := ih q.1 h p hp
          exact ⟨this.1, by omega⟩

def rRing (l : List Pl) (p : Pl) : Bool := hasB p.1 (chain l p.2.1)

/-- orangeryref.CheckTree -/
def checkR (l : List Pl) : Int := if scan 0 l ≠ 0 then scan 0 l else if l.any (rRing l) = true then 4 else 0

theorem checkR_of_scan (l : List Pl) (h : scan 0 l ≠ 0) : checkR l = scan 0 l := by unfold checkR; rw [if_pos h]
theorem checkR_of_ring (l : List Pl) (h : scan 0 l = 0) (k : Nat) (hk : k < l.length) (hr : rRing l l[k] = true) : checkR l = 4 := by
  unfold checkR
  rw [if_neg (by simp [h]), if_pos]
  exact List.any_eq_true.2 ⟨l[k], List.getElem_mem hk, hr⟩
theorem checkR_of_none (l : List Pl) (h : scan 0 l = 0) (hr : ∀ i, (hi : i < l.length) → rRing l l[i] = false) : checkR l = 0 := by
  unfold checkR
  rw [if_neg (by simp [h]), if_neg]
  intro ha
  obtain ⟨p, hp, hq⟩ := List.any_eq_true.1 ha
  obtain ⟨i, hi, rfl⟩ := List.getElem_of_mem hp
  rw [hr i hi] at hq
  exact absurd hq (by simp)
end Orangery

/- Plain functions: tree.Under; a small tree. -/
namespace Orangery

/-- tree.Under -/
def underE (l : List Pl) (n t : Int) : Int := if check l ≠ 0 then check l else if isNodeB n = true ∧ isNodeB t = true then 0 else 5
def underB (l : List Pl) (n t : Int) : Bool := if underE l n t ≠ 0 then false else (n == t) || meetsN l (fun m => m == t) l.length n

theorem underE_bad (l : List Pl) (n t : Int) (h : check l ≠ 0) : underE l n t = check l ∧ underB l n t = false := by
  have : underE l n t = check l := by simp [underE, h]
  exact ⟨this, by simp [underB, this, h]⟩
theorem underE_who (l : List Pl) (n t : Int) (h : check l = 0) (hn : ¬ (isNodeB n = true ∧ isNodeB t = true)) : underE l n t = 5 ∧ underB l n t = false := by
  have : underE l n t = 5 := by simp only [underE, h, ne_eq, not_true_eq_false, if_false, if_neg hn]
  exact ⟨this, by simp [underB, this]⟩
theorem underE_ok (l : List Pl) (n t : Int) (h : check l = 0) (h1 : isNodeB n = true) (h2 : isNodeB t = true) : underE l n t = 0 ∧ underB l n t = ((n == t) || meetsN l (fun m => m == t) l.length n) := by
  have : underE l n t = 0 := by simp [underE, h, h1, h2]
  exact ⟨this, by simp [underB, this]⟩

def smallL : List Pl := [(1, 0, 5), (2, 1, 7), (3, 1, 6), (4, 2, 0)]
def ringL : List Pl := [(1, 2, 0), (2, 1, 0)]
def cmpI (x y : Int) : Int := if x < y then -1 else if y < x then 1 else 0
def orI (x y : Int) : Int := if x ≠ 0 then x else y
/-- tree.byName -/
def byN (p q : Pl) : Int := orI (cmpI p.2.2 q.2.2) (cmpI p.1 q.1)
end Orangery

/- Plain facts on slices.DeleteFunc: what stays is what is kept. -/
namespace Orangery

/-- the contents m of a row in which i places are kept of the first j of l -/
def Kept (f : Pl → Bool) (l m : List Pl) (i j : Nat) : Prop :=
  m.length = l.length ∧ i < j ∧ j ≤ l.length ∧ m.take i = (l.take j).filter (fun p => !f p) ∧ m.drop j = l.drop j

theorem idxF_first (f : Pl → Bool) (l : List Pl) : ∀ k, (idxF f k l = -1 ∧ l.filter (fun p => !f p) = l) ∨ ∃ i, i < l.length ∧ idxF f k l = ((k + i : Nat) : Int) ∧ (l.take (i + 1)).filter (fun p => !f p) = l.take i := by
  induction l with
  | nil => intro k; exact Or.inl ⟨rfl, rfl⟩
  | cons p l ih =>
    intro k
    cases hp : f p
    · rcases ih (k + 1) with ⟨h1, h2⟩ | ⟨i, hi, h1, h2⟩
      · exact Or.inl ⟨by simp [idxF, hp, h1], by simp [hp, h2]⟩
      · refine Or.inr ⟨i + 1, by simp; omega, ?_, ?_⟩
        · simp [idxF, hp, h1]; omega
        · simp [hp] at h2 ⊢; exact h2
    · exact Or.inr ⟨0, by simp, by simp [idxF, hp], by simp [hp]⟩

theorem Kept.start (f : Pl → Bool) (l : List Pl) (i : Nat) (h : i < l.length) (hf : (l.take (i + 1)).filter (fun p => !f p) = l.take i) : Kept f l l i (i + 1) :=
  ⟨rfl, by omega, by omega, hf.symm, rfl⟩

theorem Kept.get {f : Pl → Bool} {l m : List Pl} {i j : Nat} (h : Kept f l m i j) (hj : j < l.length) : ∃ h' : j < m.length, m[j] = l[j] := by
  obtain ⟨h1, h2, h3, h4, h5⟩ := h
  refine ⟨by omega, ?_⟩
  have := congrArg (fun x => x[0]?) h5
  simp only [List.getElem?_drop, Nat.add_zero] at this
  rw [List.getElem?_eq_getElem (by omega), List.getElem?_eq_getElem hj] at this
  exact Option.some.inj this

theorem Kept.skip {f : Pl → Bool} {l m : List Pl} {i j : Nat} (h : Kept f l m i j) (hj : j < l.length) (hf : f l[j] = true) : Kept f l m i (j + 1) := by
  obtain ⟨h1, h2, h3, h4, h5⟩ := h
  refine ⟨h1, by omega, by omega, ?_, ?_⟩
  · rw [h4, List.take_succ_eq_append_getElem hj, List.filter_append]; simp [hf]
  · rw [← List.drop_drop, h5, List.drop_drop]

theorem Kept.keep {f : Pl → Bool} {l m : List Pl} {i j : Nat} (h : Kept f l m i j) (hj : j < l.length) (hf : f l[j] = false) : Kept f l (m.set i l[j]) (i + 1) (j + 1) := by
  obtain ⟨h1, h2, h3, h4, h5⟩ := h
  refine ⟨by simp [h1], by omega, by omega, ?_, ?_⟩
  · rw [List.take_succ_eq_append_getElem hj, List.filter_append]
    simp only [List.filter_cons, hf, Bool.not_false, if_true, List.filter_nil]
    rw [← h4, List.take_succ_eq_append_getElem (by simp; omega)]
    simp [List.take_set_of_le]
  · rw [List.drop_set_of_lt (by omega), ← List.drop_drop, h5, List.drop_drop]

theorem Kept.done {f : Pl → Bool} {l m : List Pl} {i j : Nat} (h : Kept f l m i j) (hj : ¬ j < l.length) : m.take i = l.filter (fun p => !f p) := by
  obtain ⟨h1, h2, h3, h4, h5⟩ := h
  rw [h4, List.take_of_length_le (by omega)]
/-- p stands ahead of q: by name, of like ones by node -/
def ltP (p q : Pl) : Prop := p.2.2 < q.2.2 ∨ (p.2.2 = q.2.2 ∧ p.1 < q.1)
def leP (p q : Pl) : Prop := p.2.2 < q.2.2 ∨ (p.2.2 = q.2.2 ∧ p.1 ≤ q.1)

theorem byN_lt (p q : Pl) : byN p q < 0 ↔ ltP p q := by
  unfold byN orI ltP cmpI
  by_cases h1 : p.2.2 < q.2.2
  · simp [h1]
  · by_cases h2 : q.2.2 < p.2.2
    · simp [h1, h2]; omega
    · by_cases h3 : p.1 < q.1
      · simp [h1, h2, h3]; omega
      · by_cases h4 : q.1 < p.1
        · simp [h1, h2, h3, h4]
        · simp [h1, h2, h3, h4]

theorem byN_ge (p q : Pl) : ¬ byN q p < 0 ↔ leP p q := by
  rw [byN_lt]
  unfold ltP leP
  omega
theorem scan_len (l : List Pl) : ∀ a : Int, scan a l = 0 → a ≤ 15 → (l.length : Int) ≤ 15 - a := by
  induction l with
  | nil => intro a _ h; simp; omega
  | cons p l ih =>
    intro a h ha
    unfold scan at h
    split at h
    · omega
    · split at h
      · omega
      · rename_i h1 h2
        simp at h1
        rw [inRangeB_iff] at h1
        have := ih p.1 h (by omega)
        simp only [List.length_cons]
        omega

theorem check_scan (l : List Pl) (h : check l = 0) : scan 0 l = 0 := by
  unfold check at h
  split at h
  · omega
  · rename_i h1; simpa using h1

theorem check_len (l : List Pl) (h : check l = 0) : l.length ≤ 15 := by
  have := scan_len l 0 (check_scan l h) (by omega)
  omega

/-- tree.Kids' error -/
def kidsE (l : List Pl) (n : Int) : Int := if check l ≠ 0 then check l else if isNodeB n = true then 0 else 5
end Orangery

/- Plain facts: orangeryref.KidsOf lists what tree.Kids lists. -/
namespace Orangery

def kidAt (n nm : Int) (p : Pl) : Bool := p.2.1 == n && p.2.2 == nm

/-- orangeryref.KidsOf, of the names below k -/
def kidsR (l : List Pl) (n : Int) (k : Nat) : List Pl := (List.range k).flatMap fun (nm : Nat) => l.filter (kidAt n nm)

theorem kidsR_zero (l : List Pl) (n : Int) : kidsR l n 0 = [] := rfl
theorem kidsR_succ (l : List Pl) (n : Int) (k : Nat) : kidsR l n (k + 1) = kidsR l n k ++ l.filter (kidAt n k) := by
  simp [kidsR, List.range_succ]

theorem kidsR_len (l : List Pl) (n : Int) (k : Nat) : (kidsR l n k).length ≤ k * l.length := by
  induction k with
  | zero => simp [kidsR_zero]
  | succ k ih =>
    rw [kidsR_succ, List.length_append, Nat.succ_mul]
    have := List.length_filter_le (kidAt n k) l
    omega

theorem filter_or (f g : Pl → Bool) (hd : ∀ p, f p = true → g p = false) (l : List Pl) : (l.filter f ++ l.filter g).Perm (l.filter fun p => f p || g p) := by
  induction l with
  | nil => exact List.Perm.refl _
  | cons p l ih =>
    simp only [List.filter_cons]
    cases hf : f p
    · cases hg : g p
      · simpa using ih
      · simp only [Bool.or_true, if_true, Bool.false_eq_true, if_false]
        exact List.perm_middle.trans (List.Perm.cons _ ih)
    · have hg := hd p hf
      simp only [hg, Bool.or_false, if_true, Bool.false_eq_true, if_false, List.cons_append]
      exact List.Perm.cons _ ih

/-- the filter by a name below k: a permutation -/
theorem kidsR_perm (l : List Pl) (n : Int) (k : Nat) : (kidsR l n k).Perm (l.filter fun p => p.2.1 == n && decide (0 ≤ p.2.2 ∧ p.2.2 < k)) := by
  induction k with
  | zero =>
    rw [kidsR_zero]
    have : (l.filter fun p => p.2.1 == n && decide (0 ≤ p.2.2 ∧ p.2.2 < ((0 : Nat) : Int))) = [] := by
      rw [List.filter_eq_nil_iff]
      intro p _ h
      simp at h
      omega
    rw [this]
  | succ k ih =>
    rw [kidsR_succ]
    refine (ih.append_right _).trans ?_
    refine (filter_or _ _ ?_ l).trans ?_
    · intro p hp
      simp [kidAt] at hp ⊢
      omega
    · have e : (l.filter fun (p : Pl) => (p.2.1 == n && decide (0 ≤ p.2.2 ∧ p.2.2 < (k : Int))) || kidAt n (k : Int) p) = l.filter fun p => p.2.1 == n && decide (0 ≤ p.2.2 ∧ p.2.2 < ((k + 1 : Nat) : Int)) := by
        apply List.filter_congr
        intro p _
        rw [Bool.eq_iff_iff]
        simp [kidAt]
        omega
      rw [e]

theorem kidsR_sorted (l : List Pl) (n : Int) (hl : l.Pairwise fun p q => p.1 < q.1) (k : Nat) : (kidsR l n k).Pairwise leP ∧ ∀ p ∈ kidsR l n k, p.2.2 < k := by
  induction k with
  | zero => simp [kidsR_zero]
  | succ k ih =>
    rw [kidsR_succ]
    refine ⟨?_, ?_⟩
    · rw [List.pairwise_append]
      refine ⟨ih.1, ?_, ?_⟩
      · have h1 : (l.filter (kidAt n k)).Pairwise fun p q => p.1 < q.1 := hl.filter _
        refine List.Pairwise.imp_of_mem ?_ h1
        intro p q hp hq h
        simp [kidAt] at hp hq
        unfold leP
        omega
      · intro p hp q hq
        have h1 := ih.2 p hp
        simp [kidAt] at hq
        unfold leP
        omega
    · intro p hp
      rw [List.mem_append] at hp
      rcases hp with hp | hp
      · have := ih.2 p hp; omega
      · simp [kidAt] at hp; omega

theorem scan_sorted (l : List Pl) : ∀ a, scan a l = 0 → l.Pairwise fun p q => p.1 < q.1 := by
  induction l with
  | nil => intro a _; exact List.Pairwise.nil
  | cons p l ih =>
    intro a h
    unfold scan at h
    split at h
    · omega
    · split at h
      · omega
      · rw [List.pairwise_cons]
        exact ⟨fun q hq => (scan_range l p.1 h q hq).2, ih p.1 h⟩

theorem leP_antisymm {l : List Pl} (hl : l.Pairwise fun p q => p.1 < q.1) : ∀ p q, p ∈ l → q ∈ l → leP p q → leP q p → p = q := by
  intro p q hp hq h1 h2
  have e : p.1 = q.1 := by unfold leP at *; omega
  induction l with
  | nil => simp at hp
  | cons r l ih =>
    rw [List.pairwise_cons] at hl
    simp at hp hq
    rcases hp with rfl | hp <;> rcases hq with rfl | hq
    · rfl
    · have := hl.1 q hq; omega
    · have := hl.1 p hp; omega
    · exact ih hl.2 hp hq

/-- what is listed both ways is one -/
theorem kids_eq (l l' : List Pl) (n : Int) (hc : check l = 0) (hp : l'.Perm (l.filter fun p => p.2.1 == n)) (hs : l'.Pairwise leP) : l' = kidsR l n 100 := by
  have hsc := check_scan l hc
  have hso := scan_sorted l 0 hsc
  have e1 : (l.filter fun p => p.2.1 == n && decide (0 ≤ p.2.2 ∧ p.2.2 < ((100 : Nat) : Int))) = l.filter fun p => p.2.1 == n := by
    apply List.filter_congr
    intro p hp
    have := (inRangeB_iff p).1 (scan_range l 0 hsc p hp).1
    have h : 0 ≤ p.2.2 ∧ p.2.2 < ((100 : Nat) : Int) := by omega
    simp [h]
    omega
  have hR := kidsR_perm l n 100
  rw [e1] at hR
  refine List.Perm.eq_of_pairwise (le := leP) ?_ hs (kidsR_sorted l n hso 100).1 (hp.trans hR.symm)
  intro p q h1 h2 h3 h4
  have m1 : p ∈ l := (List.mem_filter.1 (hp.mem_iff.1 h1)).1
  have m2 : q ∈ l := (List.mem_filter.1 (hR.mem_iff.1 h2)).1
  exact leP_antisymm hso p q m1 m2 h3 h4
end Orangery

/- Plain facts: who stands below whom, by steps and by chains. -/
namespace Orangery

/-- so many steps up -/
def upN (l : List Pl) : Nat → Int → Option Int
  | 0, n => some n
  | k + 1, n => if (find l n).1 = 0 then none else upN l k (find l n).2.1

def up1 (l : List Pl) (n : Int) : Option Int := if (find l n).1 = 0 then none else some (find l n).2.1

theorem upN_succ (l : List Pl) (k : Nat) : ∀ n, upN l (k + 1) n = (upN l k n).bind (up1 l) := by
  induction k with
  | zero => intro n; simp [upN, up1]
  | succ k ih =>
    intro n
    rw [upN]
    by_cases h : (find l n).1 = 0
    · simp [h, upN]
    · rw [if_neg h, ih]
      simp [upN, h]

theorem meetsN_iff (l : List Pl) (t : Int) (k : Nat) : ∀ n, meetsN l (fun m => m == t) k n = true ↔ ∃ j, 1 ≤ j ∧ j ≤ k ∧ upN l j n = some t := by
  induction k with
  | zero =>
    intro n
    simp [meetsN]
    omega
  | succ k ih =>
    intro n
    unfold meetsN
    by_cases h : (find l n).1 = 0
    · simp only [h, if_true, Bool.false_eq_true, false_iff]
      rintro ⟨j, h1, h2, h3⟩
      obtain ⟨i, rfl⟩ : ∃ i, j = i + 1 := ⟨j - 1, by omega⟩
      simp [upN, h] at h3
    · by_cases h2 : (find l n).2.1 = t
      · simp only [h, if_false, h2, beq_self_eq_true, if_true, true_iff]
        exact ⟨1, by omega, by omega, by simp [upN, h, h2]⟩
      · have e : ((find l n).2.1 == t) = false := by simp [h2]
        simp only [h, if_false, e, Bool.false_eq_true]
        rw [ih]
        constructor
        · rintro ⟨j, h3, h4, h5⟩
          exact ⟨j + 1, by omega, by omega, by simp [upN, h, h5]⟩
        · rintro ⟨j, h3, h4, h5⟩
          obtain ⟨i, rfl⟩ : ∃ i, j = i + 1 := ⟨j - 1, by omega⟩
          simp [upN, h] at h5
          cases i with
          | zero => simp [upN] at h5; exact absurd h5 h2
          | succ i => exact ⟨i + 1, by omega, by omega, h5⟩

/-- a chain in the making -/
def ChainInv (l : List Pl) (s : Int) (out : List Int) (n : Int) : Prop :=
  outOk out ∧ (∀ i, (h : i < out.length) → upN l i s = some out[i]) ∧ upN l (out.length - 1) s = some n

theorem chain_go (l : List Pl) (s : Int) (hr : ∀ p ∈ l, 0 ≤ p.2.1 ∧ p.2.1 ≤ 16) : ∀ d out n, 18 - out.length = d → ChainInv l s out n →
    ∃ r m, chainN l (18 - out.length) out n = r ∧ ChainInv l s r m ∧ ((find l m).1 = 0 ∨ (find l m).2.1 ∈ r) := by
  intro d
  induction d with
  | zero =>
    intro out n hd hI
    have := outOk_len hI.1
    omega
  | succ d ih =>
    intro out n hd hI
    have hlen := outOk_len hI.1
    by_cases hs : (find l n).1 = 0 ∨ (find l n).2.1 ∈ out
    · exact ⟨out, n, chainN_stop l out n hI.1 hs, hI, hs⟩
    · have h1 : (find l n).1 ≠ 0 := fun h => hs (Or.inl h)
      have h2 : (find l n).2.1 ∉ out := fun h => hs (Or.inr h)
      obtain ⟨hok, he⟩ := chainN_go l out n hr hI.1 h1 h2
      have hpos := hI.1.2.2
      have hstep : upN l out.length s = some (find l n).2.1 := by
        have : out.length = (out.length - 1) + 1 := by omega
        rw [this, upN_succ, hI.2.2]
        simp [up1, h1]
      have hI' : ChainInv l s (out ++ [(find l n).2.1]) (find l n).2.1 := by
        refine ⟨hok, ?_, by simpa using hstep⟩
        intro i hi
        by_cases hlt : i < out.length
        · rw [List.getElem_append_left hlt]; exact hI.2.1 i hlt
        · have : i = out.length := by simp at hi; omega
          subst this
          simpa using hstep
      obtain ⟨r, m, e1, e2, e3⟩ := ih _ _ (by simp; omega) hI'
      exact ⟨r, m, by rw [he]; exact e1, e2, e3⟩

theorem chain_inv (l : List Pl) (s : Int) (hr : ∀ p ∈ l, 0 ≤ p.2.1 ∧ p.2.1 ≤ 16) (h0 : 0 ≤ s) (h1 : s ≤ 16) :
    ∃ m, ChainInv l s (chain l s) m ∧ ((find l m).1 = 0 ∨ (find l m).2.1 ∈ chain l s) := by
  obtain ⟨r, m, e1, e2, e3⟩ := chain_go l s hr _ [s] s rfl ⟨outOk_one h0 h1, by intro i hi; simp at hi; subst hi; rfl, rfl⟩
  have : chain l s = r := e1
  rw [this]
  exact ⟨m, e2, e3⟩

/-- all that is reached is on the chain -/
theorem chain_all (l : List Pl) (s : Int) (hr : ∀ p ∈ l, 0 ≤ p.2.1 ∧ p.2.1 ≤ 16) (h0 : 0 ≤ s) (h1 : s ≤ 16) (k : Nat) : ∀ x, upN l k s = some x → x ∈ chain l s := by
  obtain ⟨m, ⟨hok, hi, hl⟩, hstop⟩ := chain_inv l s hr h0 h1
  have hpos := hok.2.2
  induction k with
  | zero =>
    intro x hx
    have h := hi 0 (by omega)
    rw [h] at hx
    have e := Option.some.inj hx
    rw [← e]
    exact List.getElem_mem _
  | succ k ih =>
    intro x hx
    rw [upN_succ] at hx
    cases hk : upN l k s with
    | none => rw [hk] at hx; simp at hx
    | some y =>
      rw [hk] at hx
      have hy := ih y hk
      obtain ⟨i, hil, rfl⟩ := List.getElem_of_mem hy
      have hx' : up1 l (chain l s)[i] = some x := hx
      by_cases hlast : i + 1 < (chain l s).length
      · have h2 := hi (i + 1) hlast
        rw [upN_succ, hi i hil] at h2
        have h3 : up1 l (chain l s)[i] = some (chain l s)[i + 1] := h2
        rw [h3] at hx'
        have e := Option.some.inj hx'
        rw [← e]
        exact List.getElem_mem _
      · have e : i = (chain l s).length - 1 := by omega
        subst e
        have h2 := hi _ hil
        rw [hl] at h2
        have e := Option.some.inj h2
        rw [← e] at hx'
        unfold up1 at hx'
        rcases hstop with h | h
        · simp [h] at hx'
        · split at hx'
          · simp at hx'
          · rw [← Option.some.inj hx']; exact h

theorem subset_len : ∀ (a b : List Int), a.Nodup → (∀ x ∈ a, x ∈ b) → a.length ≤ b.length := by
  intro a
  induction a with
  | nil => intro b _ _; simp
  | cons x t ih =>
    intro b hd hs
    rw [List.nodup_cons] at hd
    have hx : x ∈ b := hs x (by simp)
    have h1 := ih (b.erase x) hd.2 (fun y hy => by
      have hne : y ≠ x := fun e => by subst e; exact hd.1 hy
      exact (List.mem_erase_of_ne hne).2 (hs y (by simp [hy])))
    rw [List.length_erase_of_mem hx] at h1
    have : 0 < b.length := List.length_pos_of_mem hx
    simp
    omega

/-- what is on the chain is reached within as many steps as there are places -/
theorem chain_short (l : List Pl) (s : Int) (hr : ∀ p ∈ l, 0 ≤ p.2.1 ∧ p.2.1 ≤ 16) (h0 : 0 ≤ s) (h1 : s ≤ 16) (x : Int) (hx : x ∈ chain l s) :
    ∃ j, upN l j s = some x ∧ j ≤ l.length ∧ (x ∈ l.map (·.1) → j + 1 ≤ l.length) := by
  obtain ⟨m, ⟨hok, hi, hl⟩, hstop⟩ := chain_inv l s hr h0 h1
  obtain ⟨j, hj, rfl⟩ := List.getElem_of_mem hx
  have hin : ∀ i, (h : i + 1 < (chain l s).length) → (chain l s)[i] ∈ l.map (·.1) := by
    intro i h
    have h2 := hi (i + 1) h
    rw [upN_succ, hi i (by omega)] at h2
    have h3 : up1 l (chain l s)[i] = some (chain l s)[i + 1] := h2
    unfold up1 at h3
    split at h3
    · simp at h3
    · rename_i h4
      have h5 := find_mem l _ h4
      exact List.mem_map.2 ⟨_, h5.1, h5.2⟩
  have hnd : ∀ k, ((chain l s).take k).Nodup := fun k => List.Nodup.sublist (List.take_sublist _ _) hok.1
  refine ⟨j, hi j hj, ?_, ?_⟩
  · have h2 := subset_len ((chain l s).take j) (l.map (·.1)) (hnd j) (fun y hy => by
      obtain ⟨i, hil, rfl⟩ := List.getElem_of_mem hy
      rw [List.getElem_take]
      simp at hil
      exact hin i (by omega))
    simp at h2
    omega
  · intro hxm
    have h2 := subset_len ((chain l s).take (j + 1)) (l.map (·.1)) (hnd (j + 1)) (fun y hy => by
      obtain ⟨i, hil, rfl⟩ := List.getElem_of_mem hy
      rw [List.getElem_take]
      simp at hil
      by_cases hij : i = j
      · subst hij; exact hxm
      · exact hin i (by omega))
    simp at h2
    omega

theorem scan_up {l : List Pl} (h : scan 0 l = 0) : ∀ p ∈ l, 0 ≤ p.2.1 ∧ p.2.1 ≤ 16 := fun p hp => by
  have := (inRangeB_iff p).1 (scan_range l 0 h p hp).1
  omega

theorem find_of_mem {l : List Pl} (hl : l.Pairwise fun p q => p.1 < q.1) : ∀ p ∈ l, find l p.1 = p := by
  induction l with
  | nil => intro p hp; simp at hp
  | cons q l ih =>
    intro p hp
    rw [List.pairwise_cons] at hl
    rw [find_cons]
    simp at hp
    rcases hp with rfl | hp
    · simp
    · have := hl.1 p hp
      rw [if_neg (by omega)]
      exact ih hl.2 p hp

theorem ring_eq (l : List Pl) (h : scan 0 l = 0) (p : Pl) (hp : p ∈ l) : ringAt l p = rRing l p := by
  have hr := scan_up h
  have hp1 := hr p hp
  have hf := find_of_mem (scan_sorted l 0 h) p hp
  have hne : p.1 ≠ 0 := by have := (scan_range l 0 h p hp).2; omega
  rw [Bool.eq_iff_iff]
  unfold ringAt rRing hasB
  rw [meetsN_iff, decide_eq_true_eq]
  constructor
  · rintro ⟨j, h1, h2, h3⟩
    obtain ⟨i, rfl⟩ : ∃ i, j = i + 1 := ⟨j - 1, by omega⟩
    rw [upN, hf, if_neg hne] at h3
    exact chain_all l _ hr hp1.1 hp1.2 i _ h3
  · intro hm
    obtain ⟨j, h1, _, h3⟩ := chain_short l _ hr hp1.1 hp1.2 _ hm
    refine ⟨j + 1, by omega, h3 (List.mem_map.2 ⟨p, hp, rfl⟩), ?_⟩
    rw [upN, hf, if_neg hne]
    exact h1

theorem check_eq (l : List Pl) : check l = checkR l := by
  unfold check checkR
  by_cases h : scan 0 l = 0
  · have e : l.any (ringAt l) = l.any (rRing l) := by
      rw [Bool.eq_iff_iff, List.any_eq_true, List.any_eq_true]
      constructor
      · rintro ⟨p, hp, hq⟩; exact ⟨p, hp, by rw [← ring_eq l h p hp]; exact hq⟩
      · rintro ⟨p, hp, hq⟩; exact ⟨p, hp, by rw [ring_eq l h p hp]; exact hq⟩
    rw [e]
  · simp [h]

theorem isNodeB_iff (n : Int) : isNodeB n = true ↔ 0 ≤ n ∧ n ≤ 16 := by simp [isNodeB]

theorem under_eq (l : List Pl) (n t : Int) (h : check l = 0) (h1 : isNodeB n = true) (h2 : isNodeB t = true) : underB l n t = hasB t (chain l n) := by
  rw [(underE_ok l n t h h1 h2).2]
  rw [isNodeB_iff] at h1
  have hr := scan_up (check_scan l h)
  rw [Bool.eq_iff_iff]
  unfold hasB
  rw [Bool.or_eq_true, meetsN_iff, decide_eq_true_eq, beq_iff_eq]
  constructor
  · rintro (rfl | ⟨j, _, _, h3⟩)
    · exact chain_all l n hr h1.1 h1.2 0 n rfl
    · exact chain_all l n hr h1.1 h1.2 j t h3
  · intro hm
    obtain ⟨j, h3, h4, _⟩ := chain_short l n hr h1.1 h1.2 t hm
    cases j with
    | zero => exact Or.inl (by simpa [upN] using h3)
    | succ j => exact Or.inr ⟨j + 1, by omega, h4, h3⟩
end Orangery

/- Plain facts: below is an order; all kids are all places. -/
namespace Orangery

theorem upN_add (l : List Pl) (i : Nat) : ∀ j n, upN l (i + j) n = (upN l i n).bind (upN l j) := by
  induction i with
  | zero => intro j n; simp [upN]
  | succ i ih =>
    intro j n
    rw [show i + 1 + j = (i + j) + 1 by omega, upN, upN]
    by_cases h : (find l n).1 = 0
    · simp [h]
    · rw [if_neg h, if_neg h, ih]

theorem under_iff (l : List Pl) (n t : Int) (h : check l = 0) (h1 : isNodeB n = true) (h2 : isNodeB t = true) : underB l n t = true ↔ ∃ j, upN l j n = some t := by
  rw [under_eq l n t h h1 h2]
  have hr := scan_up (check_scan l h)
  rw [isNodeB_iff] at h1
  unfold hasB
  rw [decide_eq_true_eq]
  constructor
  · intro hm
    obtain ⟨j, hj, _⟩ := chain_short l n hr h1.1 h1.2 t hm
    exact ⟨j, hj⟩
  · rintro ⟨j, hj⟩
    exact chain_all l n hr h1.1 h1.2 j t hj

theorem under_refl (l : List Pl) (n : Int) (h : check l = 0) (h1 : isNodeB n = true) : underB l n n = true :=
  (under_iff l n n h h1 h1).2 ⟨0, rfl⟩

theorem under_trans (l : List Pl) (a b c : Int) (h : check l = 0) (ha : isNodeB a = true) (hb : isNodeB b = true) (hc : isNodeB c = true)
    (h1 : underB l a b = true) (h2 : underB l b c = true) : underB l a c = true := by
  obtain ⟨i, hi⟩ := (under_iff l a b h ha hb).1 h1
  obtain ⟨j, hj⟩ := (under_iff l b c h hb hc).1 h2
  exact (under_iff l a c h ha hc).2 ⟨i + j, by rw [upN_add, hi]; exact hj⟩

theorem no_ring (l : List Pl) (h : check l = 0) (p : Pl) (hp : p ∈ l) : ringAt l p = false := by
  have hs := check_scan l h
  unfold check at h
  rw [if_neg (by simp [hs])] at h
  by_cases ha : l.any (ringAt l) = true
  · rw [if_pos ha] at h; omega
  · cases hr : ringAt l p
    · rfl
    · exact absurd (List.any_eq_true.2 ⟨p, hp, hr⟩) ha

/-- nobody comes back to where they were -/
theorem no_back (l : List Pl) (h : check l = 0) (a : Int) (j : Nat) (hj : upN l (j + 1) a = some a) : False := by
  have hs := check_scan l h
  have hr := scan_up hs
  rw [upN] at hj
  by_cases hz : (find l a).1 = 0
  · simp [hz] at hj
  · rw [if_neg hz] at hj
    obtain ⟨hm, he⟩ := find_mem l a hz
    have hp := hr _ hm
    have h1 := chain_all l _ hr hp.1 hp.2 j a hj
    have h2 := no_ring l h _ hm
    rw [ring_eq l hs _ hm] at h2
    unfold rRing hasB at h2
    rw [he] at h2
    simp at h2
    exact h2 h1

theorem under_antisymm (l : List Pl) (a b : Int) (h : check l = 0) (ha : isNodeB a = true) (hb : isNodeB b = true)
    (h1 : underB l a b = true) (h2 : underB l b a = true) : a = b := by
  obtain ⟨i, hi⟩ := (under_iff l a b h ha hb).1 h1
  obtain ⟨j, hj⟩ := (under_iff l b a h hb ha).1 h2
  cases i with
  | zero => simpa [upN] using hi
  | succ i =>
    exfalso
    have : upN l ((i + j) + 1) a = some a := by
      rw [show i + j + 1 = (i + 1) + j by omega, upN_add, hi]
      exact hj
    exact no_back l h a (i + j) this

theorem mem_node (l : List Pl) (h : check l = 0) (p : Pl) (hp : p ∈ l) : isNodeB p.1 = true ∧ isNodeB p.2.1 = true ∧ find l p.1 = p ∧ underB l p.1 p.2.1 = true := by
  have hs := check_scan l h
  have hi := (inRangeB_iff p).1 (scan_range l 0 hs p hp).1
  have h1 : isNodeB p.1 = true := (isNodeB_iff _).2 (by omega)
  have h2 : isNodeB p.2.1 = true := (isNodeB_iff _).2 (by omega)
  have hf := find_of_mem (scan_sorted l 0 hs) p hp
  refine ⟨h1, h2, hf, (under_iff l _ _ h h1 h2).2 ⟨1, ?_⟩⟩
  rw [upN, hf, if_neg (by omega), upN]

/-- how many places have a parent below k -/
def cnt (l : List Pl) (k : Nat) : Nat := (l.filter fun p => decide (p.2.1 < (k : Int))).length

theorem cnt_zero (l : List Pl) (h : check l = 0) : cnt l 0 = 0 := by
  unfold cnt
  rw [List.length_eq_zero_iff, List.filter_eq_nil_iff]
  intro p hp hq
  have := scan_up (check_scan l h) p hp
  simp at hq
  omega

theorem cnt_succ (l : List Pl) (k : Nat) : cnt l (k + 1) = cnt l k + (l.filter fun p => p.2.1 == (k : Int)).length := by
  unfold cnt
  have h := (filter_or (fun p => decide (p.2.1 < (k : Int))) (fun p => p.2.1 == (k : Int)) (by intro p hp; simp at hp ⊢; omega) l).length_eq
  rw [List.length_append] at h
  rw [h]
  congr 1
  apply List.filter_congr
  intro p _
  rw [Bool.eq_iff_iff]
  simp
  omega

theorem cnt_all (l : List Pl) (h : check l = 0) : cnt l 17 = l.length := by
  unfold cnt
  congr 1
  rw [List.filter_eq_self]
  intro p hp
  have := scan_up (check_scan l h) p hp
  simp
  omega

theorem cnt_le (l : List Pl) (k : Nat) : cnt l k ≤ l.length := List.length_filter_le _ _

/-- a number brought within bounds -/
def atI (k n : Int) : Int := k % n

theorem tmod_at (k n : Int) (hn : 0 < n) : (-n < k.tmod n ∧ k.tmod n < n) ∧ atI k n = if k.tmod n < 0 then k.tmod n + n else k.tmod n := by
  have h := Int.tmod_eq_emod (a := k) (b := n)
  have h1 := Int.emod_nonneg k (show n ≠ 0 by omega)
  have h2 := Int.emod_lt_of_pos k hn
  unfold atI
  split at h
  · simp at h
    rw [h]
    refine ⟨by omega, ?_⟩
    rw [if_neg (by omega)]
  · have e : ((n.natAbs : Nat) : Int) = n := by omega
    rw [e] at h
    have hne : k % n ≠ 0 := by
      intro hz
      rename_i hd
      exact hd (Or.inr (Int.dvd_of_emod_eq_zero hz))
    rw [h]
    refine ⟨by omega, ?_⟩
    rw [if_pos (by omega)]
    omega

theorem at17_node (k : Int) : isNodeB (atI k 17) = true := (isNodeB_iff _).2 (by unfold atI; omega)
end Orangery

/- Plain facts on moving one node: the place taken out, put in by its node, and what a check says of that. -/
namespace Orangery

/-- an operation: time, who, its place, life, number -/
abbrev Mv := Int × Int × Pl × Int × Int
/-- a step: operation, done or not, where the node was -/
abbrev Stp := Mv × Bool × Pl

def opOkB (o : Mv) : Bool := decide (1 ≤ o.1 ∧ o.1 ≤ 10000 ∧ 0 ≤ o.2.1 ∧ o.2.1 ≤ 2 ∧ 1 ≤ o.2.2.1.1 ∧ o.2.2.1.1 ≤ 15 ∧ 0 ≤ o.2.2.1.2.1 ∧ o.2.2.1.2.1 ≤ 16 ∧ 0 ≤ o.2.2.1.2.2 ∧ o.2.2.1.2.2 ≤ 99 ∧ 1 ≤ o.2.2.2.1 ∧ o.2.2.2.1 ≤ 50 ∧ 1 ≤ o.2.2.2.2 ∧ o.2.2.2.2 ≤ 30)
def checkOp (o : Mv) : Int := if opOkB o = true then 0 else 3

theorem checkOp_zero {o : Mv} (h : checkOp o = 0) : opOkB o = true := by
  unfold checkOp at h
  split at h
  · assumption
  · omega
theorem opOk_place {o : Mv} (h : opOkB o = true) : inRangeB o.2.2.1 = true ∧ isNodeB o.2.2.1.1 = true ∧ isNodeB o.2.2.1.2.1 = true := by
  simp only [opOkB, decide_eq_true_eq] at h
  exact ⟨by rw [inRangeB_iff]; omega, (isNodeB_iff _).2 (by omega), (isNodeB_iff _).2 (by omega)⟩

/-- the places without a node -/
def outL (l : List Pl) (n : Int) : List Pl := l.filter fun p => !(p.1 == n)
/-- the places with one of them put at p -/
def inL (l : List Pl) (p : Pl) : List Pl := (l.filter fun q => decide (q.1 < p.1)) ++ p :: (l.filter fun q => decide (p.1 < q.1))

abbrev byNode (l : List Pl) : Prop := l.Pairwise fun p q => p.1 < q.1

theorem find_out (l : List Pl) (n m : Int) : find (outL l n) m = if m = n then (0, 0, 0) else find l m := by
  induction l with
  | nil => simp [outL, find_nil]
  | cons q l ih =>
    unfold outL at ih ⊢
    rw [List.filter_cons]
    by_cases hq : q.1 = n
    · have e : (!(q.1 == n)) = false := by simp [hq]
      rw [e, find_cons]
      simp only [Bool.false_eq_true, if_false, ih]
      by_cases hm : m = n
      · simp [hm]
      · have : ¬ q.1 = m := by omega
        simp [hm, this]
    · have e : (!(q.1 == n)) = true := by simp [hq]
      rw [e, if_pos rfl, find_cons, find_cons, ih]
      by_cases hm : m = n
      · subst hm
        simp [hq]
      · simp [hm]

theorem find_append (l m : List Pl) (n : Int) (h : ∀ q ∈ l, q.1 ≠ n) : find (l ++ m) n = find m n := by
  induction l with
  | nil => rfl
  | cons q l ih =>
    rw [List.cons_append, find_cons, if_neg (h q (by simp)), ih (fun r hr => h r (by simp [hr]))]

theorem find_filter (f : Pl → Bool) (l : List Pl) (n : Int) (h : ∀ q ∈ l, q.1 = n → f q = true) : find (l.filter f) n = find l n := by
  induction l with
  | nil => rfl
  | cons q l ih =>
    have ih' := ih (fun r hr => h r (by simp [hr]))
    rw [List.filter_cons, find_cons]
    by_cases hq : q.1 = n
    · rw [h q (by simp) hq, if_pos rfl, find_cons]
      simp [hq]
    · cases hf : f q
      · simp [hq, ih']
      · simp only [if_true, find_cons, hq, if_false, ih']

theorem find_front (l m : List Pl) (n : Int) (h : ∀ q ∈ m, q.1 ≠ n) : find (l ++ m) n = find l n := by
  induction l with
  | nil =>
    have := find_append m [] n h
    rw [List.append_nil] at this
    rw [List.nil_append, this]
  | cons q l ih => rw [List.cons_append, find_cons, find_cons, ih]

theorem find_in (l : List Pl) (p : Pl) (m : Int) : find (inL l p) m = if m = p.1 then p else find l m := by
  unfold inL
  by_cases hm : m = p.1
  · subst hm
    rw [if_pos rfl, find_append _ _ _ (by intro q hq; simp at hq; omega), find_cons, if_pos rfl]
  · rw [if_neg hm]
    by_cases hlt : m < p.1
    · rw [find_front _ _ _ (by intro q hq; simp at hq; rcases hq with rfl | hq <;> omega)]
      exact find_filter _ l m (by intro q _ hq; simp; omega)
    · rw [find_append _ _ _ (by intro q hq; simp at hq; omega), find_cons, if_neg (by omega)]
      exact find_filter _ l m (by intro q _ hq; simp; omega)

theorem in_sorted (l : List Pl) (p : Pl) (h : byNode l) : byNode (inL l p) := by
  unfold inL byNode
  rw [List.pairwise_append]
  refine ⟨h.filter _, ?_, ?_⟩
  · rw [List.pairwise_cons]
    exact ⟨by intro q hq; simp at hq; omega, h.filter _⟩
  · intro q hq r hr
    simp at hq hr
    rcases hr with rfl | hr <;> omega

theorem in_mem (l : List Pl) (p q : Pl) : q ∈ inL l p ↔ q = p ∨ (q ∈ l ∧ q.1 ≠ p.1) := by
  unfold inL
  rw [List.mem_append, List.mem_cons, List.mem_filter, List.mem_filter]
  simp only [decide_eq_true_eq]
  constructor
  · rintro (⟨h1, h2⟩ | h | ⟨h1, h2⟩)
    · exact Or.inr ⟨h1, by omega⟩
    · exact Or.inl h
    · exact Or.inr ⟨h1, by omega⟩
  · rintro (h | ⟨h1, h2⟩)
    · exact Or.inr (Or.inl h)
    · rcases Int.lt_or_gt_of_ne h2 with h3 | h3
      · exact Or.inl ⟨h1, h3⟩
      · exact Or.inr (Or.inr ⟨h1, h3⟩)

theorem out_perm (l : List Pl) (p : Pl) : (outL l p.1 ++ [p]).Perm (inL l p) := by
  have h := filter_or (fun q => decide (q.1 < p.1)) (fun q => decide (p.1 < q.1)) (by intro q hq; simp at hq ⊢; omega) l
  have e : (l.filter fun q => decide (q.1 < p.1) || decide (p.1 < q.1)) = outL l p.1 := by
    unfold outL
    apply List.filter_congr
    intro q _
    rw [Bool.eq_iff_iff]
    simp
    omega
  rw [e] at h
  unfold inL
  refine (List.perm_append_comm.trans ?_)
  refine List.Perm.trans ?_ List.perm_middle.symm
  exact List.Perm.cons p h.symm

theorem sorted_unique (l m : List Pl) (hm : byNode m) (hp : l.Perm m) (hs : l.Pairwise fun p q => p.1 ≤ q.1) : l = m := by
  refine List.Perm.eq_of_pairwise (le := fun p q : Pl => p.1 ≤ q.1) ?_ hs (hm.imp (by intro p q h; omega)) hp
  intro p q h1 h2 h3 h4
  have m1 : p ∈ m := hp.mem_iff.1 h1
  have f1 := find_of_mem hm p m1
  have f2 := find_of_mem hm q h2
  have e : p.1 = q.1 := by omega
  rw [← f1, e, f2]

theorem in_unique (l l' : List Pl) (p : Pl) (h : byNode l) (hp : l'.Perm (outL l p.1 ++ [p])) (hs : l'.Pairwise fun p q => p.1 ≤ q.1) : l' = inL l p :=
  sorted_unique _ _ (in_sorted l p h) (hp.trans (out_perm l p)) hs

theorem scan_iff (l : List Pl) : ∀ a, scan a l = 0 ↔ (∀ p ∈ l, inRangeB p = true ∧ a < p.1) ∧ byNode l := by
  induction l with
  | nil => intro a; simp [scan, byNode]
  | cons q l ih =>
    intro a
    constructor
    · intro h
      exact ⟨scan_range _ a h, scan_sorted _ a h⟩
    · rintro ⟨h1, h2⟩
      replace h2 := List.pairwise_cons.1 h2
      have hq := h1 q (by simp)
      unfold scan
      rw [if_neg (by simp [hq.1]), if_neg (by omega)]
      exact (ih q.1).2 ⟨fun p hp => ⟨(h1 p (by simp [hp])).1, h2.1 p hp⟩, h2.2⟩

theorem scan0_iff (l : List Pl) : scan 0 l = 0 ↔ (∀ p ∈ l, inRangeB p = true) ∧ byNode l := by
  rw [scan_iff]
  constructor
  · rintro ⟨h1, h2⟩; exact ⟨fun p hp => (h1 p hp).1, h2⟩
  · rintro ⟨h1, h2⟩
    refine ⟨fun p hp => ⟨h1 p hp, ?_⟩, h2⟩
    have := (inRangeB_iff p).1 (h1 p hp)
    omega

theorem check_iff (l : List Pl) : check l = 0 ↔ (∀ p ∈ l, inRangeB p = true) ∧ byNode l ∧ ∀ a j, upN l (j + 1) a ≠ some a := by
  constructor
  · intro h
    have hs := (scan0_iff l).1 (check_scan l h)
    exact ⟨hs.1, hs.2, fun a j hj => no_back l h a j hj⟩
  · rintro ⟨h1, h2, h3⟩
    have hs := (scan0_iff l).2 ⟨h1, h2⟩
    refine check_of_none l hs ?_
    intro i hi
    cases hr : ringAt l l[i]
    · rfl
    · exfalso
      unfold ringAt at hr
      rw [meetsN_iff] at hr
      obtain ⟨j, hj, _, h⟩ := hr
      obtain ⟨k, rfl⟩ : ∃ k, j = k + 1 := ⟨j - 1, by omega⟩
      exact h3 _ _ h

theorem up_out (l : List Pl) (n : Int) (k : Nat) : ∀ a b, upN (outL l n) k a = some b → upN l k a = some b := by
  induction k with
  | zero => intro a b h; exact h
  | succ k ih =>
    intro a b h
    rw [upN] at h ⊢
    rw [find_out] at h
    by_cases ha : a = n
    · simp [ha] at h
    · rw [if_neg ha] at h
      split at h
      · simp at h
      · rename_i hz
        rw [if_neg hz]
        exact ih _ _ h

theorem check_out (l : List Pl) (n : Int) (h : check l = 0) : check (outL l n) = 0 := by
  rw [check_iff] at h ⊢
  obtain ⟨h1, h2, h3⟩ := h
  refine ⟨fun p hp => h1 p (List.mem_filter.1 hp).1, h2.filter _, fun a j hj => h3 a j (up_out l n _ _ _ hj)⟩

/-- a way up in the places with p: a way up without it, or by way of p -/
theorem up_in (l : List Pl) (p : Pl) (k : Nat) : ∀ a b, upN (inL l p) k a = some b → upN l k a = some b ∨ ∃ i, i < k ∧ upN (inL l p) i a = some p.1 := by
  induction k with
  | zero => intro a b h; exact Or.inl h
  | succ k ih =>
    intro a b h
    by_cases ha : a = p.1
    · exact Or.inr ⟨0, by omega, by rw [ha]; rfl⟩
    · rw [upN, find_in, if_neg ha] at h
      split at h
      · simp at h
      · rename_i hz
        rcases ih _ _ h with h1 | ⟨i, hi, h1⟩
        · exact Or.inl (by rw [upN, if_neg hz]; exact h1)
        · exact Or.inr ⟨i + 1, by omega, by rw [upN, find_in, if_neg ha, if_neg hz]; exact h1⟩

theorem up_back (l : List Pl) (p : Pl) (hp : p.1 ≠ 0) (hu : ∀ j, upN l j p.2.1 ≠ some p.1) : ∀ d j, j ≤ d → upN (inL l p) (j + 1) p.1 ≠ some p.1 := by
  have e : ∀ j, upN (inL l p) (j + 1) p.1 = upN (inL l p) j p.2.1 := by
    intro j
    rw [upN, find_in, if_pos rfl, if_neg hp]
  intro d
  induction d with
  | zero =>
    intro j hj h
    obtain rfl : j = 0 := by omega
    rw [e] at h
    exact hu 0 h
  | succ d ih =>
    intro j hj h
    rw [e] at h
    rcases up_in l p j _ _ h with h1 | ⟨i, hi, h1⟩
    · exact hu j h1
    · exact ih i (by omega) (by rw [e]; exact h1)

theorem check_in (l : List Pl) (p : Pl) (h : check l = 0) (hr : inRangeB p = true) (hu : underB l p.2.1 p.1 = false) : check (inL l p) = 0 := by
  have hp := (inRangeB_iff p).1 hr
  have hu' : ∀ j, upN l j p.2.1 ≠ some p.1 := by
    intro j hj
    have := (under_iff l p.2.1 p.1 h ((isNodeB_iff _).2 (by omega)) ((isNodeB_iff _).2 (by omega))).2 ⟨j, hj⟩
    rw [hu] at this
    simp at this
  have hb := up_back l p (by omega) hu'
  rw [check_iff] at h ⊢
  obtain ⟨h1, h2, h3⟩ := h
  refine ⟨?_, in_sorted l p h2, ?_⟩
  · intro q hq
    rw [in_mem] at hq
    rcases hq with rfl | hq
    · exact hr
    · exact h1 q hq.1
  · intro a j hj
    rcases up_in l p (j + 1) _ _ hj with h4 | ⟨i, hi, h4⟩
    · exact h3 a j h4
    · refine hb j j (Nat.le_refl _) ?_
      have h5 : upN (inL l p) (i + (j + 1 - i)) a = some a := by rw [show i + (j + 1 - i) = j + 1 by omega]; exact hj
      rw [upN_add, h4] at h5
      have h6 : upN (inL l p) (j + 1 - i) p.1 = some a := h5
      have h7 : upN (inL l p) ((j + 1 - i) + i) p.1 = some p.1 := by rw [upN_add, h6]; exact h4
      rw [show j + 1 - i + i = j + 1 by omega] at h7
      exact h7
end Orangery

