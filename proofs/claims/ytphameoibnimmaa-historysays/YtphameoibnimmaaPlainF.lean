/- Plain facts: who stands below whom, by steps and by chains. -/
import Derived.Test.YtphameoibnimmaaPlainE
namespace Orangery

/-- so many steps up -/
def upN (l : List Pl) : Nat → Int → Option Int
  | 0, n => some n
  | k + 1, n => if (find l n).1 = 0 then none else upN l k (find l n).2.1

def up1 (l : List Pl) (n : Int) : Option Int := if (find l n).1 = 0 then none else some (find l n).2.1

theorem upN_succ (l : List Pl) (k : Nat) : ∀ n, upN l (k + 1) n = (upN l k n).bind (up1 l) := by
  induction k with
  | zero => intro n; simp [upN, up1]
  | succ k ih =>
    intro n
    rw [upN]
    by_cases h : (find l n).1 = 0
    · simp [h, upN]
    · rw [if_neg h, ih]
      simp [upN, h]

theorem meetsN_iff (l : List Pl) (t : Int) (k : Nat) : ∀ n, meetsN l (fun m => m == t) k n = true ↔ ∃ j, 1 ≤ j ∧ j ≤ k ∧ upN l j n = some t := by
  induction k with
  | zero =>
    intro n
    simp [meetsN]
    omega
  | succ k ih =>
    intro n
    unfold meetsN
    by_cases h : (find l n).1 = 0
    · simp only [h, if_true, Bool.false_eq_true, false_iff]
      rintro ⟨j, h1, h2, h3⟩
      obtain ⟨i, rfl⟩ : ∃ i, j = i + 1 := ⟨j - 1, by omega⟩
      simp [upN, h] at h3
    · by_cases h2 : (find l n).2.1 = t
      · simp only [h, if_false, h2, beq_self_eq_true, if_true, true_iff]
        exact ⟨1, by omega, by omega, by simp [upN, h, h2]⟩
      · have e : ((find l n).2.1 == t) = false := by simp [h2]
        simp only [h, if_false, e, Bool.false_eq_true]
        rw [ih]
        constructor
        · rintro ⟨j, h3, h4, h5⟩
          exact ⟨j + 1, by omega, by omega, by simp [upN, h, h5]⟩
        · rintro ⟨j, h3, h4, h5⟩
          obtain ⟨i, rfl⟩ : ∃ i, j = i + 1 := ⟨j - 1, by omega⟩
          simp [upN, h] at h5
          cases i with
          | zero => simp [upN] at h5; exact absurd h5 h2
          | succ i => exact ⟨i + 1, by omega, by omega, h5⟩

/-- a chain in the making -/
def ChainInv (l : List Pl) (s : Int) (out : List Int) (n : Int) : Prop :=
  outOk out ∧ (∀ i, (h : i < out.length) → upN l i s = some out[i]) ∧ upN l (out.length - 1) s = some n

theorem chain_go (l : List Pl) (s : Int) (hr : ∀ p ∈ l, 0 ≤ p.2.1 ∧ p.2.1 ≤ 16) : ∀ d out n, 18 - out.length = d → ChainInv l s out n →
    ∃ r m, chainN l (18 - out.length) out n = r ∧ ChainInv l s r m ∧ ((find l m).1 = 0 ∨ (find l m).2.1 ∈ r) := by
  intro d
  induction d with
  | zero =>
    intro out n hd hI
    have := outOk_len hI.1
    omega
  | succ d ih =>
    intro out n hd hI
    have hlen := outOk_len hI.1
    by_cases hs : (find l n).1 = 0 ∨ (find l n).2.1 ∈ out
    · exact ⟨out, n, chainN_stop l out n hI.1 hs, hI, hs⟩
    · have h1 : (find l n).1 ≠ 0 := fun h => hs (Or.inl h)
      have h2 : (find l n).2.1 ∉ out := fun h => hs (Or.inr h)
      obtain ⟨hok, he⟩ := chainN_go l out n hr hI.1 h1 h2
      have hpos := hI.1.2.2
      have hstep : upN l out.length s = some (find l n).2.1 := by
        have : out.length = (out.length - 1) + 1 := by omega
        rw [this, upN_succ, hI.2.2]
        simp [up1, h1]
      have hI' : ChainInv l s (out ++ [(find l n).2.1]) (find l n).2.1 := by
        refine ⟨hok, ?_, by simpa using hstep⟩
        intro i hi
        by_cases hlt : i < out.length
        · rw [List.getElem_append_left hlt]; exact hI.2.1 i hlt
        · have : i = out.length := by simp at hi; omega
          subst this
          simpa using hstep
      obtain ⟨r, m, e1, e2, e3⟩ := ih _ _ (by simp; omega) hI'
      exact ⟨r, m, by rw [he]; exact e1, e2, e3⟩

theorem chain_inv (l : List Pl) (s : Int) (hr : ∀ p ∈ l, 0 ≤ p.2.1 ∧ p.2.1 ≤ 16) (h0 : 0 ≤ s) (h1 : s ≤ 16) :
    ∃ m, ChainInv l s (chain l s) m ∧ ((find l m).1 = 0 ∨ (find l m).2.1 ∈ chain l s) := by
  obtain ⟨r, m, e1, e2, e3⟩ := chain_go l s hr _ [s] s rfl ⟨outOk_one h0 h1, by intro i hi; simp at hi; subst hi; rfl, rfl⟩
  have : chain l s = r := e1
  rw [this]
  exact ⟨m, e2, e3⟩

/-- all that is reached is on the chain -/
theorem chain_all (l : List Pl) (s : Int) (hr : ∀ p ∈ l, 0 ≤ p.2.1 ∧ p.2.1 ≤ 16) (h0 : 0 ≤ s) (h1 : s ≤ 16) (k : Nat) : ∀ x, upN l k s = some x → x ∈ chain l s := by
  obtain ⟨m, ⟨hok, hi, hl⟩, hstop⟩ := chain_inv l s hr h0 h1
  have hpos := hok.2.2
  induction k with
  | zero =>
    intro x hx
    have h := hi 0 (by omega)
    rw [h] at hx
    have e := Option.some.inj hx
    rw [← e]
    exact List.getElem_mem _
  | succ k ih =>
    intro x hx
    rw [upN_succ] at hx
    cases hk : upN l k s with
    | none => rw [hk] at hx; simp at hx
    | some y =>
      rw [hk] at hx
      have hy := ih y hk
      obtain ⟨i, hil, rfl⟩ := List.getElem_of_mem hy
      have hx' : up1 l (chain l s)[i] = some x := hx
      by_cases hlast : i + 1 < (chain l s).length
      · have h2 := hi (i + 1) hlast
        rw [upN_succ, hi i hil] at h2
        have h3 : up1 l (chain l s)[i] = some (chain l s)[i + 1] := h2
        rw [h3] at hx'
        have e := Option.some.inj hx'
        rw [← e]
        exact List.getElem_mem _
      · have e : i = (chain l s).length - 1 := by omega
        subst e
        have h2 := hi _ hil
        rw [hl] at h2
        have e := Option.some.inj h2
        rw [← e] at hx'
        unfold up1 at hx'
        rcases hstop with h | h
        · simp [h] at hx'
        · split at hx'
          · simp at hx'
          · rw [← Option.some.inj hx']; exact h

theorem subset_len : ∀ (a b : List Int), a.Nodup → (∀ x ∈ a, x ∈ b) → a.length ≤ b.length := by
  intro a
  induction a with
  | nil => intro b _ _; simp
  | cons x t ih =>
    intro b hd hs
    rw [List.nodup_cons] at hd
    have hx : x ∈ b := hs x (by simp)
    have h1 := ih (b.erase x) hd.2 (fun y hy => by
      have hne : y ≠ x := fun e => by subst e; exact hd.1 hy
      exact (List.mem_erase_of_ne hne).2 (hs y (by simp [hy])))
    rw [List.length_erase_of_mem hx] at h1
    have : 0 < b.length := List.length_pos_of_mem hx
    simp
    omega

/-- what is on the chain is reached within as many steps as there are places -/
theorem chain_short (l : List Pl) (s : Int) (hr : ∀ p ∈ l, 0 ≤ p.2.1 ∧ p.2.1 ≤ 16) (h0 : 0 ≤ s) (h1 : s ≤ 16) (x : Int) (hx : x ∈ chain l s) :
    ∃ j, upN l j s = some x ∧ j ≤ l.length ∧ (x ∈ l.map (·.1) → j + 1 ≤ l.length) := by
  obtain ⟨m, ⟨hok, hi, hl⟩, hstop⟩ := chain_inv l s hr h0 h1
  obtain ⟨j, hj, rfl⟩ := List.getElem_of_mem hx
  have hin : ∀ i, (h : i + 1 < (chain l s).length) → (chain l s)[i] ∈ l.map (·.1) := by
    intro i h
    have h2 := hi (i + 1) h
    rw [upN_succ, hi i (by omega)] at h2
    have h3 : up1 l (chain l s)[i] = some (chain l s)[i + 1] := h2
    unfold up1 at h3
    split at h3
    · simp at h3
    · rename_i h4
      have h5 := find_mem l _ h4
      exact List.mem_map.2 ⟨_, h5.1, h5.2⟩
  have hnd : ∀ k, ((chain l s).take k).Nodup := fun k => List.Nodup.sublist (List.take_sublist _ _) hok.1
  refine ⟨j, hi j hj, ?_, ?_⟩
  · have h2 := subset_len ((chain l s).take j) (l.map (·.1)) (hnd j) (fun y hy => by
      obtain ⟨i, hil, rfl⟩ := List.getElem_of_mem hy
      rw [List.getElem_take]
      simp at hil
      exact hin i (by omega))
    simp at h2
    omega
  · intro hxm
    have h2 := subset_len ((chain l s).take (j + 1)) (l.map (·.1)) (hnd (j + 1)) (fun y hy => by
      obtain ⟨i, hil, rfl⟩ := List.getElem_of_mem hy
      rw [List.getElem_take]
      simp at hil
      by_cases hij : i = j
      · subst hij; exact hxm
      · exact hin i (by omega))
    simp at h2
    omega

theorem scan_up {l : List Pl} (h : scan 0 l = 0) : ∀ p ∈ l, 0 ≤ p.2.1 ∧ p.2.1 ≤ 16 := fun p hp => by
  have := (inRangeB_iff p).1 (scan_range l 0 h p hp).1
  omega

theorem find_of_mem {l : List Pl} (hl : l.Pairwise fun p q => p.1 < q.1) : ∀ p ∈ l, find l p.1 = p := by
  induction l with
  | nil => intro p hp; simp at hp
  | cons q l ih =>
    intro p hp
    rw [List.pairwise_cons] at hl
    rw [find_cons]
    simp at hp
    rcases hp with rfl | hp
    · simp
    · have := hl.1 p hp
      rw [if_neg (by omega)]
      exact ih hl.2 p hp

theorem ring_eq (l : List Pl) (h : scan 0 l = 0) (p : Pl) (hp : p ∈ l) : ringAt l p = rRing l p := by
  have hr := scan_up h
  have hp1 := hr p hp
  have hf := find_of_mem (scan_sorted l 0 h) p hp
  have hne : p.1 ≠ 0 := by have := (scan_range l 0 h p hp).2; omega
  rw [Bool.eq_iff_iff]
  unfold ringAt rRing hasB
  rw [meetsN_iff, decide_eq_true_eq]
  constructor
  · rintro ⟨j, h1, h2, h3⟩
    obtain ⟨i, rfl⟩ : ∃ i, j = i + 1 := ⟨j - 1, by omega⟩
    rw [upN, hf, if_neg hne] at h3
    exact chain_all l _ hr hp1.1 hp1.2 i _ h3
  · intro hm
    obtain ⟨j, h1, _, h3⟩ := chain_short l _ hr hp1.1 hp1.2 _ hm
    refine ⟨j + 1, by omega, h3 (List.mem_map.2 ⟨p, hp, rfl⟩), ?_⟩
    rw [upN, hf, if_neg hne]
    exact h1

theorem check_eq (l : List Pl) : check l = checkR l := by
  unfold check checkR
  by_cases h : scan 0 l = 0
  · have e : l.any (ringAt l) = l.any (rRing l) := by
      rw [Bool.eq_iff_iff, List.any_eq_true, List.any_eq_true]
      constructor
      · rintro ⟨p, hp, hq⟩; exact ⟨p, hp, by rw [← ring_eq l h p hp]; exact hq⟩
      · rintro ⟨p, hp, hq⟩; exact ⟨p, hp, by rw [ring_eq l h p hp]; exact hq⟩
    rw [e]
  · simp [h]

theorem isNodeB_iff (n : Int) : isNodeB n = true ↔ 0 ≤ n ∧ n ≤ 16 := by simp [isNodeB]

theorem under_eq (l : List Pl) (n t : Int) (h : check l = 0) (h1 : isNodeB n = true) (h2 : isNodeB t = true) : underB l n t = hasB t (chain l n) := by
  rw [(underE_ok l n t h h1 h2).2]
  rw [isNodeB_iff] at h1
  have hr := scan_up (check_scan l h)
  rw [Bool.eq_iff_iff]
  unfold hasB
  rw [Bool.or_eq_true, meetsN_iff, decide_eq_true_eq, beq_iff_eq]
  constructor
  · rintro (rfl | ⟨j, _, _, h3⟩)
    · exact chain_all l n hr h1.1 h1.2 0 n rfl
    · exact chain_all l n hr h1.1 h1.2 j t h3
  · intro hm
    obtain ⟨j, h3, h4, _⟩ := chain_short l n hr h1.1 h1.2 t hm
    cases j with
    | zero => exact Or.inl (by simpa [upN] using h3)
    | succ j => exact Or.inr ⟨j + 1, by omega, h4, h3⟩
end Orangery
