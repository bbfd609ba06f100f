/- Plain facts: below is an order; all kids are all places. -/
import Derived.Test.YtphameoibnimmaaPlainF
namespace Orangery

theorem upN_add (l : List Pl) (i : Nat) : ∀ j n, upN l (i + j) n = (upN l i n).bind (upN l j) := by
  induction i with
  | zero => intro j n; simp [upN]
  | succ i ih =>
    intro j n
    rw [show i + 1 + j = (i + j) + 1 by omega, upN, upN]
    by_cases h : (find l n).1 = 0
    · simp [h]
    · rw [if_neg h, if_neg h, ih]

theorem under_iff (l : List Pl) (n t : Int) (h : check l = 0) (h1 : isNodeB n = true) (h2 : isNodeB t = true) : underB l n t = true ↔ ∃ j, upN l j n = some t := by
  rw [under_eq l n t h h1 h2]
  have hr := scan_up (check_scan l h)
  rw [isNodeB_iff] at h1
  unfold hasB
  rw [decide_eq_true_eq]
  constructor
  · intro hm
    obtain ⟨j, hj, _⟩ := chain_short l n hr h1.1 h1.2 t hm
    exact ⟨j, hj⟩
  · rintro ⟨j, hj⟩
    exact chain_all l n hr h1.1 h1.2 j t hj

theorem under_refl (l : List Pl) (n : Int) (h : check l = 0) (h1 : isNodeB n = true) : underB l n n = true :=
  (under_iff l n n h h1 h1).2 ⟨0, rfl⟩

theorem under_trans (l : List Pl) (a b c : Int) (h : check l = 0) (ha : isNodeB a = true) (hb : isNodeB b = true) (hc : isNodeB c = true)
    (h1 : underB l a b = true) (h2 : underB l b c = true) : underB l a c = true := by
  obtain ⟨i, hi⟩ := (under_iff l a b h ha hb).1 h1
  obtain ⟨j, hj⟩ := (under_iff l b c h hb hc).1 h2
  exact (under_iff l a c h ha hc).2 ⟨i + j, by rw [upN_add, hi]; exact hj⟩

theorem no_ring (l : List Pl) (h : check l = 0) (p : Pl) (hp : p ∈ l) : ringAt l p = false := by
  have hs := check_scan l h
  unfold check at h
  rw [if_neg (by simp [hs])] at h
  by_cases ha : l.any (ringAt l) = true
  · rw [if_pos ha] at h; omega
  · cases hr : ringAt l p
    · rfl
    · exact absurd (List.any_eq_true.2 ⟨p, hp, hr⟩) ha

/-- nobody comes back to where they were -/
theorem no_back (l : List Pl) (h : check l = 0) (a : Int) (j : Nat) (hj : upN l (j + 1) a = some a) : False := by
  have hs := check_scan l h
  have hr := scan_up hs
  rw [upN] at hj
  by_cases hz : (find l a).1 = 0
  · simp [hz] at hj
  · rw [if_neg hz] at hj
    obtain ⟨hm, he⟩ := find_mem l a hz
    have hp := hr _ hm
    have h1 := chain_all l _ hr hp.1 hp.2 j a hj
    have h2 := no_ring l h _ hm
    rw [ring_eq l hs _ hm] at h2
    unfold rRing hasB at h2
    rw [he] at h2
    simp at h2
    exact h2 h1

theorem under_antisymm (l : List Pl) (a b : Int) (h : check l = 0) (ha : isNodeB a = true) (hb : isNodeB b = true)
    (h1 : underB l a b = true) (h2 : underB l b a = true) : a = b := by
  obtain ⟨i, hi⟩ := (under_iff l a b h ha hb).1 h1
  obtain ⟨j, hj⟩ := (under_iff l b a h hb ha).1 h2
  cases i with
  | zero => simpa [upN] using hi
  | succ i =>
    exfalso
    have : upN l ((i + j) + 1) a = some a := by
      rw [show i + j + 1 = (i + 1) + j by omega, upN_add, hi]
      exact hj
    exact no_back l h a (i + j) this

theorem mem_node (l : List Pl) (h : check l = 0) (p : Pl) (hp : p ∈ l) : isNodeB p.1 = true ∧ isNodeB p.2.1 = true ∧ find l p.1 = p ∧ underB l p.1 p.2.1 = true := by
  have hs := check_scan l h
  have hi := (inRangeB_iff p).1 (scan_range l 0 hs p hp).1
  have h1 : isNodeB p.1 = true := (isNodeB_iff _).2 (by omega)
  have h2 : isNodeB p.2.1 = true := (isNodeB_iff _).2 (by omega)
  have hf := find_of_mem (scan_sorted l 0 hs) p hp
  refine ⟨h1, h2, hf, (under_iff l _ _ h h1 h2).2 ⟨1, ?_⟩⟩
  rw [upN, hf, if_neg (by omega), upN]

/-- how many places have a parent below k -/
def cnt (l : List Pl) (k : Nat) : Nat := (l.filter fun p => decide (p.2.1 < (k : Int))).length

theorem cnt_zero (l : List Pl) (h : check l = 0) : cnt l 0 = 0 := by
  unfold cnt
  rw [List.length_eq_zero_iff, List.filter_eq_nil_iff]
  intro p hp hq
  have := scan_up (check_scan l h) p hp
  simp at hq
  omega

theorem cnt_succ (l : List Pl) (k : Nat) : cnt l (k + 1) = cnt l k + (l.filter fun p => p.2.1 == (k : Int)).length := by
  unfold cnt
  have h := (filter_or (fun p => decide (p.2.1 < (k : Int))) (fun p => p.2.1 == (k : Int)) (by intro p hp; simp at hp ⊢; omega) l).length_eq
  rw [List.length_append] at h
  rw [h]
  congr 1
  apply List.filter_congr
  intro p _
  rw [Bool.eq_iff_iff]
  simp
  omega

theorem cnt_all (l : List Pl) (h : check l = 0) : cnt l 17 = l.length := by
  unfold cnt
  congr 1
  rw [List.filter_eq_self]
  intro p hp
  have := scan_up (check_scan l h) p hp
  simp
  omega

theorem cnt_le (l : List Pl) (k : Nat) : cnt l k ≤ l.length := List.length_filter_le _ _

/-- a number brought within bounds -/
def atI (k n : Int) : Int := k % n

theorem tmod_at (k n : Int) (hn : 0 < n) : (-n < k.tmod n ∧ k.tmod n < n) ∧ atI k n = if k.tmod n < 0 then k.tmod n + n else k.tmod n := by
  have h := Int.tmod_eq_emod (a := k) (b := n)
  have h1 := Int.emod_nonneg k (show n ≠ 0 by omega)
  have h2 := Int.emod_lt_of_pos k hn
  unfold atI
  split at h
  · simp at h
    rw [h]
    refine ⟨by omega, ?_⟩
    rw [if_neg (by omega)]
  · have e : ((n.natAbs : Nat) : Int) = n := by omega
    rw [e] at h
    have hne : k % n ≠ 0 := by
      intro hz
      rename_i hd
      exact hd (Or.inr (Int.dvd_of_emod_eq_zero hz))
    rw [h]
    refine ⟨by omega, ?_⟩
    rw [if_pos (by omega)]
    omega

theorem at17_node (k : Int) : isNodeB (atI k 17) = true := (isNodeB_iff _).2 (by unfold atI; omega)
end Orangery
