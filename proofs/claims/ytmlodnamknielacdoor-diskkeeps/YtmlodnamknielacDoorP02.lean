/- 6 texts of the proof: Plain facts: orangeryref.KidsOf lists what tree.Kids lists. Plain facts: who stands below whom, by steps and by chains. Plain facts: below is an order; all kids are all places. Plain facts on moving one node: the place taken out, put in by its node, and what a check says of that. Plain facts: moving a node and back; what the tables and lists of the document's own answer make. Plain facts: what an  -/
import Derived.Test.YtmlodnamknielacDoorP01
/- Plain facts: orangeryref.KidsOf lists what tree.Kids lists. -/
namespace Orangery

def kidAt (n nm : Int) (p : Pl) : Bool := p.2.1 == n && p.2.2 == nm

/-- orangeryref.KidsOf, of the names below k -/
def kidsR (l : List Pl) (n : Int) (k : Nat) : List Pl := (List.range k).flatMap fun (nm : Nat) => l.filter (kidAt n nm)

theorem kidsR_zero (l : List Pl) (n : Int) : kidsR l n 0 = [] := rfl
theorem kidsR_succ (l : List Pl) (n : Int) (k : Nat) : kidsR l n (k + 1) = kidsR l n k ++ l.filter (kidAt n k) := by
  simp [kidsR, List.range_succ]

theorem kidsR_len (l : List Pl) (n : Int) (k : Nat) : (kidsR l n k).length ≤ k * l.length := by
  induction k with
  | zero => simp [kidsR_zero]
  | succ k ih =>
    rw [kidsR_succ, List.length_append, Nat.succ_mul]
    have := List.length_filter_le (kidAt n k) l
    omega

theorem filter_or (f g : Pl → Bool) (hd : ∀ p, f p = true → g p = false) (l : List Pl) : (l.filter f ++ l.filter g).Perm (l.filter fun p => f p || g p) := by
  induction l with
  | nil => exact List.Perm.refl _
  | cons p l ih =>
    simp only [List.filter_cons]
    cases hf : f p
    · cases hg : g p
      · simpa using ih
      · simp only [Bool.or_true, if_true, Bool.false_eq_true, if_false]
        exact List.perm_middle.trans (List.Perm.cons _ ih)
    · have hg := hd p hf
      simp only [hg, Bool.or_false, if_true, Bool.false_eq_true, if_false, List.cons_append]
      exact List.Perm.cons _ ih

/-- the filter by a name below k: a permutation -/
theorem kidsR_perm (l : List Pl) (n : Int) (k : Nat) : (kidsR l n k).Perm (l.filter fun p => p.2.1 == n && decide (0 ≤ p.2.2 ∧ p.2.2 < k)) := by
  induction k with
  | zero =>
    rw [kidsR_zero]
    have : (l.filter fun p => p.2.1 == n && decide (0 ≤ p.2.2 ∧ p.2.2 < ((0 : Nat) : Int))) = [] := by
      rw [List.filter_eq_nil_iff]
      intro p _ h
      simp at h
      omega
    rw [this]
  | succ k ih =>
    rw [kidsR_succ]
    refine (ih.append_right _).trans ?_
    refine (filter_or _ _ ?_ l).trans ?_
    · intro p hp
      simp [kidAt] at hp ⊢
      omega
    · have e : (l.filter fun (p : Pl) => (p.2.1 == n && decide (0 ≤ p.2.2 ∧ p.2.2 < (k : Int))) || kidAt n (k : Int) p) = l.filter fun p => p.2.1 == n && decide (0 ≤ p.2.2 ∧ p.2.2 < ((k + 1 : Nat) : Int)) := by
        apply List.filter_congr
        intro p _
        rw [Bool.eq_iff_iff]
        simp [kidAt]
        omega
      rw [e]

theorem kidsR_sorted (l : List Pl) (n : Int) (hl : l.Pairwise fun p q => p.1 < q.1) (k : Nat) : (kidsR l n k).Pairwise leP ∧ ∀ p ∈ kidsR l n k, p.2.2 < k := by
  induction k with
  | zero => simp [kidsR_zero]
  | succ k ih =>
    rw [kidsR_succ]
    refine ⟨?_, ?_⟩
    · rw [List.pairwise_append]
      refine ⟨ih.1, ?_, ?_⟩
      · have h1 : (l.filter (kidAt n k)).Pairwise fun p q => p.1 < q.1 := hl.filter _
        refine List.Pairwise.imp_of_mem ?_ h1
        intro p q hp hq h
        simp [kidAt] at hp hq
        unfold leP
        omega
      · intro p hp q hq
        have h1 := ih.2 p hp
        simp [kidAt] at hq
        unfold leP
        omega
    · intro p hp
      rw [List.mem_append] at hp
      rcases hp with hp | hp
      · have := ih.2 p hp; omega
      · simp [kidAt] at hp; omega

theorem scan_sorted (l : List Pl) : ∀ a, scan a l = 0 → l.Pairwise fun p q => p.1 < q.1 := by
  induction l with
  | nil => intro a _; exact List.Pairwise.nil
  | cons p l ih =>
    intro a h
    unfold scan at h
    split at h
    · omega
    · split at h
      · omega
      · rw [List.pairwise_cons]
        exact ⟨fun q hq => (scan_range l p.1 h q hq).2, ih p.1 h⟩

theorem leP_antisymm {l : List Pl} (hl : l.Pairwise fun p q => p.1 < q.1) : ∀ p q, p ∈ l → q ∈ l → leP p q → leP q p → p = q := by
  intro p q hp hq h1 h2
  have e : p.1 = q.1 := by unfold leP at *; omega
  induction l with
  | nil => simp at hp
  | cons r l ih =>
    rw [List.pairwise_cons] at hl
    simp at hp hq
    rcases hp with rfl | hp <;> rcases hq with rfl | hq
    · rfl
    · have := hl.1 q hq; omega
    · have := hl.1 p hp; omega
    · exact ih hl.2 hp hq

/-- what is listed both ways is one -/
theorem kids_eq (l l' : List Pl) (n : Int) (hc : check l = 0) (hp : l'.Perm (l.filter fun p => p.2.1 == n)) (hs : l'.Pairwise leP) : l' = kidsR l n 100 := by
  have hsc := check_scan l hc
  have hso := scan_sorted l 0 hsc
  have e1 : (l.filter fun p => p.2.1 == n && decide (0 ≤ p.2.2 ∧ p.2.2 < ((100 : Nat) : Int))) = l.filter fun p => p.2.1 == n := by
    apply List.filter_congr
    intro p hp
    have := (inRangeB_iff p).1 (scan_range l 0 hsc p hp).1
    have h : 0 ≤ p.2.2 ∧ p.2.2 < ((100 : Nat) : Int) := by omega
    simp [h]
    omega
  have hR := kidsR_perm l n 100
  rw [e1] at hR
  refine List.Perm.eq_of_pairwise (le := leP) ?_ hs (kidsR_sorted l n hso 100).1 (hp.trans hR.symm)
  intro p q h1 h2 h3 h4
  have m1 : p ∈ l := (List.mem_filter.1 (hp.mem_iff.1 h1)).1
  have m2 : q ∈ l := (List.mem_filter.1 (hR.mem_iff.1 h2)).1
  exact leP_antisymm hso p q m1 m2 h3 h4
end Orangery

/- Plain facts: who stands below whom, by steps and by chains. -/
namespace Orangery

/-- so many steps up -/
def upN (l : List Pl) : Nat → Int → Option Int
  | 0, n => some n
  | k + 1, n => if (find l n).1 = 0 then none else upN l k (find l n).2.1

def up1 (l : List Pl) (n : Int) : Option Int := if (find l n).1 = 0 then none else some (find l n).2.1

theorem upN_succ (l : List Pl) (k : Nat) : ∀ n, upN l (k + 1) n = (upN l k n).bind (up1 l) := by
  induction k with
  | zero => intro n; simp [upN, up1]
  | succ k ih =>
    intro n
    rw [upN]
    by_cases h : (find l n).1 = 0
    · simp [h, upN]
    · rw [if_neg h, ih]
      simp [upN, h]

theorem meetsN_iff (l : List Pl) (t : Int) (k : Nat) : ∀ n, meetsN l (fun m => m == t) k n = true ↔ ∃ j, 1 ≤ j ∧ j ≤ k ∧ upN l j n = some t := by
  induction k with
  | zero =>
    intro n
    simp [meetsN]
    omega
  | succ k ih =>
    intro n
    unfold meetsN
    by_cases h : (find l n).1 = 0
    · simp only [h, if_true, Bool.false_eq_true, false_iff]
      rintro ⟨j, h1, h2, h3⟩
      obtain ⟨i, rfl⟩ : ∃ i, j = i + 1 := ⟨j - 1, by omega⟩
      simp [upN, h] at h3
    · by_cases h2 : (find l n).2.1 = t
      · simp only [h, if_false, h2, beq_self_eq_true, if_true, true_iff]
        exact ⟨1, by omega, by omega, by simp [upN, h, h2]⟩
      · have e : ((find l n).2.1 == t) = false := by simp [h2]
        simp only [h, if_false, e, Bool.false_eq_true]
        rw [ih]
        constructor
        · rintro ⟨j, h3, h4, h5⟩
          exact ⟨j + 1, by omega, by omega, by simp [upN, h, h5]⟩
        · rintro ⟨j, h3, h4, h5⟩
          obtain ⟨i, rfl⟩ : ∃ i, j = i + 1 := ⟨j - 1, by omega⟩
          simp [upN, h] at h5
          cases i with
          | zero => simp [upN] at h5; exact absurd h5 h2
          | succ i => exact ⟨i + 1, by omega, by omega, h5⟩

/-- a chain in the making -/
def ChainInv (l : List Pl) (s : Int) (out : List Int) (n : Int) : Prop :=
  outOk out ∧ (∀ i, (h : i < out.length) → upN l i s = some out[i]) ∧ upN l (out.length - 1) s = some n

theorem chain_go (l : List Pl) (s : Int) (hr : ∀ p ∈ l, 0 ≤ p.2.1 ∧ p.2.1 ≤ 16) : ∀ d out n, 18 - out.length = d → ChainInv l s out n →
    ∃ r m, chainN l (18 - out.length) out n = r ∧ ChainInv l s r m ∧ ((find l m).1 = 0 ∨ (find l m).2.1 ∈ r) := by
  intro d
  induction d with
  | zero =>
    intro out n hd hI
    have := outOk_len hI.1
    omega
  | succ d ih =>
    intro out n hd hI
    have hlen := outOk_len hI.1
    by_cases hs : (find l n).1 = 0 ∨ (find l n).2.1 ∈ out
    · exact ⟨out, n, chainN_stop l out n hI.1 hs, hI, hs⟩
    · have h1 : (find l n).1 ≠ 0 := fun h => hs (Or.inl h)
      have h2 : (find l n).2.1 ∉ out := fun h => hs (Or.inr h)
      obtain ⟨hok, he⟩ := chainN_go l out n hr hI.1 h1 h2
      have hpos := hI.1.2.2
      have hstep : upN l out.length s = some (find l n).2.1 := by
        have : out.length = (out.length - 1) + 1 := by omega
        rw [this, upN_succ, hI.2.2]
        simp [up1, h1]
      have hI' : ChainInv l s (out ++ [(find l n).2.1]) (find l n).2.1 := by
        refine ⟨hok, ?_, by simpa using hstep⟩
        intro i hi
        by_cases hlt : i < out.length
        · rw [List.getElem_append_left hlt]; exact hI.2.1 i hlt
        · have : i = out.length := by simp at hi; omega
          subst this
          simpa using hstep
      obtain ⟨r, m, e1, e2, e3⟩ := ih _ _ (by simp; omega) hI'
      exact ⟨r, m, by rw [he]; exact e1, e2, e3⟩

theorem chain_inv (l : List Pl) (s : Int) (hr : ∀ p ∈ l, 0 ≤ p.2.1 ∧ p.2.1 ≤ 16) (h0 : 0 ≤ s) (h1 : s ≤ 16) :
    ∃ m, ChainInv l s (chain l s) m ∧ ((find l m).1 = 0 ∨ (find l m).2.1 ∈ chain l s) := by
  obtain ⟨r, m, e1, e2, e3⟩ := chain_go l s hr _ [s] s rfl ⟨outOk_one h0 h1, by intro i hi; simp at hi; subst hi; rfl, rfl⟩
  have : chain l s = r := e1
  rw [this]
  exact ⟨m, e2, e3⟩

/-- all that is reached is on the chain -/
theorem chain_all (l : List Pl) (s : Int) (hr : ∀ p ∈ l, 0 ≤ p.2.1 ∧ p.2.1 ≤ 16) (h0 : 0 ≤ s) (h1 : s ≤ 16) (k : Nat) : ∀ x, upN l k s = some x → x ∈ chain l s := by
  obtain ⟨m, ⟨hok, hi, hl⟩, hstop⟩ := chain_inv l s hr h0 h1
  have hpos := hok.2.2
  induction k with
  | zero =>
    intro x hx
    have h := hi 0 (by omega)
    rw [h] at hx
    have e := Option.some.inj hx
    rw [← e]
    exact List.getElem_mem _
  | succ k ih =>
    intro x hx
    rw [upN_succ] at hx
    cases hk : upN l k s with
    | none => rw [hk] at hx; simp at hx
    | some y =>
      rw [hk] at hx
      have hy := ih y hk
      obtain ⟨i, hil, rfl⟩ := List.getElem_of_mem hy
      have hx' : up1 l (chain l s)[i] = some x := hx
      by_cases hlast : i + 1 < (chain l s).length
      · have h2 := hi (i + 1) hlast
        rw [upN_succ, hi i hil] at h2
        have h3 : up1 l (chain l s)[i] = some (chain l s)[i + 1] := h2
        rw [h3] at hx'
        have e := Option.some.inj hx'
        rw [← e]
        exact List.getElem_mem _
      · have e : i = (chain l s).length - 1 := by omega
        subst e
        have h2 := hi _ hil
        rw [hl] at h2
        have e := Option.some.inj h2
        rw [← e] at hx'
        unfold up1 at hx'
        rcases hstop with h | h
        · simp [h] at hx'
        · split at hx'
          · simp at hx'
          · rw [← Option.some.inj hx']; exact h

theorem subset_len : ∀ (a b : List Int), a.Nodup → (∀ x ∈ a, x ∈ b) → a.length ≤ b.length := by
  intro a
  induction a with
  | nil => intro b _ _; simp
  | cons x t ih =>
    intro b hd hs
    rw [List.nodup_cons] at hd
    have hx : x ∈ b := hs x (by simp)
    have h1 := ih (b.erase x) hd.2 (fun y hy => by
      have hne : y ≠ x := fun e => by subst e; exact hd.1 hy
      exact (List.mem_erase_of_ne hne).2 (hs y (by simp [hy])))
    rw [List.length_erase_of_mem hx] at h1
    have : 0 < b.length := List.length_pos_of_mem hx
    simp
    omega

/-- what is on the chain is reached within as many steps as there are places -/
theorem chain_short (l : List Pl) (s : Int) (hr : ∀ p ∈ l, 0 ≤ p.2.1 ∧ p.2.1 ≤ 16) (h0 : 0 ≤ s) (h1 : s ≤ 16) (x : Int) (hx : x ∈ chain l s) :
    ∃ j, upN l j s = some x ∧ j ≤ l.length ∧ (x ∈ l.map (·.1) → j + 1 ≤ l.length) := by
  obtain ⟨m, ⟨hok, hi, hl⟩, hstop⟩ := chain_inv l s hr h0 h1
  obtain ⟨j, hj, rfl⟩ := List.getElem_of_mem hx
  have hin : ∀ i, (h : i + 1 < (chain l s).length) → (chain l s)[i] ∈ l.map (·.1) := by
    intro i h
    have h2 := hi (i + 1) h
    rw [upN_succ, hi i (by omega)] at h2
    have h3 : up1 l (chain l s)[i] = some (chain l s)[i + 1] := h2
    unfold up1 at h3
    split at h3
    · simp at h3
    · rename_i h4
      have h5 := find_mem l _ h4
      exact List.mem_map.2 ⟨_, h5.1, h5.2⟩
  have hnd : ∀ k, ((chain l s).take k).Nodup := fun k => List.Nodup.sublist (List.take_sublist _ _) hok.1
  refine ⟨j, hi j hj, ?_, ?_⟩
  · have h2 := subset_len ((chain l s).take j) (l.map (·.1)) (hnd j) (fun y hy => by
      obtain ⟨i, hil, rfl⟩ := List.getElem_of_mem hy
      rw [List.getElem_take]
      simp at hil
      exact hin i (by omega))
    simp at h2
    omega
  · intro hxm
    have h2 := subset_len ((chain l s).take (j + 1)) (l.map (·.1)) (hnd (j + 1)) (fun y hy => by
      obtain ⟨i, hil, rfl⟩ := List.getElem_of_mem hy
      rw [List.getElem_take]
      simp at hil
      by_cases hij : i = j
      · subst hij; exact hxm
      · exact hin i (by omega))
    simp at h2
    omega

theorem scan_up {l : List Pl} (h : scan 0 l = 0) : ∀ p ∈ l, 0 ≤ p.2.1 ∧ p.2.1 ≤ 16 := fun p hp => by
  have := (inRangeB_iff p).1 (scan_range l 0 h p hp).1
  omega

theorem find_of_mem {l : List Pl} (hl : l.Pairwise fun p q => p.1 < q.1) : ∀ p ∈ l, find l p.1 = p := by
  induction l with
  | nil => intro p hp; simp at hp
  | cons q l ih =>
    intro p hp
    rw [List.pairwise_cons] at hl
    rw [find_cons]
    simp at hp
    rcases hp with rfl | hp
    · simp
    · have := hl.1 p hp
      rw [if_neg (by omega)]
      exact ih hl.2 p hp

theorem ring_eq (l : List Pl) (h : scan 0 l = 0) (p : Pl) (hp : p ∈ l) : ringAt l p = rRing l p := by
  have hr := scan_up h
  have hp1 := hr p hp
  have hf := find_of_mem (scan_sorted l 0 h) p hp
  have hne : p.1 ≠ 0 := by have := (scan_range l 0 h p hp).2; omega
  rw [Bool.eq_iff_iff]
  unfold ringAt rRing hasB
  rw [meetsN_iff, decide_eq_true_eq]
  constructor
  · rintro ⟨j, h1, h2, h3⟩
    obtain ⟨i, rfl⟩ : ∃ i, j = i + 1 := ⟨j - 1, by omega⟩
    rw [upN, hf, if_neg hne] at h3
    exact chain_all l _ hr hp1.1 hp1.2 i _ h3
  · intro hm
    obtain ⟨j, h1, _, h3⟩ := chain_short l _ hr hp1.1 hp1.2 _ hm
    refine ⟨j + 1, by omega, h3 (List.mem_map.2 ⟨p, hp, rfl⟩), ?_⟩
    rw [upN, hf, if_neg hne]
    exact h1

theorem check_eq (l : List Pl) : check l = checkR l := by
  unfold check checkR
  by_cases h : scan 0 l = 0
  · have e : l.any (ringAt l) = l.any (rRing l) := by
      rw [Bool.eq_iff_iff, List.any_eq_true, List.any_eq_true]
      constructor
      · rintro ⟨p, hp, hq⟩; exact ⟨p, hp, by rw [← ring_eq l h p hp]; exact hq⟩
      · rintro ⟨p, hp, hq⟩; exact ⟨p, hp, by rw [ring_eq l h p hp]; exact hq⟩
    rw [e]
  · simp [h]

theorem isNodeB_iff (n : Int) : isNodeB n = true ↔ 0 ≤ n ∧ n ≤ 16 := by simp [isNodeB]

theorem under_eq (l : List Pl) (n t : Int) (h : check l = 0) (h1 : isNodeB n = true) (h2 : isNodeB t = true) : underB l n t = hasB t (chain l n) := by
  rw [(underE_ok l n t h h1 h2).2]
  rw [isNodeB_iff] at h1
  have hr := scan_up (check_scan l h)
  rw [Bool.eq_iff_iff]
  unfold hasB
  rw [Bool.or_eq_true, meetsN_iff, decide_eq_true_eq, beq_iff_eq]
  constructor
  · rintro (rfl | ⟨j, _, _, h3⟩)
    · exact chain_all l n hr h1.1 h1.2 0 n rfl
    · exact chain_all l n hr h1.1 h1.2 j t h3
  · intro hm
    obtain ⟨j, h3, h4, _⟩ := chain_short l n hr h1.1 h1.2 t hm
    cases j with
    | zero => exact Or.inl (by simpa [upN] using h3)
    | succ j => exact Or.inr ⟨j + 1, by omega, h4, h3⟩
end Orangery

/- Plain facts: below is an order; all kids are all places. -/
namespace Orangery

theorem upN_add (l : List Pl) (i : Nat) : ∀ j n, upN l (i + j) n = (upN l i n).bind (upN l j) := by
  induction i with
  | zero => intro j n; simp [upN]
  | succ i ih =>
    intro j n
    rw [show i + 1 + j = (i + j) + 1 by omega, upN, upN]
    by_cases h : (find l n).1 = 0
    · simp [h]
    · rw [if_neg h, if_neg h, ih]

theorem under_iff (l : List Pl) (n t : Int) (h : check l = 0) (h1 : isNodeB n = true) (h2 : isNodeB t = true) : underB l n t = true ↔ ∃ j, upN l j n = some t := by
  rw [under_eq l n t h h1 h2]
  have hr := scan_up (check_scan l h)
  rw [isNodeB_iff] at h1
  unfold hasB
  rw [decide_eq_true_eq]
  constructor
  · intro hm
    obtain ⟨j, hj, _⟩ := chain_short l n hr h1.1 h1.2 t hm
    exact ⟨j, hj⟩
  · rintro ⟨j, hj⟩
    exact chain_all l n hr h1.1 h1.2 j t hj

theorem under_refl (l : List Pl) (n : Int) (h : check l = 0) (h1 : isNodeB n = true) : underB l n n = true :=
  (under_iff l n n h h1 h1).2 ⟨0, rfl⟩

theorem under_trans (l : List Pl) (a b c : Int) (h : check l = 0) (ha : isNodeB a = true) (hb : isNodeB b = true) (hc : isNodeB c = true)
    (h1 : underB l a b = true) (h2 : underB l b c = true) : underB l a c = true := by
  obtain ⟨i, hi⟩ := (under_iff l a b h ha hb).1 h1
  obtain ⟨j, hj⟩ := (under_iff l b c h hb hc).1 h2
  exact (under_iff l a c h ha hc).2 ⟨i + j, by rw [upN_add, hi]; exact hj⟩

theorem no_ring (l : List Pl) (h : check l = 0) (p : Pl) (hp : p ∈ l) : ringAt l p = false := by
  have hs := check_scan l h
  unfold check at h
  rw [if_neg (by simp [hs])] at h
  by_cases ha : l.any (ringAt l) = true
  · rw [if_pos ha] at h; omega
  · cases hr : ringAt l p
    · rfl
    · exact absurd (List.any_eq_true.2 ⟨p, hp, hr⟩) ha

/-- nobody comes back to where they were -/
theorem no_back (l : List Pl) (h : check l = 0) (a : Int) (j : Nat) (hj : upN l (j + 1) a = some a) : False := by
  have hs := check_scan l h
  have hr := scan_up hs
  rw [upN] at hj
  by_cases hz : (find l a).1 = 0
  · simp [hz] at hj
  · rw [if_neg hz] at hj
    obtain ⟨hm, he⟩ := find_mem l a hz
    have hp := hr _ hm
    have h1 := chain_all l _ hr hp.1 hp.2 j a hj
    have h2 := no_ring l h _ hm
    rw [ring_eq l hs _ hm] at h2
    unfold rRing hasB at h2
    rw [he] at h2
    simp at h2
    exact h2 h1

theorem under_antisymm (l : List Pl) (a b : Int) (h : check l = 0) (ha : isNodeB a = true) (hb : isNodeB b = true)
    (h1 : underB l a b = true) (h2 : underB l b a = true) : a = b := by
  obtain ⟨i, hi⟩ := (under_iff l a b h ha hb).1 h1
  obtain ⟨j, hj⟩ := (under_iff l b a h hb ha).1 h2
  cases i with
  | zero => simpa [upN] using hi
  | succ i =>
    exfalso
    have : upN l ((i + j) + 1) a = some a := by
      rw [show i + j + 1 = (i + 1) + j by omega, upN_add, hi]
      exact hj
    exact no_back l h a (i + j) this

theorem mem_node (l : List Pl) (h : check l = 0) (p : Pl) (hp : p ∈ l) : isNodeB p.1 = true ∧ isNodeB p.2.1 = true ∧ find l p.1 = p ∧ underB l p.1 p.2.1 = true := by
  have hs := check_scan l h
  have hi := (inRangeB_iff p).1 (scan_range l 0 hs p hp).1
  have h1 : isNodeB p.1 = true := (isNodeB_iff _).2 (by omega)
  have h2 : isNodeB p.2.1 = true := (isNodeB_iff _).2 (by omega)
  have hf := find_of_mem (scan_sorted l 0 hs) p hp
  refine ⟨h1, h2, hf, (under_iff l _ _ h h1 h2).2 ⟨1, ?_⟩⟩
  rw [upN, hf, if_neg (by omega), upN]

/-- how many places have a parent below k -/
def cnt (l : List Pl) (k : Nat) : Nat := (l.filter fun p => decide (p.2.1 < (k : Int))).length

theorem cnt_zero (l : List Pl) (h : check l = 0) : cnt l 0 = 0 := by
  unfold cnt
  rw [List.length_eq_zero_iff, List.filter_eq_nil_iff]
  intro p hp hq
  have := scan_up (check_scan l h) p hp
  simp at hq
  omega

theorem cnt_succ (l : List Pl) (k : Nat) : cnt l (k + 1) = cnt l k + (l.filter fun p => p.2.1 == (k : Int)).length := by
  unfold cnt
  have h := (filter_or (fun p => decide (p.2.1 < (k : Int))) (fun p => p.2.1 == (k : Int)) (by intro p hp; simp at hp ⊢; omega) l).length_eq
  rw [List.length_append] at h
  rw [h]
  congr 1
  apply List.filter_congr
  intro p _
  rw [Bool.eq_iff_iff]
  simp
  omega

theorem cnt_all (l : List Pl) (h : check l = 0) : cnt l 17 = l.length := by
  unfold cnt
  congr 1
  rw [List.filter_eq_self]
  intro p hp
  have := scan_up (check_scan l h) p hp
  simp
  omega

theorem cnt_le (l : List Pl) (k : Nat) : cnt l k ≤ l.length := List.length_filter_le _ _

/-- a number brought within bounds -/
def atI (k n : Int) : Int := k % n

theorem tmod_at (k n : Int) (hn : 0 < n) : (-n < k.tmod n ∧ k.tmod n < n) ∧ atI k n = if k.tmod n < 0 then k.tmod n + n else k.tmod n := by
  have h := Int.tmod_eq_emod (a := k) (b := n)
  have h1 := Int.emod_nonneg k (show n ≠ 0 by omega)
  have h2 := Int.emod_lt_of_pos k hn
  unfold atI
  split at h
  · simp at h
    rw [h]
    refine ⟨by omega, ?_⟩
    rw [if_neg (by omega)]
  · have e : ((n.natAbs : Nat) : Int) = n := by omega
    rw [e] at h
    have hne : k % n ≠ 0 := by
      intro hz
      rename_i hd
      exact hd (Or.inr (Int.dvd_of_emod_eq_zero hz))
    rw [h]
    refine ⟨by omega, ?_⟩
    rw [if_pos (by omega)]
    omega

theorem at17_node (k : Int) : isNodeB (atI k 17) = true := (isNodeB_iff _).2 (by unfold atI; omega)
end Orangery

/- Plain facts on moving one node: the place taken out, put in by its node, and what a check says of that. -/
namespace Orangery

/-- an operation: time, who, its place, life, number -/
abbrev Mv := Int × Int × Pl × Int × Int
/-- a step: operation, done or not, where the node was -/
abbrev Stp := Mv × Bool × Pl

def opOkB (o : Mv) : Bool := decide (1 ≤ o.1 ∧ o.1 ≤ 10000 ∧ 0 ≤ o.2.1 ∧ o.2.1 ≤ 2 ∧ 1 ≤ o.2.2.1.1 ∧ o.2.2.1.1 ≤ 15 ∧ 0 ≤ o.2.2.1.2.1 ∧ o.2.2.1.2.1 ≤ 16 ∧ 0 ≤ o.2.2.1.2.2 ∧ o.2.2.1.2.2 ≤ 99 ∧ 1 ≤ o.2.2.2.1 ∧ o.2.2.2.1 ≤ 50 ∧ 1 ≤ o.2.2.2.2 ∧ o.2.2.2.2 ≤ 30)
def checkOp (o : Mv) : Int := if opOkB o = true then 0 else 3

theorem checkOp_zero {o : Mv} (h : checkOp o = 0) : opOkB o = true := by
  unfold checkOp at h
  split at h
  · assumption
  · omega
theorem opOk_place {o : Mv} (h : opOkB o = true) : inRangeB o.2.2.1 = true ∧ isNodeB o.2.2.1.1 = true ∧ isNodeB o.2.2.1.2.1 = true := by
  simp only [opOkB, decide_eq_true_eq] at h
  exact ⟨by rw [inRangeB_iff]; omega, (isNodeB_iff _).2 (by omega), (isNodeB_iff _).2 (by omega)⟩

/-- the places without a node -/
def outL (l : List Pl) (n : Int) : List Pl := l.filter fun p => !(p.1 == n)
/-- the places with one of them put at p -/
def inL (l : List Pl) (p : Pl) : List Pl := (l.filter fun q => decide (q.1 < p.1)) ++ p :: (l.filter fun q => decide (p.1 < q.1))

abbrev byNode (l : List Pl) : Prop := l.Pairwise fun p q => p.1 < q.1

theorem find_out (l : List Pl) (n m : Int) : find (outL l n) m = if m = n then (0, 0, 0) else find l m := by
  induction l with
  | nil => simp [outL, find_nil]
  | cons q l ih =>
    unfold outL at ih ⊢
    rw [List.filter_cons]
    by_cases hq : q.1 = n
    · have e : (!(q.1 == n)) = false := by simp [hq]
      rw [e, find_cons]
      simp only [Bool.false_eq_true, if_false, ih]
      by_cases hm : m = n
      · simp [hm]
      · have : ¬ q.1 = m := by omega
        simp [hm, this]
    · have e : (!(q.1 == n)) = true := by simp [hq]
      rw [e, if_pos rfl, find_cons, find_cons, ih]
      by_cases hm : m = n
      · subst hm
        simp [hq]
      · simp [hm]

theorem find_append (l m : List Pl) (n : Int) (h : ∀ q ∈ l, q.1 ≠ n) : find (l ++ m) n = find m n := by
  induction l with
  | nil => rfl
  | cons q l ih =>
    rw [List.cons_append, find_cons, if_neg (h q (by simp)), ih (fun r hr => h r (by simp [hr]))]

theorem find_filter (f : Pl → Bool) (l : List Pl) (n : Int) (h : ∀ q ∈ l, q.1 = n → f q = true) : find (l.filter f) n = find l n := by
  induction l with
  | nil => rfl
  | cons q l ih =>
    have ih' := ih (fun r hr => h r (by simp [hr]))
    rw [List.filter_cons, find_cons]
    by_cases hq : q.1 = n
    · rw [h q (by simp) hq, if_pos rfl, find_cons]
      simp [hq]
    · cases hf : f q
      · simp [hq, ih']
      · simp only [if_true, find_cons, hq, if_false, ih']

theorem find_front (l m : List Pl) (n : Int) (h : ∀ q ∈ m, q.1 ≠ n) : find (l ++ m) n = find l n := by
  induction l with
  | nil =>
    have := find_append m [] n h
    rw [List.append_nil] at this
    rw [List.nil_append, this]
  | cons q l ih => rw [List.cons_append, find_cons, find_cons, ih]

theorem find_in (l : List Pl) (p : Pl) (m : Int) : find (inL l p) m = if m = p.1 then p else find l m := by
  unfold inL
  by_cases hm : m = p.1
  · subst hm
    rw [if_pos rfl, find_append _ _ _ (by intro q hq; simp at hq; omega), find_cons, if_pos rfl]
  · rw [if_neg hm]
    by_cases hlt : m < p.1
    · rw [find_front _ _ _ (by intro q hq; simp at hq; rcases hq with rfl | hq <;> omega)]
      exact find_filter _ l m (by intro q _ hq; simp; omega)
    · rw [find_append _ _ _ (by intro q hq; simp at hq; omega), find_cons, if_neg (by omega)]
      exact find_filter _ l m (by intro q _ hq; simp; omega)

theorem in_sorted (l : List Pl) (p : Pl) (h : byNode l) : byNode (inL l p) := by
  unfold inL byNode
  rw [List.pairwise_append]
  refine ⟨h.filter _, ?_, ?_⟩
  · rw [List.pairwise_cons]
    exact ⟨by intro q hq; simp at hq; omega, h.filter _⟩
  · intro q hq r hr
    simp at hq hr
    rcases hr with rfl | hr <;> omega

theorem in_mem (l : List Pl) (p q : Pl) : q ∈ inL l p ↔ q = p ∨ (q ∈ l ∧ q.1 ≠ p.1) := by
  unfold inL
  rw [List.mem_append, List.mem_cons, List.mem_filter, List.mem_filter]
  simp only [decide_eq_true_eq]
  constructor
  · rintro (⟨h1, h2⟩ | h | ⟨h1, h2⟩)
    · exact Or.inr ⟨h1, by omega⟩
    · exact Or.inl h
    · exact Or.inr ⟨h1, by omega⟩
  · rintro (h | ⟨h1, h2⟩)
    · exact Or.inr (Or.inl h)
    · rcases Int.lt_or_gt_of_ne h2 with h3 | h3
      · exact Or.inl ⟨h1, h3⟩
      · exact Or.inr (Or.inr ⟨h1, h3⟩)

theorem out_perm (l : List Pl) (p : Pl) : (outL l p.1 ++ [p]).Perm (inL l p) := by
  have h := filter_or (fun q => decide (q.1 < p.1)) (fun q => decide (p.1 < q.1)) (by intro q hq; simp at hq ⊢; omega) l
  have e : (l.filter fun q => decide (q.1 < p.1) || decide (p.1 < q.1)) = outL l p.1 := by
    unfold outL
    apply List.filter_congr
    intro q _
    rw [Bool.eq_iff_iff]
    simp
    omega
  rw [e] at h
  unfold inL
  refine (List.perm_append_comm.trans ?_)
  refine List.Perm.trans ?_ List.perm_middle.symm
  exact List.Perm.cons p h.symm

theorem sorted_unique (l m : List Pl) (hm : byNode m) (hp : l.Perm m) (hs : l.Pairwise fun p q => p.1 ≤ q.1) : l = m := by
  refine List.Perm.eq_of_pairwise (le := fun p q : Pl => p.1 ≤ q.1) ?_ hs (hm.imp (by intro p q h; omega)) hp
  intro p q h1 h2 h3 h4
  have m1 : p ∈ m := hp.mem_iff.1 h1
  have f1 := find_of_mem hm p m1
  have f2 := find_of_mem hm q h2
  have e : p.1 = q.1 := by omega
  rw [← f1, e, f2]

theorem in_unique (l l' : List Pl) (p : Pl) (h : byNode l) (hp : l'.Perm (outL l p.1 ++ [p])) (hs : l'.Pairwise fun p q => p.1 ≤ q.1) : l' = inL l p :=
  sorted_unique _ _ (in_sorted l p h) (hp.trans (out_perm l p)) hs

theorem scan_iff (l : List Pl) : ∀ a, scan a l = 0 ↔ (∀ p ∈ l, inRangeB p = true ∧ a < p.1) ∧ byNode l := by
  induction l with
  | nil => intro a; simp [scan, byNode]
  | cons q l ih =>
    intro a
    constructor
    · intro h
      exact ⟨scan_range _ a h, scan_sorted _ a h⟩
    · rintro ⟨h1, h2⟩
      replace h2 := List.pairwise_cons.1 h2
      have hq := h1 q (by simp)
      unfold scan
      rw [if_neg (by simp [hq.1]), if_neg (by omega)]
      exact (ih q.1).2 ⟨fun p hp => ⟨(h1 p (by simp [hp])).1, h2.1 p hp⟩, h2.2⟩

theorem scan0_iff (l : List Pl) : scan 0 l = 0 ↔ (∀ p ∈ l, inRangeB p = true) ∧ byNode l := by
  rw [scan_iff]
  constructor
  · rintro ⟨h1, h2⟩; exact ⟨fun p hp => (h1 p hp).1, h2⟩
  · rintro ⟨h1, h2⟩
    refine ⟨fun p hp => ⟨h1 p hp, ?_⟩, h2⟩
    have := (inRangeB_iff p).1 (h1 p hp)
    omega

theorem check_iff (l : List Pl) : check l = 0 ↔ (∀ p ∈ l, inRangeB p = true) ∧ byNode l ∧ ∀ a j, upN l (j + 1) a ≠ some a := by
  constructor
  · intro h
    have hs := (scan0_iff l).1 (check_scan l h)
    exact ⟨hs.1, hs.2, fun a j hj => no_back l h a j hj⟩
  · rintro ⟨h1, h2, h3⟩
    have hs := (scan0_iff l).2 ⟨h1, h2⟩
    refine check_of_none l hs ?_
    intro i hi
    cases hr : ringAt l l[i]
    · rfl
    · exfalso
      unfold ringAt at hr
      rw [meetsN_iff] at hr
      obtain ⟨j, hj, _, h⟩ := hr
      obtain ⟨k, rfl⟩ : ∃ k, j = k + 1 := ⟨j - 1, by omega⟩
      exact h3 _ _ h

theorem up_out (l : List Pl) (n : Int) (k : Nat) : ∀ a b, upN (outL l n) k a = some b → upN l k a = some b := by
  induction k with
  | zero => intro a b h; exact h
  | succ k ih =>
    intro a b h
    rw [upN] at h ⊢
    rw [find_out] at h
    by_cases ha : a = n
    · simp [ha] at h
    · rw [if_neg ha] at h
      split at h
      · simp at h
      · rename_i hz
        rw [if_neg hz]
        exact ih _ _ h

theorem check_out (l : List Pl) (n : Int) (h : check l = 0) : check (outL l n) = 0 := by
  rw [check_iff] at h ⊢
  obtain ⟨h1, h2, h3⟩ := h
  refine ⟨fun p hp => h1 p (List.mem_filter.1 hp).1, h2.filter _, fun a j hj => h3 a j (up_out l n _ _ _ hj)⟩

/-- a way up in the places with p: a way up without it, or by way of p -/
theorem up_in (l : List Pl) (p : Pl) (k : Nat) : ∀ a b, upN (inL l p) k a = some b → upN l k a = some b ∨ ∃ i, i < k ∧ upN (inL l p) i a = some p.1 := by
  induction k with
  | zero => intro a b h; exact Or.inl h
  | succ k ih =>
    intro a b h
    by_cases ha : a = p.1
    · exact Or.inr ⟨0, by omega, by rw [ha]; rfl⟩
    · rw [upN, find_in, if_neg ha] at h
      split at h
      · simp at h
      · rename_i hz
        rcases ih _ _ h with h1 | ⟨i, hi, h1⟩
        · exact Or.inl (by rw [upN, if_neg hz]; exact h1)
        · exact Or.inr ⟨i + 1, by omega, by rw [upN, find_in, if_neg ha, if_neg hz]; exact h1⟩

theorem up_back (l : List Pl) (p : Pl) (hp : p.1 ≠ 0) (hu : ∀ j, upN l j p.2.1 ≠ some p.1) : ∀ d j, j ≤ d → upN (inL l p) (j + 1) p.1 ≠ some p.1 := by
  have e : ∀ j, upN (inL l p) (j + 1) p.1 = upN (inL l p) j p.2.1 := by
    intro j
    rw [upN, find_in, if_pos rfl, if_neg hp]
  intro d
  induction d with
  | zero =>
    intro j hj h
    obtain rfl : j = 0 := by omega
    rw [e] at h
    exact hu 0 h
  | succ d ih =>
    intro j hj h
    rw [e] at h
    rcases up_in l p j _ _ h with h1 | ⟨i, hi, h1⟩
    · exact hu j h1
    · exact ih i (by omega) (by rw [e]; exact h1)

theorem check_in (l : List Pl) (p : Pl) (h : check l = 0) (hr : inRangeB p = true) (hu : underB l p.2.1 p.1 = false) : check (inL l p) = 0 := by
  have hp := (inRangeB_iff p).1 hr
  have hu' : ∀ j, upN l j p.2.1 ≠ some p.1 := by
    intro j hj
    have := (under_iff l p.2.1 p.1 h ((isNodeB_iff _).2 (by omega)) ((isNodeB_iff _).2 (by omega))).2 ⟨j, hj⟩
    rw [hu] at this
    simp at this
  have hb := up_back l p (by omega) hu'
  rw [check_iff] at h ⊢
  obtain ⟨h1, h2, h3⟩ := h
  refine ⟨?_, in_sorted l p h2, ?_⟩
  · intro q hq
    rw [in_mem] at hq
    rcases hq with rfl | hq
    · exact hr
    · exact h1 q hq.1
  · intro a j hj
    rcases up_in l p (j + 1) _ _ hj with h4 | ⟨i, hi, h4⟩
    · exact h3 a j h4
    · refine hb j j (Nat.le_refl _) ?_
      have h5 : upN (inL l p) (i + (j + 1 - i)) a = some a := by rw [show i + (j + 1 - i) = j + 1 by omega]; exact hj
      rw [upN_add, h4] at h5
      have h6 : upN (inL l p) (j + 1 - i) p.1 = some a := h5
      have h7 : upN (inL l p) ((j + 1 - i) + i) p.1 = some p.1 := by rw [upN_add, h6]; exact h4
      rw [show j + 1 - i + i = j + 1 by omega] at h7
      exact h7
end Orangery

/- Plain facts: moving a node and back; what the tables and lists of the document's own answer make. -/
namespace Orangery

theorem in_self (l : List Pl) (p : Pl) (h : byNode l) (hp : p ∈ l) : inL l p = l := by
  refine (in_unique l l p h ?_ (h.imp (by intro p q h; omega))).symm
  have h1 := out_perm l p
  have key : ∀ m : List Pl, byNode m → p ∈ m → (outL m p.1 ++ [p]).Perm m := by
    intro m
    induction m with
    | nil => intro _ hm; simp at hm
    | cons q m ih =>
      intro hs hm
      replace hs := List.pairwise_cons.1 hs
      by_cases hq : q = p
      · subst hq
        have e : outL (q :: m) q.1 = m := by
          unfold outL
          rw [List.filter_cons]
          simp only [beq_self_eq_true, Bool.not_true, Bool.false_eq_true, if_false]
          rw [List.filter_eq_self]
          intro r hr
          have := hs.1 r hr
          simp; omega
        rw [e]
        exact List.perm_append_comm
      · have hm' : p ∈ m := by simp at hm; rcases hm with rfl | hm; exact absurd rfl hq; exact hm
        have hlt := hs.1 p hm'
        have e : outL (q :: m) p.1 = q :: outL m p.1 := by
          unfold outL
          rw [List.filter_cons, if_pos (by simp; omega)]
        rw [e, List.cons_append]
        exact List.Perm.cons q (ih hs.2 hm')
  exact (key l h hp).symm

theorem out_self (l : List Pl) (n : Int) (h : ∀ p ∈ l, p.1 ≠ n) : outL l n = l := by
  unfold outL
  rw [List.filter_eq_self]
  intro p hp
  simp [h p hp]

theorem out_in (l : List Pl) (p : Pl) : outL (inL l p) p.1 = (l.filter fun q => decide (q.1 < p.1)) ++ (l.filter fun q => decide (p.1 < q.1)) := by
  unfold outL inL
  rw [List.filter_append, List.filter_cons]
  simp only [beq_self_eq_true, Bool.not_true, Bool.false_eq_true, if_false]
  congr 1
  · rw [List.filter_eq_self]; intro q hq; simp at hq; simp; omega
  · rw [List.filter_eq_self]; intro q hq; simp at hq; simp; omega

theorem out_split (l : List Pl) (n : Int) (h : byNode l) : outL l n = (l.filter fun q => decide (q.1 < n)) ++ (l.filter fun q => decide (n < q.1)) := by
  induction l with
  | nil => rfl
  | cons q l ih =>
    replace h := List.pairwise_cons.1 h
    have ih' := ih h.2
    unfold outL at ih' ⊢
    rw [List.filter_cons, List.filter_cons, List.filter_cons]
    rcases Int.lt_trichotomy q.1 n with hq | hq | hq
    · rw [if_pos (by simp; omega), if_pos (by simp; omega), if_neg (by simp; omega), List.cons_append, ih']
    · rw [if_neg (by simp [hq]), if_neg (by simp; omega), if_neg (by simp; omega), ih']
    · have e1 : (l.filter fun r => decide (r.1 < n)) = [] := by
        rw [List.filter_eq_nil_iff]; intro r hr; have := h.1 r hr; simp; omega
      rw [if_pos (by simp; omega), if_neg (by simp; omega), if_pos (by simp; omega), e1, ih', e1]
      rfl

theorem out_in_eq (l : List Pl) (p : Pl) (h : byNode l) : outL (inL l p) p.1 = outL l p.1 := by
  rw [out_in, out_split l _ h]

theorem in_in (l : List Pl) (p q : Pl) (h : byNode l) (e : q.1 = p.1) : inL (inL l p) q = inL l q := by
  refine sorted_unique _ _ (in_sorted l q h) ?_ ((in_sorted _ q (in_sorted l p h)).imp (by intro a b h; omega))
  refine (out_perm _ q).symm.trans ?_
  rw [e, out_in_eq l p h, ← e]
  exact out_perm l q

theorem find_zero (l : List Pl) (n : Int) (h : ∀ p ∈ l, p.1 ≠ n) : find l n = (0, 0, 0) := by
  have := find_append l [] n h
  rw [List.append_nil] at this
  rw [this, find_nil]

/-- where a node was, put back -/
theorem back_in (l : List Pl) (p : Pl) (h : check l = 0) (hz : (find l p.1).1 ≠ 0) : inL (inL l p) (find l p.1) = l := by
  have hb := ((check_iff l).1 h).2.1
  obtain ⟨h1, h2⟩ := find_mem l p.1 hz
  rw [in_in l p _ hb h2, in_self l _ hb h1]
theorem back_out (l : List Pl) (p : Pl) (h : check l = 0) (hz : (find l p.1).1 = 0) : outL (inL l p) p.1 = l := by
  have hc := (check_iff l).1 h
  rw [out_in_eq l p hc.2.1, out_self]
  intro q hq e
  have := find_of_mem hc.2.1 q hq
  rw [e] at this
  rw [this] at hz
  have := (inRangeB_iff q).1 (hc.1 q hq)
  omega

/-- a row of a table by node: the place, or one that says nowhere -/
def tabAt (l : List Pl) (n : Int) : Pl := if (find l n).1 = 0 then (0, -1, 0) else find l n
/-- the places of the rows 1 .. of a table -/
def rows (t : Nat → Pl) (k : Nat) : List Pl := (List.range k).flatMap fun n => if 0 < n ∧ 0 ≤ (t n).2.1 then [t n] else []

theorem rows_zero (t : Nat → Pl) : rows t 0 = [] := rfl
theorem rows_succ (t : Nat → Pl) (k : Nat) : rows t (k + 1) = rows t k ++ if 0 < k ∧ 0 ≤ (t k).2.1 then [t k] else [] := by
  simp [rows, List.range_succ]
theorem rows_len (t : Nat → Pl) (k : Nat) : (rows t k).length ≤ k := by
  induction k with
  | zero => simp [rows_zero]
  | succ k ih =>
    rw [rows_succ, List.length_append]
    split <;> simp <;> omega
theorem rows_congr (t u : Nat → Pl) (k : Nat) (h : ∀ n, n < k → t n = u n) : rows t k = rows u k := by
  induction k with
  | zero => rfl
  | succ k ih => rw [rows_succ, rows_succ, ih (fun n hn => h n (by omega)), h k (by omega)]

theorem rows_below (l : List Pl) (hs : scan 0 l = 0) (k : Nat) : rows (fun n => tabAt l n) k = l.filter fun p => decide (p.1 < (k : Int)) := by
  obtain ⟨h1, h2⟩ := (scan0_iff l).1 hs
  induction k with
  | zero =>
    rw [rows_zero]
    symm
    rw [List.filter_eq_nil_iff]
    intro p hp
    have := (inRangeB_iff p).1 (h1 p hp)
    simp
    omega
  | succ k ih =>
    rw [rows_succ, ih]
    have key : ∀ m : List Pl, (∀ p ∈ m, inRangeB p = true) → byNode m → (m.filter fun p => decide (p.1 < (k : Int))) ++ (if 0 < k ∧ 0 ≤ (tabAt m k).2.1 then [tabAt m k] else []) = m.filter fun p => decide (p.1 < ((k + 1 : Nat) : Int)) := by
      intro m
      induction m with
      | nil =>
        intro _ _
        rw [if_neg (by simp [tabAt, find_nil])]
        rfl
      | cons q m ih =>
        intro hr hb
        replace hb := List.pairwise_cons.1 hb
        have ih' := ih (fun p hp => hr p (by simp [hp])) hb.2
        have hq := (inRangeB_iff q).1 (hr q (by simp))
        rw [List.filter_cons, List.filter_cons]
        rcases Int.lt_trichotomy q.1 (k : Int) with hk | hk | hk
        · have hfc : find (q :: m) (k : Int) = find m (k : Int) := by rw [find_cons, if_neg (by omega)]
          have e : tabAt (q :: m) k = tabAt m k := by unfold tabAt; rw [hfc]
          have d1 : decide (q.1 < (k : Int)) = true := by simp; omega
          have d2 : decide (q.1 < ((k + 1 : Nat) : Int)) = true := by simp; omega
          rw [d1, d2, e, if_pos rfl, if_pos rfl, List.cons_append, ih']
        · have hfc : find (q :: m) (k : Int) = q := by rw [find_cons, if_pos hk]
          have e : tabAt (q :: m) k = q := by unfold tabAt; rw [hfc, if_neg (by omega)]
          have d1 : decide (q.1 < (k : Int)) = false := by simp; omega
          have d2 : decide (q.1 < ((k + 1 : Nat) : Int)) = true := by simp; omega
          have e1 : (m.filter fun r => decide (r.1 < (k : Int))) = [] := by
            rw [List.filter_eq_nil_iff]; intro r hr; have := hb.1 r hr; simp; omega
          have e2 : (m.filter fun r => decide (r.1 < ((k + 1 : Nat) : Int))) = [] := by
            rw [List.filter_eq_nil_iff]; intro r hr; have := hb.1 r hr; simp; omega
          rw [d1, d2, e, e1, e2, if_neg (by simp), if_pos (by omega), if_pos rfl]
          rfl
        · have hf : find (q :: m) (k : Int) = (0, 0, 0) := find_zero _ _ (by
            intro r hr
            simp at hr
            rcases hr with rfl | hr
            · omega
            · have := hb.1 r hr; omega)
          have e : tabAt (q :: m) k = (0, -1, 0) := by unfold tabAt; rw [hf]; rfl
          have e1 : (m.filter fun r => decide (r.1 < (k : Int))) = [] := by
            rw [List.filter_eq_nil_iff]; intro r hr; have := hb.1 r hr; simp; omega
          have e2 : (m.filter fun r => decide (r.1 < ((k + 1 : Nat) : Int))) = [] := by
            rw [List.filter_eq_nil_iff]; intro r hr; have := hb.1 r hr; simp; omega
          have d1 : decide (q.1 < (k : Int)) = false := by simp; omega
          have d2 : decide (q.1 < ((k + 1 : Nat) : Int)) = false := by simp; omega
          rw [d1, d2, e, e1, e2]
          simp
    exact key l h1 h2

theorem rows_all (l : List Pl) (hs : scan 0 l = 0) : rows (fun n => tabAt l n) 16 = l := by
  rw [rows_below l hs, List.filter_eq_self]
  intro p hp
  have := (inRangeB_iff p).1 ((scan0_iff l).1 hs |>.1 p hp)
  simp
  omega

theorem scan_in (l : List Pl) (p : Pl) (h : scan 0 l = 0) (hr : inRangeB p = true) : scan 0 (inL l p) = 0 := by
  obtain ⟨h1, h2⟩ := (scan0_iff l).1 h
  refine (scan0_iff _).2 ⟨?_, in_sorted l p h2⟩
  intro q hq
  rw [in_mem] at hq
  rcases hq with rfl | hq
  · exact hr
  · exact h1 q hq.1

/-- a table with one row set, read as places -/
theorem rows_set (l : List Pl) (p : Pl) (h : scan 0 l = 0) (hr : inRangeB p = true) : rows (fun n => if (n : Int) = p.1 then p else tabAt l n) 16 = inL l p := by
  have hp := (inRangeB_iff p).1 hr
  rw [← rows_all (inL l p) (scan_in l p h hr)]
  apply rows_congr
  intro n _
  unfold tabAt
  rw [find_in]
  by_cases hn : (n : Int) = p.1
  · rw [if_pos hn, if_pos hn, if_neg (by omega)]
  · rw [if_neg hn, if_neg hn]

/-- each place of a node put at another one, or left out -/
def swap (n : Int) (r : List Pl) (l : List Pl) : List Pl := l.flatMap fun p => if p.1 = n then r else [p]
theorem swap_nil (l : List Pl) (n : Int) : swap n [] l = outL l n := by
  induction l with
  | nil => rfl
  | cons q l ih =>
    unfold swap outL at *
    rw [List.flatMap_cons, ih, List.filter_cons]
    by_cases hq : q.1 = n <;> simp [hq]
theorem swap_one (l : List Pl) (n : Int) (p : Pl) (h : byNode l) (hz : (find l n).1 ≠ 0) (hp : p.1 = n) : swap n [p] l = inL l p := by
  subst hp
  have key : ∀ m : List Pl, byNode m → (∃ q ∈ m, q.1 = p.1) → swap p.1 [p] m = inL m p := by
    intro m
    induction m with
    | nil => rintro _ ⟨q, hq, _⟩; simp at hq
    | cons q m ih =>
      rintro hb ⟨r, hr, he⟩
      replace hb := List.pairwise_cons.1 hb
      unfold swap inL at *
      rw [List.flatMap_cons, List.filter_cons, List.filter_cons]
      by_cases hq : q.1 = p.1
      · have e0 : (m.flatMap fun r => if r.1 = p.1 then [p] else [r]) = m := by
          have : ∀ m : List Pl, (∀ r ∈ m, q.1 < r.1) → (m.flatMap fun r => if r.1 = p.1 then [p] else [r]) = m := by
            intro m
            induction m with
            | nil => intro _; rfl
            | cons s m ih =>
              intro h
              have := h s (by simp)
              rw [List.flatMap_cons, if_neg (by omega), ih (fun r hr => h r (by simp [hr]))]
              rfl
          exact this m hb.1
        have e1 : (m.filter fun r => decide (r.1 < p.1)) = [] := by
          rw [List.filter_eq_nil_iff]; intro r hr; have := hb.1 r hr; simp; omega
        have e2 : (m.filter fun r => decide (p.1 < r.1)) = m := by
          rw [List.filter_eq_self]; intro r hr; have := hb.1 r hr; simp; omega
        rw [if_pos hq, if_neg (by simp; omega), if_neg (by simp; omega), e0, e1, e2]
        rfl
      · have hr' : r ∈ m := by
          simp at hr
          rcases hr with rfl | hr
          · exact absurd he hq
          · exact hr
        have hlt := hb.1 r hr'
        rw [if_neg hq, if_pos (by simp; omega), if_neg (by simp; omega), ih hb.2 ⟨r, hr', he⟩]
        rfl
  obtain ⟨h1, h2⟩ := find_mem l p.1 hz
  exact key l h ⟨_, h1, h2⟩

/-- a loop that puts the place at most once does so -/
theorem swap_take (n : Int) (r : List Pl) (l : List Pl) (k : Nat) (h : k < l.length) : swap n r (l.take (k + 1)) = swap n r (l.take k) ++ if l[k].1 = n then r else [l[k]] := by
  unfold swap
  rw [List.take_succ_eq_append_getElem h, List.flatMap_append]
  simp
theorem swap_len (n : Int) (r : List Pl) (hr : r.length ≤ 1) (l : List Pl) : (swap n r l).length ≤ l.length := by
  induction l with
  | nil => simp [swap]
  | cons q l ih =>
    unfold swap at *
    rw [List.flatMap_cons, List.length_append, List.length_cons]
    split
    · omega
    · rw [List.length_singleton]; omega
theorem node_once (l : List Pl) (h : byNode l) (i k : Nat) (hi : i < l.length) (hk : k < l.length) (e : l[i].1 = l[k].1) : i = k := by
  have h' := List.pairwise_iff_getElem.1 h
  rcases Nat.lt_trichotomy i k with hl | hl | hl
  · have := h' i k hi hk hl; omega
  · exact hl
  · have := h' k i hk hi hl; omega

/-- move.Do -/
def doE (l : List Pl) (o : Mv) : Int := orI (check l) (checkOp o)
def ring (l : List Pl) (o : Mv) : Bool := underB l o.2.2.1.2.1 o.2.2.1.1
def doT (l : List Pl) (o : Mv) : List Pl := if doE l o ≠ 0 then [] else if ring l o = true then l else inL l o.2.2.1
def noOp : Mv := (0, 0, (0, 0, 0), 0, 0)
def noStep : Stp := (noOp, false, (0, 0, 0))
def doS (l : List Pl) (o : Mv) : Stp := if doE l o ≠ 0 then noStep else (o, !ring l o, find l o.2.2.1.1)

/-- move.Undo -/
def badB (l : List Pl) (s : Stp) : Bool := (s.2.2.1 != 0 && s.2.2.1 != s.1.2.2.1.1) || decide (find l s.1.2.2.1.1 ≠ s.1.2.2.1)
def goneB (s : Stp) : Bool := s.2.2.1 == 0 || decide (s.2.2.2.1 < 0)
def undoE (l : List Pl) (s : Stp) : Int :=
  if doE l s.1 ≠ 0 then doE l s.1 else if s.2.1 = false then 0 else if badB l s = true then 4 else if goneB s = true then 0 else check (inL l s.2.2)
def undoT (l : List Pl) (s : Stp) : List Pl :=
  if undoE l s ≠ 0 then [] else if s.2.1 = false then l else if goneB s = true then outL l s.1.2.2.1.1 else inL l s.2.2

theorem doE_zero {l : List Pl} {o : Mv} (h : doE l o = 0) : check l = 0 ∧ checkOp o = 0 := by
  unfold doE orI at h
  split at h
  · contradiction
  · rename_i h1
    exact ⟨by simpa using h1, h⟩

/-- what is done is undone -/
theorem undone (l : List Pl) (o : Mv) (h : doE l o = 0) : undoE (doT l o) (doS l o) = 0 ∧ undoT (doT l o) (doS l o) = l := by
  obtain ⟨h1, h2⟩ := doE_zero h
  have hok := checkOp_zero h2
  obtain ⟨hr, hn, hp⟩ := opOk_place hok
  have hrr := (inRangeB_iff _).1 hr
  have eS : doS l o = (o, !ring l o, find l o.2.2.1.1) := by unfold doS; rw [if_neg (by simp [h])]
  have eT : doT l o = if ring l o = true then l else inL l o.2.2.1 := by unfold doT; rw [if_neg (by simp [h])]
  rw [eS, eT]
  cases hring : ring l o
  · simp only [Bool.false_eq_true, if_false, Bool.not_false]
    have hc : check (inL l o.2.2.1) = 0 := check_in l _ h1 hr hring
    have hd : doE (inL l o.2.2.1) o = 0 := by unfold doE orI; rw [if_neg (by simp [hc]), h2]
    have hf : find (inL l o.2.2.1) o.2.2.1.1 = o.2.2.1 := by rw [find_in, if_pos rfl]
    by_cases hz : (find l o.2.2.1.1).1 = 0
    · have hb : badB (inL l o.2.2.1) (o, true, find l o.2.2.1.1) = false := by simp [badB, hz, hf]
      have hg : goneB (o, true, find l o.2.2.1.1) = true := by simp [goneB, hz]
      have e0 : undoE (inL l o.2.2.1) (o, true, find l o.2.2.1.1) = 0 := by simp [undoE, hd, hb, hg]
      refine ⟨e0, ?_⟩
      simp only [undoT, e0, hg]
      simp
      exact back_out l _ h1 hz
    · obtain ⟨hm, he⟩ := find_mem l _ hz
      have hi := (inRangeB_iff _).1 (((check_iff l).1 h1).1 _ hm)
      have hb : badB (inL l o.2.2.1) (o, true, find l o.2.2.1.1) = false := by simp [badB, he, hf]
      have hg : goneB (o, true, find l o.2.2.1.1) = false := by simp [goneB, hz]; omega
      have e1 := back_in l o.2.2.1 h1 hz
      have e0 : undoE (inL l o.2.2.1) (o, true, find l o.2.2.1.1) = 0 := by simp [undoE, hd, hb, hg, e1, h1]
      refine ⟨e0, ?_⟩
      simp only [undoT, e0, hg]
      simp
      exact e1
  · simp only [if_true, Bool.not_true]
    have e0 : undoE l (o, false, find l o.2.2.1.1) = 0 := by simp [undoE, h]
    exact ⟨e0, by simp [undoT, e0]⟩
end Orangery

/- Plain facts: what an operation leaves of a tree. -/
namespace Orangery

theorem doT_eq {l : List Pl} {o : Mv} (h : doE l o = 0) : doT l o = if ring l o = true then l else inL l o.2.2.1 := by
  unfold doT; rw [if_neg (by simp [h])]
theorem doS_eq {l : List Pl} {o : Mv} (h : doE l o = 0) : doS l o = (o, !ring l o, find l o.2.2.1.1) := by
  unfold doS; rw [if_neg (by simp [h])]

theorem doT_check {l : List Pl} {o : Mv} (h : doE l o = 0) : check (doT l o) = 0 := by
  obtain ⟨h1, h2⟩ := doE_zero h
  obtain ⟨hr, _, _⟩ := opOk_place (checkOp_zero h2)
  rw [doT_eq h]
  cases hring : ring l o
  · exact check_in l _ h1 hr hring
  · exact h1

theorem doT_find {l : List Pl} {o : Mv} (h : doE l o = 0) (n : Int) (hn : n ≠ o.2.2.1.1) : find (doT l o) n = find l n := by
  rw [doT_eq h]
  split
  · rfl
  · rw [find_in, if_neg hn]

theorem doT_moved {l : List Pl} {o : Mv} (h : doE l o = 0) (hr : ring l o = false) : find (doT l o) o.2.2.1.1 = o.2.2.1 := by
  rw [doT_eq h, hr]
  simp [find_in]
end Orangery

