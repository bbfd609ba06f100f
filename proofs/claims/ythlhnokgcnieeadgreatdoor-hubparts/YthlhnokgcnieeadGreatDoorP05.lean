/- 7 texts of the proof: Plain facts on deltas: what goes, what is here, and that it makes the other one. Plain facts on a view's two parts put together. tree.Under. view.Roots, view.under; slices.IndexFunc, slices.ContainsFunc at ints; the closures of view.split. orangeryref.CheckRoots. Plain facts on texts: words with blanks between them, decimal numbers written and read. Plain facts on records: checked, printed, read. -/
import Derived.Lib.ItoaNum
import Derived.Lib.ParseIntB
import Derived.Lib.Join
import Derived.Lib.IndexMore
import Derived.Lib.ItoaLen
import Derived.Test.YthlhnokgcnieeadGreatDoorP04
import Derived.Test.YthlhnokgcnieeadGreatDoorP02
import Derived.Test.YthlhnokgcnieeadGreatDoorP03
/- Plain facts on deltas: what goes, what is here, and that it makes the other one. -/
namespace Orangery

/-- two trees in which all are found alike are one -/
theorem ext_find (l m : List Pl) (hl : scan 0 l = 0) (hm : scan 0 m = 0) (h : ∀ n, find l n = find m n) : l = m := by
  rw [← rows_all l hl, ← rows_all m hm]
  apply rows_congr
  intro n _
  unfold tabAt
  rw [h]

def goneL (a b : List Pl) : List Int := (a.filter fun p => decide ((find b p.1).1 = 0)).map (·.1)
def hereL (a b : List Pl) : List Pl := b.filter fun p => decide (find a p.1 ≠ p)
/-- some go, some stand so -/
def appL (l : List Pl) (gone : List Int) (here : List Pl) : List Pl := here.foldl inL (l.filter fun p => !hasB p.1 gone)

theorem find_ins (here : List Pl) (hb : byNode here) (hz : ∀ p ∈ here, p.1 ≠ 0) : ∀ l n, find (here.foldl inL l) n = if (find here n).1 = 0 then find l n else find here n := by
  induction here with
  | nil => intro l n; simp [find_nil]
  | cons q m ih =>
    intro l n
    replace hb := List.pairwise_cons.1 hb
    rw [List.foldl_cons, ih hb.2 (fun p hp => hz p (by simp [hp])), find_cons, find_in]
    by_cases hq : q.1 = n
    · subst hq
      have hf : find m q.1 = (0, 0, 0) := find_zero m q.1 (fun p hp e => by have := hb.1 p hp; omega)
      have := hz q (by simp)
      simp [hf, this]
    · have e1 : (if n = q.1 then q else find l n) = find l n := if_neg (fun e => hq e.symm)
      have e2 : (if q.1 = n then q else find m n) = find m n := if_neg hq
      rw [e1, e2]

theorem find_app (l : List Pl) (gone : List Int) (here : List Pl) (hb : byNode here) (hz : ∀ p ∈ here, p.1 ≠ 0) (n : Int) :
    find (appL l gone here) n = if (find here n).1 = 0 then (if hasB n gone = true then (0, 0, 0) else find l n) else find here n := by
  unfold appL
  rw [find_ins here hb hz]
  have h := find_g (fun m => !hasB m gone) l n
  rw [h]
  cases hasB n gone <;> simp

theorem scan_filter (l : List Pl) (f : Pl → Bool) (h : scan 0 l = 0) : scan 0 (l.filter f) = 0 := by
  obtain ⟨h1, h2⟩ := (scan0_iff l).1 h
  exact (scan0_iff _).2 ⟨fun p hp => h1 p (List.mem_filter.1 hp).1, h2.filter _⟩

theorem scan_ins (here : List Pl) (hr : ∀ p ∈ here, inRangeB p = true) : ∀ l, scan 0 l = 0 → scan 0 (here.foldl inL l) = 0 := by
  induction here with
  | nil => intro l h; exact h
  | cons q m ih => intro l h; exact ih (fun p hp => hr p (by simp [hp])) _ (scan_in l q h (hr q (by simp)))

theorem scan_app (l : List Pl) (gone : List Int) (here : List Pl) (hl : scan 0 l = 0) (hh : scan 0 here = 0) : scan 0 (appL l gone here) = 0 :=
  scan_ins here ((scan0_iff here).1 hh).1 _ (scan_filter l _ hl)

theorem find_here (a b : List Pl) (hb : scan 0 b = 0) (n : Int) : find (hereL a b) n = if find a n = find b n then (0, 0, 0) else find b n := by
  obtain ⟨h1, h2⟩ := (scan0_iff b).1 hb
  by_cases hz : (find b n).1 = 0
  · have hno : ∀ p ∈ b, p.1 ≠ n := by
      intro p hp e
      have := find_of_mem h2 p hp
      rw [e] at this
      rw [this] at hz
      have := (inRangeB_iff p).1 (h1 p hp)
      omega
    have e1 : find b n = (0, 0, 0) := find_zero b n hno
    have e2 : find (hereL a b) n = (0, 0, 0) := find_zero _ n (fun p hp => hno p (List.mem_filter.1 hp).1)
    rw [e1, e2]
    simp
  · obtain ⟨hm, hn⟩ := find_mem b n hz
    by_cases he : find a n = find b n
    · rw [if_pos he]
      refine find_zero _ n ?_
      intro p hp e
      obtain ⟨hp1, hp2⟩ := List.mem_filter.1 hp
      have h3 := find_of_mem h2 p hp1
      rw [e] at h3
      simp only [decide_eq_true_eq] at hp2
      rw [e, he, h3] at hp2
      exact hp2 rfl
    · rw [if_neg he]
      refine find_filter _ b n ?_
      intro p hp e
      have h3 := find_of_mem h2 p hp
      rw [e] at h3
      simp only [decide_eq_true_eq]
      rw [e, ← h3]
      exact he

theorem gone_iff (a b : List Pl) (ha : scan 0 a = 0) (n : Int) : hasB n (goneL a b) = true ↔ (find a n).1 ≠ 0 ∧ (find b n).1 = 0 := by
  obtain ⟨h1, h2⟩ := (scan0_iff a).1 ha
  unfold hasB goneL
  rw [decide_eq_true_eq, List.mem_map]
  constructor
  · rintro ⟨p, hp, rfl⟩
    obtain ⟨hp1, hp2⟩ := List.mem_filter.1 hp
    refine ⟨?_, by simpa using hp2⟩
    rw [find_of_mem h2 p hp1]
    have := (inRangeB_iff p).1 (h1 p hp1)
    omega
  · rintro ⟨h3, h4⟩
    obtain ⟨hm, hn⟩ := find_mem a n h3
    exact ⟨find a n, List.mem_filter.2 ⟨hm, by rw [hn]; simpa using h4⟩, hn⟩

theorem find_none (l : List Pl) (h : scan 0 l = 0) (n : Int) (hz : (find l n).1 = 0) : find l n = (0, 0, 0) := by
  obtain ⟨h1, h2⟩ := (scan0_iff l).1 h
  refine find_zero l n ?_
  intro p hp e
  have := find_of_mem h2 p hp
  rw [e] at this
  rw [this] at hz
  have := (inRangeB_iff p).1 (h1 p hp)
  omega

/-- what changes, applied, makes the other one -/
theorem delta_makes (a b : List Pl) (ha : scan 0 a = 0) (hb : scan 0 b = 0) : appL a (goneL a b) (hereL a b) = b := by
  obtain ⟨h1, h2⟩ := (scan0_iff b).1 hb
  have hh : scan 0 (hereL a b) = 0 := scan_filter b _ hb
  obtain ⟨h3, h4⟩ := (scan0_iff _).1 hh
  refine ext_find _ _ (scan_app a _ _ ha hh) hb ?_
  intro n
  rw [find_app a _ _ h4 (fun p hp => by have := (inRangeB_iff p).1 (h3 p hp); omega), find_here a b hb]
  by_cases he : find a n = find b n
  · rw [if_pos he]
    simp only [if_true]
    rw [if_neg, he]
    rw [gone_iff a b ha, he]
    exact fun h => h.1 h.2
  · rw [if_neg he]
    by_cases hz : (find b n).1 = 0
    · have e0 := find_none b hb n hz
      rw [if_pos hz, if_pos, e0]
      rw [gone_iff a b ha]
      refine ⟨fun h => he ?_, hz⟩
      rw [find_none a ha n h, e0]
    · rw [if_neg hz]

/-- of like ones there is none -/
theorem delta_none (a : List Pl) (ha : scan 0 a = 0) : goneL a a = [] ∧ hereL a a = [] := by
  obtain ⟨h1, h2⟩ := (scan0_iff a).1 ha
  constructor
  · unfold goneL
    rw [List.map_eq_nil_iff, List.filter_eq_nil_iff]
    intro p hp h
    rw [find_of_mem h2 p hp] at h
    have := (inRangeB_iff p).1 (h1 p hp)
    simp at h
    omega
  · unfold hereL
    rw [List.filter_eq_nil_iff]
    intro p hp h
    rw [find_of_mem h2 p hp] at h
    simp at h
end Orangery

/- Plain facts on a view's two parts put together. -/
namespace Orangery

/-- both together: of a node that is in both the place in the way counts -/
def togL (K W : List Pl) : List Pl := W.foldl inL K
/-- is a node in these places? -/
def inPl (W : List Pl) (n : Int) : Bool := decide ((find W n).1 = n)

def ofE (l : List Pl) (R : List Int) : Int := orI (check l) (rootsOk R)
def ofR (l : List Pl) (R : List Int) : List Int := if ofE l R ≠ 0 then [] else R
def ofK (l : List Pl) (R : List Int) : List Pl := if ofE l R ≠ 0 then [] else viewK l R
def ofW (l : List Pl) (R : List Int) : List Pl := if ofE l R ≠ 0 then [] else viewW l R
def sameV (R R' : List Int) (K K' W W' : List Pl) : Bool := decide (R = R') && decide (K = K') && decide (W = W')
def viewE (R : List Int) (K W : List Pl) : Int :=
  if rootsOk R ≠ 0 then rootsOk R else if check K ≠ 0 then check K else if check W ≠ 0 then check W
  else if check (togL K W) ≠ 0 then check (togL K W) else if sameV R R K (viewK (togL K W) R) W (viewW (togL K W) R) = true then 0 else 4

theorem ofE_zero {l : List Pl} {R : List Int} (h : ofE l R = 0) : check l = 0 ∧ rootsOk R = 0 := by
  unfold ofE orI at h
  split at h
  · rename_i h1; exact absurd h h1
  · rename_i h1
    simp at h1
    exact ⟨h1, h⟩
theorem of_ok {l : List Pl} {R : List Int} (h : ofE l R = 0) : ofR l R = R ∧ ofK l R = viewK l R ∧ ofW l R = viewW l R := by
  unfold ofR ofK ofW
  rw [if_neg (by simp [h]), if_neg (by simp [h]), if_neg (by simp [h])]
  exact ⟨rfl, rfl, rfl⟩
theorem of_bad {l : List Pl} {R : List Int} (h : ofE l R ≠ 0) : ofR l R = [] ∧ ofK l R = [] ∧ ofW l R = [] := by
  unfold ofR ofK ofW
  rw [if_pos h, if_pos h, if_pos h]
  exact ⟨rfl, rfl, rfl⟩

theorem scan_tog {K W : List Pl} (hK : scan 0 K = 0) (hW : scan 0 W = 0) : scan 0 (togL K W) = 0 :=
  scan_ins W (fun p hp => (scan_range W 0 hW p hp).1) K hK
theorem find_tog {K W : List Pl} (hW : scan 0 W = 0) (n : Int) : find (togL K W) n = if (find W n).1 = 0 then find K n else find W n :=
  find_ins W (scan_sorted W 0 hW) (fun p hp => by have := (scan_range W 0 hW p hp).2; omega) K n

theorem inPl_iff {W : List Pl} (n : Int) (hn : n ≠ 0) : inPl W n = true ↔ (find W n).1 ≠ 0 := by
  unfold inPl
  rw [decide_eq_true_iff]
  constructor
  · intro h; rw [h]; exact hn
  · intro h; exact (find_mem W n h).2

theorem node_pos {W : List Pl} (hW : scan 0 W = 0) (p : Pl) (hp : p ∈ W) : p.1 ≠ 0 := by have := (scan_range W 0 hW p hp).2; omega

/-- the program's way: take out of the one what is in the other, put the other behind it, sort -/
theorem tog_unique (K W l' : List Pl) (hK : scan 0 K = 0) (hW : scan 0 W = 0)
    (hp : l'.Perm ((K.filter fun p => !inPl W p.1) ++ W)) (hs : l'.Pairwise fun p q => p.1 ≤ q.1) : l' = togL K W := by
  have hKs := scan_sorted K 0 hK
  have hWs := scan_sorted W 0 hW
  have hmem : ∀ p, p ∈ l' ↔ (p ∈ K ∧ (find W p.1).1 = 0) ∨ p ∈ W := by
    intro p
    rw [hp.mem_iff, List.mem_append, List.mem_filter]
    constructor
    · rintro (⟨h1, h2⟩ | h)
      · left
        refine ⟨h1, ?_⟩
        have hn := node_pos hK p h1
        have : ¬ inPl W p.1 = true := by simpa using h2
        rw [inPl_iff _ hn] at this
        simpa using this
      · exact Or.inr h
    · rintro (⟨h1, h2⟩ | h)
      · left
        refine ⟨h1, ?_⟩
        have hn := node_pos hK p h1
        have : ¬ inPl W p.1 = true := by rw [inPl_iff _ hn]; simpa using h2
        simpa using this
      · exact Or.inr h
  have hnd : (((K.filter fun p => !inPl W p.1) ++ W).map (·.1)).Nodup := by
    rw [List.map_append, List.nodup_append]
    refine ⟨?_, ?_, ?_⟩
    · rw [List.Nodup, List.pairwise_map]
      exact (hKs.filter _).imp (fun h => by omega)
    · rw [List.Nodup, List.pairwise_map]
      exact hWs.imp (fun h => by omega)
    · intro x hx y hy
      simp only [List.mem_map, List.mem_filter] at hx hy
      obtain ⟨p, ⟨h1, h2⟩, rfl⟩ := hx
      obtain ⟨q, h3, rfl⟩ := hy
      intro e
      have hn := node_pos hK p h1
      have : ¬ inPl W p.1 = true := by simpa using h2
      apply this
      rw [inPl_iff _ hn, e, find_of_mem hWs q h3, ← e]
      exact hn
  have hnd' : (l'.map (·.1)).Nodup := ((hp.map (·.1)).nodup_iff).2 hnd
  rw [List.Nodup, List.pairwise_map] at hnd'
  have hb : l'.Pairwise fun p q => p.1 < q.1 := (List.Pairwise.and hs hnd').imp (fun h => by omega)
  have hr : ∀ p ∈ l', inRangeB p = true := by
    intro p h
    rcases (hmem p).1 h with h | h
    · exact (scan_range K 0 hK p h.1).1
    · exact (scan_range W 0 hW p h).1
  refine ext_find _ _ ((scan0_iff l').2 ⟨hr, hb⟩) (scan_tog hK hW) ?_
  intro n
  rw [find_tog hW]
  by_cases h1 : (find W n).1 = 0
  · rw [if_pos h1]
    by_cases h2 : (find K n).1 = 0
    · rw [find_none K hK n h2]
      apply find_zero
      intro p h e
      rcases (hmem p).1 h with h | h
      · rw [← e, find_of_mem hKs p h.1] at h2
        exact node_pos hK p h.1 h2
      · rw [← e, find_of_mem hWs p h] at h1
        exact node_pos hW p h h1
    · obtain ⟨h3, h4⟩ := find_mem K n h2
      have h5 : find K n ∈ l' := (hmem _).2 (Or.inl ⟨h3, by rw [h4]; exact h1⟩)
      have := find_of_mem hb _ h5
      rw [h4] at this
      exact this
  · rw [if_neg h1]
    obtain ⟨h3, h4⟩ := find_mem W n h1
    have h5 : find W n ∈ l' := (hmem _).2 (Or.inr h3)
    have := find_of_mem hb _ h5
    rw [h4] at this
    exact this

/-- the reference's way: a table -/
theorem tog_rows (K W : List Pl) (hK : scan 0 K = 0) (hW : scan 0 W = 0) : rows (fun n => tabLast (K ++ W) n) 16 = togL K W := by
  have h := rows_all (togL K W) (scan_tog hK hW)
  rw [← h]
  apply rows_congr
  intro n _
  obtain ⟨h1, h2⟩ := (scan0_iff W).1 hW
  rw [tabLast_append, tabLast_eq K hK, foldl_at W n h2 (fun p hp => node_pos hW p hp)]
  unfold tabAt
  rw [find_tog hW]
  by_cases h3 : (find W (n : Int)).1 = 0
  · rw [if_pos h3, if_pos h3]
  · rw [if_neg h3, if_neg h3, if_neg h3]

/-- a view is one: what its parts make together -/
theorem tog_view (l : List Pl) (R : List Int) (h : check l = 0) : togL (viewK l R) (viewW l R) = viewA l R := by
  have hs := check_scan l h
  have hK : scan 0 (viewK l R) = 0 := scan_filter l _ hs
  have hW : scan 0 (viewW l R) = 0 := scan_filter l _ hs
  have hA : scan 0 (viewA l R) = 0 := scan_filter l _ hs
  refine ext_find _ _ (scan_tog hK hW) hA ?_
  intro n
  rw [find_tog hW]
  have e1 : find (viewK l R) n = if knB l R n = true then find l n else (0, 0, 0) := find_g (knB l R) l n
  have e2 : find (viewW l R) n = if wyB l R n = true then find l n else (0, 0, 0) := find_g (wyB l R) l n
  have e3 : find (viewA l R) n = if seenB l R n = true then find l n else (0, 0, 0) := find_g (seenB l R) l n
  rw [e1, e2, e3]
  unfold seenB
  cases hk : knB l R n
  · cases hw : wyB l R n
    · simp
    · simp
      intro hz
      rw [find_none l hs n hz]
  · rw [view_apart l R n hk]
    simp

theorem view_ok (l : List Pl) (R : List Int) (h : ofE l R = 0) : viewE R (viewK l R) (viewW l R) = 0 := by
  obtain ⟨h1, h2⟩ := ofE_zero h
  obtain ⟨g1, g2, g3⟩ := view_again l R h1 (rootsOk_node h2)
  unfold viewE
  rw [tog_view l R h1, if_neg (by simp [h2]), if_neg (by simp; exact check_g _ l h1), if_neg (by simp; exact check_g _ l h1), if_neg (by simp [g1]), g2, g3]
  simp [sameV]

/-- the one ahead of the k-th -/
def prevI (l : List Int) : Nat → Int
  | 0 => -1
  | k + 1 => (l[k]?).getD 0
theorem prevI_succ (l : List Int) (k : Nat) (h : k < l.length) : prevI l (k + 1) = l[k] := by simp [prevI, h]

def idxI (f : Int → Bool) : Nat → List Int → Int
  | _, [] => -1
  | k, n :: l => if f n = true then k else idxI f (k + 1) l
theorem idxI_step (f : Int → Bool) (l : List Int) (k : Nat) (h : k < l.length) (hs : idxI f k (l.drop k) = idxI f 0 l) :
    (f l[k] = true → idxI f 0 l = k) ∧ (f l[k] = false → idxI f (k + 1) (l.drop (k + 1)) = idxI f 0 l) := by
  rw [List.drop_eq_getElem_cons h] at hs
  have e : idxI f k (l[k] :: l.drop (k + 1)) = if f l[k] = true then (k : Int) else idxI f (k + 1) (l.drop (k + 1)) := rfl
  rw [e] at hs
  refine ⟨fun h1 => ?_, fun h1 => ?_⟩
  · rw [if_pos h1] at hs; exact hs.symm
  · rw [if_neg (by simp [h1])] at hs; exact hs
theorem idxI_any (f : Int → Bool) (l : List Int) : ∀ k : Nat, (idxI f k l = -1 ∧ l.any f = false) ∨ ((k : Int) ≤ idxI f k l ∧ l.any f = true) := by
  induction l with
  | nil => intro k; exact Or.inl ⟨rfl, rfl⟩
  | cons n l ih =>
    intro k
    have e : idxI f k (n :: l) = if f n = true then (k : Int) else idxI f (k + 1) l := rfl
    rw [e, List.any_cons]
    by_cases h : f n = true
    · rw [if_pos h]; exact Or.inr ⟨Int.le_refl _, by simp [h]⟩
    · rw [if_neg h]
      have hf : f n = false := by simpa using h
      rcases ih (k + 1) with ⟨h1, h2⟩ | ⟨h1, h2⟩
      · exact Or.inl ⟨h1, by simp [hf, h2]⟩
      · refine Or.inr ⟨by omega, by simp [h2]⟩
theorem idxF_any (f : Pl → Bool) (l : List Pl) : ∀ k : Nat, (idxF f k l = -1 ∧ l.any f = false) ∨ ((k : Int) ≤ idxF f k l ∧ l.any f = true) := by
  induction l with
  | nil => intro k; exact Or.inl ⟨rfl, rfl⟩
  | cons n l ih =>
    intro k
    have e : idxF f k (n :: l) = if f n = true then (k : Int) else idxF f (k + 1) l := rfl
    rw [e, List.any_cons]
    by_cases h : f n = true
    · rw [if_pos h]; exact Or.inr ⟨Int.le_refl _, by simp [h]⟩
    · rw [if_neg h]
      have hf : f n = false := by simpa using h
      rcases ih (k + 1) with ⟨h1, h2⟩ | ⟨h1, h2⟩
      · exact Or.inl ⟨h1, by simp [hf, h2]⟩
      · refine Or.inr ⟨by omega, by simp [h2]⟩
theorem under_E {l : List Pl} {n t : Int} (h : underB l n t = true) : underE l n t = 0 := by
  unfold underB at h
  split at h
  · simp at h
  · rename_i h1; simpa using h1
/-- a node above one of the roots -/
def abB (l : List Pl) (R : List Int) (n : Int) : Bool := R.any fun r => underB l r n
theorem wy_ab (l : List Pl) (R : List Int) (n : Int) : wyB l R n = (!knB l R n && abB l R n) := rfl
theorem viewK_take (l : List Pl) (R : List Int) (k : Nat) (h : k < l.length) : (l.take (k + 1)).filter (fun p => knB l R p.1) = (l.take k).filter (fun p => knB l R p.1) ++ if knB l R l[k].1 = true then [l[k]] else [] := by
  rw [List.take_succ_eq_append_getElem h, List.filter_append]
  congr 1
  by_cases hk : knB l R l[k].1 = true
  · simp [hk]
  · simp [hk]
theorem viewW_take (l : List Pl) (R : List Int) (k : Nat) (h : k < l.length) : (l.take (k + 1)).filter (fun p => wyB l R p.1) = (l.take k).filter (fun p => wyB l R p.1) ++ if wyB l R l[k].1 = true then [l[k]] else [] := by
  rw [List.take_succ_eq_append_getElem h, List.filter_append]
  congr 1
  by_cases hk : wyB l R l[k].1 = true
  · simp [hk]
  · simp [hk]

/-- all on the way up from these -/
def upL (l : List Pl) (R : List Int) : List Int := R.flatMap fun r => (chain l r).drop 1
theorem upL_take (l : List Pl) (R : List Int) (k : Nat) (h : k < R.length) : upL l (R.take (k + 1)) = upL l (R.take k) ++ (chain l R[k]).drop 1 := by
  unfold upL
  rw [List.take_succ_eq_append_getElem h, List.flatMap_append]
  simp
theorem upL_len (l : List Pl) (R : List Int) (h : ∀ r ∈ R, (chain l r).length ≤ 17) : (upL l R).length ≤ 16 * R.length := by
  induction R with
  | nil => simp [upL]
  | cons r R ih =>
    have h1 := h r (by simp)
    have h2 := ih (fun r hr => h r (by simp [hr]))
    have e : upL l (r :: R) = (chain l r).drop 1 ++ upL l R := by simp [upL]
    rw [e, List.length_append, List.length_drop, List.length_cons]
    omega
theorem has_up (l : List Pl) (R : List Int) (n : Int) : hasB n (upL l R) = R.any fun r => hasB n ((chain l r).drop 1) := by
  rw [Bool.eq_iff_iff, List.any_eq_true]
  simp only [hasB, decide_eq_true_eq, upL, List.mem_flatMap]
theorem any_take (f : Int → Bool) (l : List Int) (k : Nat) (h : k < l.length) : (l.take (k + 1)).any f = ((l.take k).any f || f l[k]) := by
  rw [List.take_succ_eq_append_getElem h, List.any_append]
  simp
theorem chain_len (l : List Pl) (r : Int) (h : check l = 0) (hr : isNodeB r = true) : (chain l r).length ≤ 17 := by
  rw [isNodeB_iff] at hr
  obtain ⟨m, ⟨hok, _⟩, _⟩ := chain_inv l r (scan_up (check_scan l h)) hr.1 hr.2
  exact outOk_len hok
end Orangery

/- tree.Under. -/
namespace Go.Proofs.YthlhnokgcnieeadGreatDoor
open Go.ChangeShapes Go.WideShapes Go.ChangeAt Go.RowKit
open Orangery (Pl find isNodeB inRangeB meetsN scan ringAt check underE underB)

set_option maxHeartbeats 1000000 in
theorem under_any (w : World) (a : Option Addr) (c : Nat) (l : List Pl) (n t : Int) (hl : l.length ≤ maxLen) (h : SlP w a l) :
    Calls Tryz.prog 92 #[.agg #[.slice a l.length c], .int .i64 n, .int .i64 t] w
      fun e w' => e = .returned (.tuple #[.bool (underB l n t), .int .i64 (underE l n t)]) ∧ Below w.heap.size w w' := by
  go_enter Tryz.func92, Tryz.ntmps92
  go_wp2_with fail
  have hB := Go.Joins.below_alloc2 w (Obj.cells #[Value.slice a l.length c] 26) (Obj.cells #[Value.int IntKind.i64 t] 3)
  generalize hW : (w.alloc (Obj.cells #[Value.slice a l.length c] 26)).alloc (Obj.cells #[Value.int IntKind.i64 t] 3) = W0 at hB
  have hS : W0.heap.size = w.heap.size + 2 := by subst hW; simp
  have hc : W0.cell? ⟨w.heap.size, 0, none⟩ = some (.slice a l.length c) := by subst hW; rw [(Go.Joins.below_alloc1 _ _).cell (by simp)]; simp
  have ht : W0.cell? ⟨w.heap.size + 1, 0, none⟩ = some (.int .i64 t) := by subst hW; simp
  clear hW
  have hP := h.below hB
  clear h
  refine (check_any W0 a c l hl hP).mono ?_
  rintro e w1 ⟨rfl, hb⟩
  have hb2 : Below w.heap.size w w1 := hB.trans (hb.mono (by omega))
  have hc1 := hc
  rw [← hb.cell (by show w.heap.size < _; omega)] at hc1
  have ht1 := ht
  rw [← hb.cell (by show w.heap.size + 1 < _; omega)] at ht1
  have hP1 := hP.below hb
  have hS1 : w.heap.size + 1 < w1.heap.size := by have := hb.size; omega
  clear hc ht hP hB hb
  by_cases hz : check l = 0
  · by_cases h1 : isNodeB n = true
    · by_cases h2 : isNodeB t = true
      · obtain ⟨e1, e2⟩ := Orangery.underE_ok l n t hz h1 h2
        have HE : Hid (underE l n t = 0) := e1
        have HB : Hid (underB l n t = ((n == t) || meetsN l (fun m => m == t) l.length n)) := e2
        clear e1 e2
        rw [hz]
        clear hz
        go_wp2_with fail
        refine (isNode_any _ n).mono ?_
        rintro e w2 ⟨rfl, rfl⟩
        go_wp2_with fail
        refine (isNode_any _ t).mono ?_
        rintro e w2 ⟨rfl, rfl⟩
        by_cases hnt : n = t
        · have hnt' : (n == t) = true := by simpa using hnt
          have HN : Hid ((n == t) = true) := hnt'
          clear hnt
          go_wp2
          go_ret2
          exact ⟨by rw [HE.out, HB.out, HN.out]; rfl, hb2⟩
        · have hnt' : (n == t) = false := by simpa using hnt
          have HN : Hid ((n == t) = false) := hnt'
          clear hnt
          go_wp2_with fail
          refine (meets_any _ _ c l n 111 (.pointer (some ⟨w.heap.size + 1, 0, none⟩)) (fun m => m == t) hl hP1 (Go.Proofs.enters_of Tryz.func111 (by kernel_rfl) rfl) ?_).mono ?_
          · intro W m hbW
            exact under1_any W m t (w.heap.size + 1) (by rw [hbW.cell hS1, ht1])
          rintro e w2 ⟨rfl, hbm⟩
          have hb3 : Below w.heap.size w w2 := hb2.trans (hbm.mono hb2.size)
          clear hbm
          go_wp2
          go_ret2
          exact ⟨by rw [HE.out, HB.out, HN.out]; rfl, hb3⟩
      · obtain ⟨e1, e2⟩ := Orangery.underE_who l n t hz (fun hh => h2 hh.2)
        have HE : Hid (underE l n t = 5 ∧ underB l n t = false) := ⟨e1, e2⟩
        have h2' : isNodeB t = false := by simpa using h2
        clear e1 e2 h2
        rw [hz]
        clear hz
        go_wp2_with fail
        refine (isNode_any _ n).mono ?_
        rintro e w2 ⟨rfl, rfl⟩
        go_wp2_with fail
        refine (isNode_any _ t).mono ?_
        rintro e w2 ⟨rfl, rfl⟩
        go_wp2
        go_ret2
        exact ⟨by rw [HE.out.1, HE.out.2]; rfl, hb2⟩
    · obtain ⟨e1, e2⟩ := Orangery.underE_who l n t hz (fun hh => h1 hh.1)
      have HE : Hid (underE l n t = 5 ∧ underB l n t = false) := ⟨e1, e2⟩
      have h1' : isNodeB n = false := by simpa using h1
      clear e1 e2 h1
      rw [hz]
      clear hz
      go_wp2_with fail
      refine (isNode_any _ n).mono ?_
      rintro e w2 ⟨rfl, rfl⟩
      go_wp2
      go_ret2
      exact ⟨by rw [HE.out.1, HE.out.2]; rfl, hb2⟩
  · obtain ⟨e1, e2⟩ := Orangery.underE_bad l n t hz
    have HE : Hid (underE l n t = check l ∧ underB l n t = false) := ⟨e1, e2⟩
    have hz' : (check l != 0) = true := by simpa using hz
    clear e1 e2 hz
    go_wp2
    go_ret2
    exact ⟨by rw [HE.out.1, HE.out.2]; rfl, hb2⟩
end Go.Proofs.YthlhnokgcnieeadGreatDoor

/- view.Roots, view.under; slices.IndexFunc, slices.ContainsFunc at ints; the closures of view.split. -/
namespace Go.Proofs.YthlhnokgcnieeadGreatDoor
open Go.ChangeShapes Go.WideShapes Go.ChangeAt Go.RowKit
open Orangery (Pl isNodeB rootsE rootsOk prevI idxI underB underE knB abB)

set_option maxHeartbeats 1000000 in
theorem vroots_any (w : World) (a : Option Addr) (c : Nat) (l : List Int) (hl : l.length ≤ maxLen) (h : SlI w a l) :
    Calls Tryz.prog 58 #[.slice a l.length c] w fun e w' => e = .returned (.int .i64 (rootsOk l)) ∧ w' = w := by
  have hl' : l.length ≤ 9223372036854775807 := hl
  by_cases h4 : 4 < l.length
  · have d4 : decide ((l.length : Int) > 4) = true := by simp; omega
    have HE : Hid (rootsOk l = 2) := by show _ = _; unfold rootsOk; rw [if_pos h4]
    clear h4
    go_enter Tryz.func58, Tryz.ntmps58
    go_wp2
    go_ret
    exact ⟨ret_int HE.out.symm, rfl⟩
  · have d4 : decide ((l.length : Int) > 4) = false := by simp; omega
    have HE : Hid (rootsOk l = rootsE (-1) l) := by show _ = _; unfold rootsOk; rw [if_neg h4]
    go_enter Tryz.func58, Tryz.ntmps58
    go_wp2
    go_loop [10] (fun i => ∃ k : Nat, k ≤ l.length ∧ i = .int .i64 k ∧ rootsE (prevI l k) (l.drop k) = rootsE (-1) l) (fun i => l.length - (intOf i).toNat)
    case atStart => exact ⟨0, Nat.zero_le _, rfl, rfl⟩
    case round =>
      obtain ⟨k, hk, rfl, hf⟩ := hrel
      by_cases hlt : k < l.length
      · obtain ⟨s1, s2, s3⟩ := Orangery.rootsE_step l k _ hlt hf
        have H1 : Hid (isNodeB l[k] = false → rootsE (-1) l = 5) := s1
        have H2 : Hid (isNodeB l[k] = true → l[k] ≤ prevI l k → rootsE (-1) l = 6) := s2
        have H3 : Hid (isNodeB l[k] = true → ¬ l[k] ≤ prevI l k → rootsE (prevI l (k + 1)) (l.drop (k + 1)) = rootsE (-1) l) := by
          show _ → _ → _
          rw [Orangery.prevI_succ l k hlt]
          exact s3
        clear s1 s2 s3 hf
        obtain ⟨b, off, rfl, hbl, g0⟩ := h.at k hlt
        by_cases hn : isNodeB l[k] = true
        · have hn' := (Orangery.isNodeB_iff _).1 hn
          cases k with
          | zero =>
            rw [Nat.add_zero] at g0
            have hq : ¬ l[0] ≤ prevI l 0 := by show ¬ l[0] ≤ -1; omega
            have HF : Hid (rootsE (prevI l (0 + 1)) (l.drop (0 + 1)) = rootsE (-1) l) := H3.out hn hq
            clear H1 H2 H3 hn hq
            generalize l[0] = x at *
            have x1 : decide (x < 0) = false := by simp; omega
            have x2 : decide (x > 16) = false := by simp; omega
            clear hn'
            go_wp2
            go_round
            case rel => exact ⟨1, hlt, by go_num, HF.out⟩
            case measure => simp [intOf]; omega
          | succ j =>
            obtain ⟨b', off', e', _, g1⟩ := h.at j (by omega)
            obtain ⟨rfl, rfl⟩ : b = b' ∧ off = off' := by simpa using e'
            have hp : prevI l (j + 1) = l[j] := Orangery.prevI_succ l j (by omega)
            rw [hp] at H2 H3
            generalize l[j + 1] = x at *
            generalize l[j] = y at *
            have x1 : decide (x < 0) = false := by simp; omega
            have x2 : decide (x > 16) = false := by simp; omega
            have x3 : decide (((j + 1 : Nat) : Int) > 0) = true := by simp <;> omega
            have x4 : ((j + 1 : Nat) : Int) - 1 = (j : Int) := by omega
            clear hp e'
            by_cases hq : x ≤ y
            · have HF : Hid (rootsE (-1) l = 6) := H2.out hn hq
              have x5 : decide (x ≤ y) = true := by simpa using hq
              clear H1 H2 H3 hn hn' hq
              go_wp2
              go_ret
              exact ⟨ret_int (by rw [HE.out, HF.out]), rfl⟩
            · have HF : Hid (rootsE (prevI l (j + 1 + 1)) (l.drop (j + 1 + 1)) = rootsE (-1) l) := H3.out hn hq
              have x5 : decide (x ≤ y) = false := by simpa using hq
              clear H1 H2 H3 hn hn' hq
              go_wp2
              go_round
              case rel => exact ⟨j + 2, hlt, by go_num, HF.out⟩
              case measure => simp [intOf]; omega
        · have hn' : isNodeB l[k] = false := by simpa using hn
          have HF : Hid (rootsE (-1) l = 5) := H1.out hn'
          have hx : ¬ (0 ≤ l[k] ∧ l[k] ≤ 16) := fun e => hn ((Orangery.isNodeB_iff _).2 e)
          clear H1 H2 H3 hn hn'
          generalize l[k] = x at *
          by_cases h0 : x < 0
          · have x1 : decide (x < 0) = true := by simpa using h0
            clear h0 hx
            go_wp2
            go_ret
            exact ⟨ret_int (by rw [HE.out, HF.out]), rfl⟩
          · have x1 : decide (x < 0) = false := by simpa using h0
            have x2 : decide (x > 16) = true := by simp; omega
            clear h0 hx
            go_wp2
            go_ret
            exact ⟨ret_int (by rw [HE.out, HF.out]), rfl⟩
      · have hk' : l.drop k = [] := by simp; omega
        rw [hk'] at hf
        have HF : Hid (rootsE (-1) l = 0) := hf.symm
        clear hf hk'
        go_wp2
        go_ret
        exact ⟨ret_int (by rw [HE.out, HF.out]), rfl⟩

set_option maxHeartbeats 1000000 in
theorem vunder_any (w : World) (a : Option Addr) (c : Nat) (l : List Pl) (n t : Int) (hl : l.length ≤ maxLen) (h : SlP w a l) :
    Calls Tryz.prog 74 #[.agg #[.slice a l.length c], .int .i64 n, .int .i64 t] w
      fun e w' => e = .returned (.bool (underB l n t)) ∧ Below w.heap.size w w' := by
  go_enter Tryz.func74, Tryz.ntmps74
  go_wp2_with fail
  have hB := Go.Joins.below_alloc1 w (Obj.cells #[Value.slice a l.length c] 26)
  refine (under_any _ a c l n t hl (h.below hB)).mono ?_
  rintro e w1 ⟨rfl, hb⟩
  have hb1 : Below w.heap.size w w1 := hB.trans (hb.mono hB.size)
  clear hB hb h
  cases hu : underB l n t
  · have HU : Hid (underB l n t = false) := hu
    clear hu
    go_wp2
    go_ret
    exact ⟨ret_bool HU.out.symm, hb1⟩
  · have hE := Orangery.under_E hu
    have HU : Hid (underB l n t = true) := hu
    clear hu
    go_wp2
    go_ret
    exact ⟨ret_bool HU.out.symm, hb1⟩

set_option maxHeartbeats 1000000 in
theorem indexFuncI_any (w : World) (a : Option Addr) (c : Nat) (l : List Int) (g : Nat) (v v' : Value) (f : Int → Bool) (hl : l.length ≤ maxLen) (h : SlI w a l)
    (eg : ∀ args w, (callFunc g args).run Tryz.prog w = .ok (.enter g args) w)
    (hg : ∀ W n, Below w.heap.size w W → Calls Tryz.prog g #[.int .i64 n, v, v'] W fun e w' => e = .returned (.bool (f n)) ∧ Below W.heap.size W w') :
    Calls Tryz.prog 91 #[.slice a l.length c, .func (.func g) #[] #[v, v']] w
      fun e w' => e = .returned (.int .i64 (idxI f 0 l)) ∧ Below w.heap.size w w' := by
  have hl' : l.length ≤ 9223372036854775807 := hl
  go_enter Tryz.func91, Tryz.ntmps91
  go_wp2
  go_loopw [8] (fun i W => ∃ k : Nat, k ≤ l.length ∧ i = .int .i64 k ∧ idxI f k (l.drop k) = idxI f 0 l ∧ Below w.heap.size w W) (fun i _ => l.length - (intOf i).toNat)
  case atStart => exact ⟨0, Nat.zero_le _, rfl, rfl, Below.refl _ _⟩
  case round =>
    obtain ⟨k, hk, rfl, hf, hb⟩ := hrel
    by_cases hlt : k < l.length
    · obtain ⟨s1, s2⟩ := Orangery.idxI_step f l k hlt hf
      have H1 : Hid (f l[k] = true → idxI f 0 l = k) := s1
      have H2 : Hid (f l[k] = false → idxI f (k + 1) (l.drop (k + 1)) = idxI f 0 l) := s2
      clear s1 s2 hf
      obtain ⟨b, off, rfl, hbl, g0⟩ := h.at k hlt
      rw [← hb.cell (by exact hbl)] at g0
      generalize l[k] = x at *
      go_wp2_with fail
      refine (hg wr x hb).mono ?_
      rintro e w1 ⟨rfl, hb1⟩
      have hb2 : Below w.heap.size w w1 := hb.trans (hb1.mono hb.size)
      cases hr : f x
      · have e := H2.out hr
        have HE : Hid (idxI f (k + 1) (l.drop (k + 1)) = idxI f 0 l) := e
        clear e
        go_wp2
        go_roundw
        case rel => exact ⟨k + 1, hlt, by go_num, HE.out, hb2⟩
        case measure => simp [intOf]; omega
      · have e := H1.out hr
        have HE : Hid (idxI f 0 l = k) := e
        clear e
        go_wp2
        go_ret
        exact ⟨ret_int (by rw [HE.out]), hb2⟩
    · have hk' : l.drop k = [] := by simp; omega
      rw [hk'] at hf
      have HF : Hid (idxI f 0 l = -1) := hf.symm
      clear hf hk'
      go_wp2
      go_ret
      exact ⟨ret_int (by rw [HF.out]), hb⟩

theorem containsFuncI_any (w : World) (a : Option Addr) (c : Nat) (l : List Int) (g : Nat) (v v' : Value) (f : Int → Bool) (hl : l.length ≤ maxLen) (h : SlI w a l)
    (eg : ∀ args w, (callFunc g args).run Tryz.prog w = .ok (.enter g args) w)
    (hg : ∀ W n, Below w.heap.size w W → Calls Tryz.prog g #[.int .i64 n, v, v'] W fun e w' => e = .returned (.bool (f n)) ∧ Below W.heap.size W w') :
    Calls Tryz.prog 72 #[.slice a l.length c, .func (.func g) #[] #[v, v']] w
      fun e w' => e = .returned (.bool (l.any f)) ∧ Below w.heap.size w w' := by
  go_enter Tryz.func72, Tryz.ntmps72
  go_wp2_with fail
  refine (indexFuncI_any w a c l g v v' f hl h eg hg).mono ?_
  rintro e w1 ⟨rfl, hb1⟩
  rcases Orangery.idxI_any f l 0 with ⟨h1, h2⟩ | ⟨h1, h2⟩
  · rw [h1]
    have HA : Hid (l.any f = false) := h2
    clear h1 h2
    go_wp2
    go_ret
    exact ⟨ret_bool HA.out.symm, hb1⟩
  · have d : decide (idxI f 0 l ≥ 0) = true := by simp; omega
    have HA : Hid (l.any f = true) := h2
    clear h1 h2
    go_wp2
    go_ret
    exact ⟨ret_bool HA.out.symm, hb1⟩

theorem vsplit11_any (w : World) (r n : Int) (bt bn : Nat) (a : Option Addr) (c : Nat) (l : List Pl) (hl : l.length ≤ maxLen) (h : SlP w a l)
    (ht : w.cell? ⟨bt, 0, none⟩ = some (.slice a l.length c)) (hn : w.cell? ⟨bn, 0, none⟩ = some (.int .i64 n)) :
    Calls Tryz.prog 73 #[.int .i64 r, .pointer (some ⟨bt, 0, none⟩), .pointer (some ⟨bn, 0, none⟩)] w
      fun e w' => e = .returned (.bool (underB l n r)) ∧ Below w.heap.size w w' := by
  go_enter Tryz.func73, Tryz.ntmps73
  go_wp2_with fail
  refine (vunder_any w a c l n r hl h).mono ?_
  rintro e w1 ⟨rfl, hb1⟩
  clear ht hn
  go_wp2
  go_ret
  exact ⟨rfl, hb1⟩
theorem vsplit21_any (w : World) (r n : Int) (bt bn : Nat) (a : Option Addr) (c : Nat) (l : List Pl) (hl : l.length ≤ maxLen) (h : SlP w a l)
    (ht : w.cell? ⟨bt, 0, none⟩ = some (.slice a l.length c)) (hn : w.cell? ⟨bn, 0, none⟩ = some (.int .i64 n)) :
    Calls Tryz.prog 76 #[.int .i64 r, .pointer (some ⟨bt, 0, none⟩), .pointer (some ⟨bn, 0, none⟩)] w
      fun e w' => e = .returned (.bool (underB l r n)) ∧ Below w.heap.size w w' := by
  go_enter Tryz.func76, Tryz.ntmps76
  go_wp2_with fail
  refine (vunder_any w a c l r n hl h).mono ?_
  rintro e w1 ⟨rfl, hb1⟩
  clear ht hn
  go_wp2
  go_ret
  exact ⟨rfl, hb1⟩

theorem vsplit1_any (w : World) (n : Int) (br bt : Nat) (a a' : Option Addr) (c c' : Nat) (l : List Pl) (R : List Int) (hl : l.length ≤ maxLen) (hR : R.length ≤ maxLen) (h : SlP w a l) (h' : SlI w a' R)
    (hbt : bt < w.heap.size) (ht : w.cell? ⟨bt, 0, none⟩ = some (.slice a l.length c)) (hr : w.cell? ⟨br, 0, none⟩ = some (.slice a' R.length c')) :
    Calls Tryz.prog 71 #[.int .i64 n, .pointer (some ⟨br, 0, none⟩), .pointer (some ⟨bt, 0, none⟩)] w
      fun e w' => e = .returned (.bool (knB l R n)) ∧ Below w.heap.size w w' := by
  have hbr : br < w.heap.size := World.block_lt_of_cell? w ⟨br, 0, none⟩ hr
  obtain ⟨W0, hW, hN, hB, hS⟩ := laid1 w [Value.int IntKind.i64 n] 3
  have hr0 : W0.cell? ⟨br, 0, none⟩ = some (.slice a' R.length c') := by rw [hB.cell (by exact hbr)]; exact hr
  have HT : Hid (w.cell? ⟨bt, 0, none⟩ = some (.slice a l.length c)) := ht
  clear hr ht
  go_enter Tryz.func71, Tryz.ntmps71
  go_wp2_with fail
  clear hW
  refine (containsFuncI_any W0 a' c' R 73 (.pointer (some ⟨bt, 0, none⟩)) (.pointer (some ⟨w.heap.size, 0, none⟩)) (fun r => underB l n r) hR (h'.below hB) (Go.Proofs.enters_of Tryz.func73 (by kernel_rfl) rfl) ?_).mono ?_
  · intro W r hb
    refine vsplit11_any W r n bt w.heap.size a c l hl ((h.below hB).below hb) ?_ ((hN.keep hb).at 0 rfl)
    rw [hb.cell (by show bt < _; omega), hB.cell (by exact hbt)]
    exact HT.out
  rintro e w1 ⟨rfl, hb1⟩
  have hb2 : Below w.heap.size w w1 := hB.trans (hb1.mono hB.size)
  clear hN hr0
  go_wp2
  go_ret
  exact ⟨rfl, hb2⟩
theorem vsplit2_any (w : World) (n : Int) (br bt : Nat) (a a' : Option Addr) (c c' : Nat) (l : List Pl) (R : List Int) (hl : l.length ≤ maxLen) (hR : R.length ≤ maxLen) (h : SlP w a l) (h' : SlI w a' R)
    (hbt : bt < w.heap.size) (ht : w.cell? ⟨bt, 0, none⟩ = some (.slice a l.length c)) (hr : w.cell? ⟨br, 0, none⟩ = some (.slice a' R.length c')) :
    Calls Tryz.prog 75 #[.int .i64 n, .pointer (some ⟨br, 0, none⟩), .pointer (some ⟨bt, 0, none⟩)] w
      fun e w' => e = .returned (.bool (abB l R n)) ∧ Below w.heap.size w w' := by
  have hbr : br < w.heap.size := World.block_lt_of_cell? w ⟨br, 0, none⟩ hr
  obtain ⟨W0, hW, hN, hB, hS⟩ := laid1 w [Value.int IntKind.i64 n] 3
  have hr0 : W0.cell? ⟨br, 0, none⟩ = some (.slice a' R.length c') := by rw [hB.cell (by exact hbr)]; exact hr
  have HT : Hid (w.cell? ⟨bt, 0, none⟩ = some (.slice a l.length c)) := ht
  clear hr ht
  go_enter Tryz.func75, Tryz.ntmps75
  go_wp2_with fail
  clear hW
  refine (containsFuncI_any W0 a' c' R 76 (.pointer (some ⟨bt, 0, none⟩)) (.pointer (some ⟨w.heap.size, 0, none⟩)) (fun r => underB l r n) hR (h'.below hB) (Go.Proofs.enters_of Tryz.func76 (by kernel_rfl) rfl) ?_).mono ?_
  · intro W r hb
    refine vsplit21_any W r n bt w.heap.size a c l hl ((h.below hB).below hb) ?_ ((hN.keep hb).at 0 rfl)
    rw [hb.cell (by show bt < _; omega), hB.cell (by exact hbt)]
    exact HT.out
  rintro e w1 ⟨rfl, hb1⟩
  have hb2 : Below w.heap.size w w1 := hB.trans (hb1.mono hB.size)
  clear hN hr0
  go_wp2
  go_ret
  exact ⟨rfl, hb2⟩
end Go.Proofs.YthlhnokgcnieeadGreatDoor

/- orangeryref.CheckRoots. -/
namespace Go.Proofs.YthlhnokgcnieeadGreatDoor
open Go.ChangeShapes Go.WideShapes Go.ChangeAt Go.RowKit
open Orangery (isNodeB rootsE rootsOk)

end Go.Proofs.YthlhnokgcnieeadGreatDoor

/- Plain facts on texts: words with blanks between them, decimal numbers written and read. -/
namespace Orangery
open Go.Lib (itoa decDigits parseIntB parseUintM parseUintB NumEnd cut index)

/-- the words of a text -/
def wordsB : List UInt8 → List (List UInt8)
  | [] => [[]]
  | c :: r => if c = 32 then [] :: wordsB r else ((wordsB r).headD [] |>.cons c) :: (wordsB r).tail
theorem wordsB_ne (s : List UInt8) : wordsB s ≠ [] := by cases s with
  | nil => simp [wordsB]
  | cons c r => unfold wordsB; split <;> simp
theorem wordsB_split (s : List UInt8) : wordsB s = (wordsB s).headD [] :: (wordsB s).tail := by
  cases h : wordsB s with
  | nil => exact absurd h (wordsB_ne s)
  | cons a l => rfl

theorem index_blank_nil : index [] [32] = -1 := rfl
theorem index_blank (c : UInt8) (r : List UInt8) : index (c :: r) [32] = if c = 32 then 0 else if index r [32] = -1 then -1 else index r [32] + 1 := by
  have e : index (c :: r) [32] = if List.isPrefixOf [32] (c :: r) then 0 else if index r [32] == -1 then -1 else index r [32] + 1 := rfl
  rw [e]
  by_cases h : c = 32
  · subst h; simp [List.isPrefixOf]
  · have h2 : (32 == c) = false := by simp; exact fun e => h e.symm
    simp [List.isPrefixOf, h, h2]

/-- strings.Cut at a blank: the first word, the others -/
theorem cut_blank (s : List UInt8) : (cut s [32]).1 = (wordsB s).headD [] ∧ (wordsB s).tail = if (cut s [32]).2.2 = true then wordsB (cut s [32]).2.1 else [] := by
  induction s with
  | nil => decide
  | cons c r ih =>
    unfold cut at ih ⊢
    rw [index_blank]
    by_cases h : c = 32
    · subst h
      simp [wordsB]
    · rw [if_neg h]
      have hw : wordsB (c :: r) = ((wordsB r).headD [] |>.cons c) :: (wordsB r).tail := by
        conv => lhs; unfold wordsB
        rw [if_neg h]
      rw [hw]
      have hge := Go.Lib.index_ge r [32]
      by_cases h2 : index r [32] = -1
      · rw [h2] at ih ⊢
        simp at ih ⊢
        exact ih
      · have h3 : 0 ≤ index r [32] := by omega
        have h4 : 0 ≤ index r [32] + 1 := by omega
        have h5 : (index r [32] + 1).toNat = (index r [32]).toNat + 1 := by omega
        rw [if_pos h3] at ih
        rw [if_neg h2, if_pos h4, h5]
        simp only [List.headD_cons, List.tail_cons]
        have e1 : List.take ((index r [32]).toNat + 1) (c :: r) = c :: List.take (index r [32]).toNat r := rfl
        have e2 : List.drop ((index r [32]).toNat + 1 + [(32 : UInt8)].length) (c :: r) = List.drop ((index r [32]).toNat + [(32 : UInt8)].length) r := by
          rw [show (index r [32]).toNat + 1 + [(32 : UInt8)].length = ((index r [32]).toNat + [(32 : UInt8)].length) + 1 by simp]
          rfl
        rw [e1, e2]
        exact ⟨congrArg (c :: ·) ih.1, ih.2⟩

def glue (ws : List (List UInt8)) : List UInt8 := Go.Lib.join ws [32]
theorem glue_one (x : List UInt8) : glue [x] = x := Go.Lib.join_one x [32]
theorem glue_cons (x y : List UInt8) (ws : List (List UInt8)) : glue (x :: y :: ws) = x ++ 32 :: glue (y :: ws) := by
  unfold glue
  rw [Go.Lib.join_cons, Go.Lib.join_cons]
  simp [Go.Lib.joinTail]
theorem glue_words (s : List UInt8) : glue (wordsB s) = s := by
  induction s with
  | nil => rfl
  | cons c r ih =>
    unfold wordsB
    rw [wordsB_split r] at ih ⊢
    generalize (wordsB r).headD [] = x at *
    generalize (wordsB r).tail = l at *
    by_cases h : c = 32
    · rw [if_pos h, glue_cons, ih, h]; rfl
    · rw [if_neg h]
      simp only [List.headD_cons, List.tail_cons]
      cases l with
      | nil => rw [glue_one] at ih ⊢; rw [ih]
      | cons y l => rw [glue_cons] at ih ⊢; rw [← ih]; rfl
theorem words_one (x : List UInt8) (hx : ∀ c ∈ x, c ≠ 32) : wordsB x = [x] := by
  induction x with
  | nil => rfl
  | cons c r ih =>
    unfold wordsB
    rw [ih (fun d hd => hx d (by simp [hd])), if_neg (hx c (by simp))]
    rfl
theorem words_app (x : List UInt8) (hx : ∀ c ∈ x, c ≠ 32) (s : List UInt8) : wordsB (x ++ 32 :: s) = x :: wordsB s := by
  induction x with
  | nil => simp [wordsB]
  | cons c r ih =>
    rw [List.cons_append]
    conv => lhs; unfold wordsB
    rw [ih (fun d hd => hx d (by simp [hd])), if_neg (hx c (by simp))]
    rfl
theorem words_glue (ws : List (List UInt8)) (hn : ws ≠ []) (h : ∀ x ∈ ws, ∀ c ∈ x, c ≠ 32) : wordsB (glue ws) = ws := by
  induction ws with
  | nil => exact absurd rfl hn
  | cons x l ih =>
    cases l with
    | nil => rw [glue_one, words_one x (h x (by simp))]
    | cons y l =>
      rw [glue_cons, words_app x (h x (by simp)), ih (by simp) (fun z hz => h z (by simp [hz]))]

/-! numbers -/
theorem digits_small {u : Nat} (h : u < 10) : decDigits u = [UInt8.ofNat (48 + u)] := Go.Lib.decDigits_one h
theorem digits_big {u : Nat} (h : ¬ u < 10) : decDigits u = decDigits (u / 10) ++ [UInt8.ofNat (48 + u % 10)] := by rw [decDigits, dif_neg h]
theorem digit_nat {d : Nat} (h : d < 10) : (UInt8.ofNat (48 + d)).toNat = 48 + d := by
  rw [UInt8.toNat_ofNat']
  omega
theorem digits_all (u : Nat) : ∀ c ∈ decDigits u, 48 ≤ c.toNat ∧ c.toNat ≤ 57 := by
  induction u using Nat.strongRecOn with
  | _ u ih =>
    intro c hc
    by_cases h : u < 10
    · rw [digits_small h] at hc
      obtain rfl := List.mem_singleton.1 hc
      rw [digit_nat h]
      omega
    · rw [digits_big h] at hc
      rcases List.mem_append.1 hc with hc | hc
      · exact ih (u / 10) (by omega) c hc
      · obtain rfl := List.mem_singleton.1 hc
        rw [digit_nat (Nat.mod_lt _ (by omega))]
        omega
theorem digits_ne (u : Nat) : decDigits u ≠ [] := by
  by_cases h : u < 10
  · rw [digits_small h]; simp
  · rw [digits_big h]; simp
theorem itoa_blank (n : Int) : ∀ c ∈ itoa n, c ≠ 32 := by
  intro c hc e
  subst e
  unfold itoa at hc
  split at hc
  · simp at hc
    have := digits_all _ _ hc
    simp at this
  · have := digits_all _ _ hc
    simp at this

theorem parse_app (M : Nat) (l : List UInt8) (c : UInt8) : ∀ acc a, parseUintM M acc l = .ok a → parseUintM M acc (l ++ [c]) = parseUintM M a [c] := by
  induction l with
  | nil =>
    intro acc a h
    have : acc = a := by simpa [parseUintM] using h
    subst this
    rfl
  | cons d r ih =>
    intro acc a h
    rw [List.cons_append]
    unfold parseUintM at h ⊢
    split at h
    · rename_i h1
      rw [if_pos h1]
      split at h
      · simp at h
      · rename_i h2
        rw [if_neg h2]
        split at h
        · simp at h
        · rename_i h3
          rw [if_neg h3]
          exact ih _ _ h
    · simp at h
theorem parse_digits (u : Nat) (h : u ≤ 18446744073709551615) : parseUintM 18446744073709551615 0 (decDigits u) = .ok u := by
  induction u using Nat.strongRecOn with
  | _ u ih =>
    by_cases hu : u < 10
    · rw [digits_small hu]
      unfold parseUintM
      rw [digit_nat hu, if_pos (by omega), if_neg (by omega), if_neg (by omega)]
      unfold parseUintM
      congr 1
      omega
    · have h1 := ih (u / 10) (by omega) (by omega)
      rw [digits_big hu, parse_app _ _ _ _ _ h1]
      unfold parseUintM
      have hm : u % 10 < 10 := Nat.mod_lt _ (by omega)
      rw [digit_nat hm, if_pos (by omega), if_neg (by omega), if_neg (by omega)]
      unfold parseUintM
      congr 1
      omega
theorem parse_itoa (n : Int) (h0 : -9223372036854775808 ≤ n) (h1 : n ≤ 9223372036854775807) : parseIntB 64 (itoa n) = .ok n := by
  unfold itoa
  by_cases hn : n < 0
  · rw [if_pos hn]
    have hp := parse_digits n.natAbs (by omega)
    have hu : parseUintB 64 (decDigits n.natAbs) = .ok n.natAbs := by
      unfold parseUintB
      rw [if_neg (digits_ne _)]
      exact hp
    unfold parseIntB
    simp only [show (45 : UInt8).toNat = 45 from rfl, or_true, if_true, hu]
    rw [if_neg (by simp), if_neg (by simp; omega)]
    congr 1
    omega
  · rw [if_neg hn]
    have hp := parse_digits n.toNat (by omega)
    have ha := digits_all n.toNat
    cases hd : decDigits n.toNat with
    | nil => exact absurd hd (digits_ne _)
    | cons c r =>
      rw [hd] at hp ha
      have hc := ha c (by simp)
      have hu : parseUintB 64 (c :: r) = .ok n.toNat := by
        unfold parseUintB
        rw [if_neg (by simp)]
        exact hp
      unfold parseIntB
      simp only
      rw [if_neg (by omega), hu]
      simp only
      rw [if_neg (by omega), if_neg (by omega), if_neg (by omega)]
      congr 1
      omega

/-- a number as it is written: none where it is written otherwise -/
def numOf (t : List UInt8) : Option Int := match parseIntB 64 t with
  | .ok v => if itoa v = t then some v else none
  | _ => none
theorem numOf_itoa (n : Int) (h0 : -9223372036854775808 ≤ n) (h1 : n ≤ 9223372036854775807) : numOf (itoa n) = some n := by
  unfold numOf
  rw [parse_itoa n h0 h1]
  simp
theorem numOf_some {t : List UInt8} {v : Int} (h : numOf t = some v) : itoa v = t := by
  unfold numOf at h
  split at h
  · split at h
    · rename_i h1; simp at h; rw [← h]; exact h1
    · simp at h
  · simp at h
theorem itoa_inj {m n : Int} (m0 : -9223372036854775808 ≤ m) (m1 : m ≤ 9223372036854775807) (n0 : -9223372036854775808 ≤ n) (n1 : n ≤ 9223372036854775807) (h : itoa m = itoa n) : m = n := by
  have e1 := numOf_itoa m m0 m1
  have e2 := numOf_itoa n n0 n1
  rw [h, e2] at e1
  simpa using e1.symm

/-- all numbers, or none -/
def numsOf : List (List UInt8) → Option (List Int)
  | [] => some []
  | t :: l => match numOf t with
    | none => none
    | some v => (numsOf l).map (v :: ·)
theorem numsOf_map (l : List Int) (h : ∀ n ∈ l, -9223372036854775808 ≤ n ∧ n ≤ 9223372036854775807) : numsOf (l.map itoa) = some l := by
  induction l with
  | nil => rfl
  | cons n l ih =>
    rw [List.map_cons]
    unfold numsOf
    rw [numOf_itoa n (h n (by simp)).1 (h n (by simp)).2, ih (fun m hm => h m (by simp [hm]))]
    rfl
theorem numsOf_some (ws : List (List UInt8)) : ∀ l, numsOf ws = some l → ws = l.map itoa := by
  induction ws with
  | nil => intro l h; simp [numsOf] at h; rw [h]; rfl
  | cons t ws ih =>
    intro l h
    unfold numsOf at h
    split at h
    · simp at h
    · rename_i v hv
      rw [Option.map_eq_some_iff] at h
      obtain ⟨l', h1, rfl⟩ := h
      rw [List.map_cons, ← ih l' h1, numOf_some hv]
end Orangery

/- Plain facts on records: checked, printed, read. -/
namespace Orangery
open Go.Lib (itoa)

/-- a record: kind, who, life, roots, operation -/
abbrev Rc := Int × Int × Int × List Int × Mv
def noRec : Rc := (0, 0, 0, [], noOp)

def checkRec (r : Rc) : Int :=
  if r.1 = 1 then (if r.2.1 ≠ 0 ∨ r.2.2.1 ≠ 0 ∨ r.2.2.2.1 ≠ [] then 4 else checkOp r.2.2.2.2)
  else if r.1 = 2 then (if r.2.2.2.2 ≠ noOp ∨ r.2.2.2.1 ≠ [] then 4 else if ¬ (0 ≤ r.2.1 ∧ r.2.1 ≤ 2) ∨ ¬ (1 ≤ r.2.2.1 ∧ r.2.2.1 ≤ 50) then 3 else 0)
  else if r.1 = 3 then (if r.2.2.2.2 ≠ noOp ∨ r.2.2.1 ≠ 0 then 4 else if ¬ (0 ≤ r.2.1 ∧ r.2.1 ≤ 2) then 3 else rootsOk r.2.2.2.1)
  else 4

def wOp : List UInt8 := [111, 112]
def wLife : List UInt8 := [108, 105, 102, 101]
def wRoots : List UInt8 := [114, 111, 111, 116, 115]
def recWord (r : Rc) : List UInt8 := if r.1 = 1 then wOp else if r.1 = 2 then wLife else wRoots
def opNums (o : Mv) : List Int := [o.1, o.2.1, o.2.2.1.1, o.2.2.1.2.1, o.2.2.1.2.2, o.2.2.2.1, o.2.2.2.2]
def recNums (r : Rc) : List Int := if r.1 = 1 then opNums r.2.2.2.2 else if r.1 = 2 then [r.2.1, r.2.2.1] else r.2.1 :: r.2.2.2.1
/-- the text of a right record -/
def recT (r : Rc) : List UInt8 := glue (recWord r :: (recNums r).map itoa)
def recText (r : Rc) : List UInt8 := if checkRec r ≠ 0 then [] else recT r

/-- what a word and numbers make -/
def recOf (w : List UInt8) (n : List Int) : Option Rc :=
  if w = wOp ∧ n.length = 7 then some (1, 0, 0, [], (n.getD 0 0, n.getD 1 0, (n.getD 2 0, n.getD 3 0, n.getD 4 0), n.getD 5 0, n.getD 6 0))
  else if w = wLife ∧ n.length = 2 then some (2, n.getD 0 0, n.getD 1 0, [], noOp)
  else if w = wRoots ∧ 1 ≤ n.length then some (3, n.getD 0 0, 0, n.tail, noOp)
  else none
def readO (s : List UInt8) : Option Rc := (numsOf (wordsB s).tail).bind (recOf ((wordsB s).headD []))
def readE (s : List UInt8) : Int := match readO s with
  | none => 1
  | some r => checkRec r
def readR (s : List UInt8) : Rc := if readE s ≠ 0 then noRec else (readO s).getD noRec
/-- chapter 6's Parse -/
def parseE (s : List UInt8) : Int := if 60000 < s.length then 2 else readE s
def parseR (s : List UInt8) : Rc := if 60000 < s.length then noRec else readR s

theorem checkRec_op {r : Rc} (h : checkRec r = 0) (h1 : r.1 = 1) : r = (1, 0, 0, [], r.2.2.2.2) ∧ checkOp r.2.2.2.2 = 0 := by
  obtain ⟨k, w, l, R, o⟩ := r
  unfold checkRec at h
  simp only at h h1 ⊢
  rw [if_pos h1] at h
  split at h
  · omega
  · rename_i h2
    simp only [not_or, Decidable.not_not, ne_eq] at h2
    obtain ⟨e1, e2, e3⟩ := h2
    subst e1 e2 e3 h1
    exact ⟨rfl, h⟩
theorem checkRec_life {r : Rc} (h : checkRec r = 0) (h1 : r.1 = 2) : r = (2, r.2.1, r.2.2.1, [], noOp) ∧ (0 ≤ r.2.1 ∧ r.2.1 ≤ 2) ∧ 1 ≤ r.2.2.1 ∧ r.2.2.1 ≤ 50 := by
  obtain ⟨k, w, l, R, o⟩ := r
  unfold checkRec at h
  simp only at h h1 ⊢
  rw [if_neg (by omega), if_pos h1] at h
  split at h
  · omega
  · rename_i h2
    simp only [not_or, Decidable.not_not, ne_eq] at h2
    obtain ⟨e1, e2⟩ := h2
    subst e1 e2 h1
    split at h
    · omega
    · rename_i h3
      exact ⟨rfl, by omega, by omega, by omega⟩
theorem checkRec_roots {r : Rc} (h : checkRec r = 0) (h1 : r.1 = 3) : r = (3, r.2.1, 0, r.2.2.2.1, noOp) ∧ (0 ≤ r.2.1 ∧ r.2.1 ≤ 2) ∧ rootsOk r.2.2.2.1 = 0 := by
  obtain ⟨k, w, l, R, o⟩ := r
  unfold checkRec at h
  simp only at h h1 ⊢
  rw [if_neg (by omega), if_neg (by omega), if_pos h1] at h
  split at h
  · omega
  · rename_i h2
    simp only [not_or, Decidable.not_not, ne_eq] at h2
    obtain ⟨e1, e2⟩ := h2
    subst e1 e2 h1
    split at h
    · omega
    · rename_i h3
      exact ⟨rfl, by omega, h⟩
theorem checkRec_kind {r : Rc} (h : checkRec r = 0) : r.1 = 1 ∨ r.1 = 2 ∨ r.1 = 3 := by
  unfold checkRec at h
  by_cases h1 : r.1 = 1
  · exact Or.inl h1
  · by_cases h2 : r.1 = 2
    · exact Or.inr (Or.inl h2)
    · by_cases h3 : r.1 = 3
      · exact Or.inr (Or.inr h3)
      · rw [if_neg h1, if_neg h2, if_neg h3] at h
        omega

theorem recNums_small {r : Rc} (h : checkRec r = 0) : (recNums r).length ≤ 7 ∧ ∀ n ∈ recNums r, 0 ≤ n ∧ n ≤ 10000 := by
  rcases checkRec_kind h with h1 | h1 | h1
  · obtain ⟨e, hc⟩ := checkRec_op h h1
    have ho := checkOp_zero hc
    simp only [opOkB, decide_eq_true_eq] at ho
    unfold recNums
    rw [if_pos h1]
    unfold opNums
    refine ⟨by simp, ?_⟩
    intro n hn
    simp only [List.mem_cons, List.not_mem_nil, or_false] at hn
    rcases hn with rfl | rfl | rfl | rfl | rfl | rfl | rfl <;> omega
  · obtain ⟨e, hw, hl⟩ := checkRec_life h h1
    unfold recNums
    rw [if_neg (by omega), if_pos h1]
    refine ⟨by simp, ?_⟩
    intro n hn
    simp only [List.mem_cons, List.not_mem_nil, or_false] at hn
    rcases hn with rfl | rfl <;> omega
  · obtain ⟨e, hw, hr⟩ := checkRec_roots h h1
    unfold recNums
    rw [if_neg (by omega), if_neg (by omega)]
    have hl := rootsOk_len hr
    refine ⟨by simp; omega, ?_⟩
    intro n hn
    rcases List.mem_cons.1 hn with rfl | hn
    · omega
    · have := (isNodeB_iff n).1 (rootsOk_node hr n hn)
      omega
theorem recWord_blank (r : Rc) : ∀ c ∈ recWord r, c ≠ 32 := by
  unfold recWord
  split
  · decide
  · split <;> decide
theorem recOf_nums {r : Rc} (h : checkRec r = 0) : recOf (recWord r) (recNums r) = some r := by
  rcases checkRec_kind h with h1 | h1 | h1
  · obtain ⟨e, _⟩ := checkRec_op h h1
    have e1 : recWord r = wOp := by unfold recWord; rw [if_pos h1]
    have e2 : recNums r = opNums r.2.2.2.2 := by unfold recNums; rw [if_pos h1]
    rw [e1, e2]
    unfold recOf
    rw [if_pos ⟨rfl, rfl⟩, e]
    rfl
  · obtain ⟨e, _⟩ := checkRec_life h h1
    have e1 : recWord r = wLife := by unfold recWord; rw [if_neg (by omega), if_pos h1]
    have e2 : recNums r = [r.2.1, r.2.2.1] := by unfold recNums; rw [if_neg (by omega), if_pos h1]
    rw [e1, e2]
    unfold recOf
    rw [if_neg (fun hh => absurd hh.1 (by decide)), if_pos ⟨rfl, rfl⟩, e]
    rfl
  · obtain ⟨e, _⟩ := checkRec_roots h h1
    have e1 : recWord r = wRoots := by unfold recWord; rw [if_neg (by omega), if_neg (by omega)]
    have e2 : recNums r = r.2.1 :: r.2.2.2.1 := by unfold recNums; rw [if_neg (by omega), if_neg (by omega)]
    rw [e1, e2]
    unfold recOf
    rw [if_neg (fun hh => absurd hh.1 (by decide)), if_neg (fun hh => absurd hh.1 (by decide)), if_pos ⟨rfl, by simp⟩, e]
    rfl

/-- what is printed is read -/
theorem read_text {r : Rc} (h : checkRec r = 0) : readO (recT r) = some r ∧ readE (recT r) = 0 ∧ readR (recT r) = r := by
  have hs := recNums_small h
  have hw : wordsB (recT r) = recWord r :: (recNums r).map itoa := by
    unfold recT
    refine words_glue _ (by simp) ?_
    intro x hx
    rcases List.mem_cons.1 hx with rfl | hx
    · exact recWord_blank r
    · obtain ⟨n, _, rfl⟩ := List.mem_map.1 hx
      exact itoa_blank n
  have h1 : readO (recT r) = some r := by
    unfold readO
    rw [hw]
    simp only [List.headD_cons, List.tail_cons]
    rw [numsOf_map _ (fun n hn => by have := hs.2 n hn; omega)]
    exact recOf_nums h
  have h2 : readE (recT r) = 0 := by unfold readE; rw [h1]; exact h
  refine ⟨h1, h2, ?_⟩
  unfold readR
  rw [if_neg (by simp [h2]), h1]
  rfl

theorem recOf_some {w : List UInt8} {n : List Int} {r : Rc} (h : recOf w n = some r) : recWord r = w ∧ recNums r = n := by
  unfold recOf at h
  split at h
  · rename_i h1
    simp at h
    subst h
    obtain ⟨e1, e2⟩ := h1
    refine ⟨by rw [e1]; rfl, ?_⟩
    match n, e2 with
    | [a, b, c, d, e, f, g], _ => rfl
  · split at h
    · rename_i h1
      simp at h
      subst h
      obtain ⟨e1, e2⟩ := h1
      refine ⟨by rw [e1]; rfl, ?_⟩
      match n, e2 with
      | [a, b], _ => rfl
    · split at h
      · rename_i h1
        simp at h
        subst h
        obtain ⟨e1, e2⟩ := h1
        refine ⟨by rw [e1]; rfl, ?_⟩
        match n, e2 with
        | a :: l, _ => rfl
      · simp at h

/-- what is read is printed as it was -/
theorem text_read {s : List UInt8} (h : readE s = 0) : checkRec (readR s) = 0 ∧ recT (readR s) = s := by
  have hR : readR s = (readO s).getD noRec := by unfold readR; rw [if_neg (by simp [h])]
  unfold readE at h
  cases hr : readO s with
  | none => rw [hr] at h; simp at h
  | some r =>
    rw [hr] at h hR
    simp only [Option.getD_some] at h hR
    rw [hR]
    refine ⟨h, ?_⟩
    unfold readO at hr
    rw [Option.bind_eq_some_iff] at hr
    obtain ⟨n, h1, h2⟩ := hr
    obtain ⟨e1, e2⟩ := recOf_some h2
    unfold recT
    rw [e1, e2, ← numsOf_some _ n h1, ← wordsB_split, glue_words]

/-- unlike records have unlike texts -/
theorem text_inj {r q : Rc} (hr : checkRec r = 0) (hq : checkRec q = 0) : recT r = recT q ↔ r = q := by
  constructor
  · intro e
    have h1 := (read_text hr).2.2
    have h2 := (read_text hq).2.2
    rw [e, h2] at h1
    exact h1.symm
  · rintro rfl; rfl

theorem glue_len (ws : List (List UInt8)) (h : ∀ x ∈ ws, x.length ≤ 21) : (glue ws).length ≤ 22 * ws.length := by
  induction ws with
  | nil => simp [glue, Go.Lib.join]
  | cons x l ih =>
    have hx := h x (by simp)
    cases l with
    | nil => rw [glue_one]; simp; omega
    | cons y l =>
      have := ih (fun z hz => h z (by simp [hz]))
      rw [glue_cons]
      simp at this ⊢
      omega
theorem recT_len {r : Rc} (h : checkRec r = 0) : (recT r).length ≤ 176 := by
  have hs := recNums_small h
  have := glue_len (recWord r :: (recNums r).map itoa) (by
    intro x hx
    rcases List.mem_cons.1 hx with rfl | hx
    · unfold recWord; split
      · decide
      · split <;> decide
    · obtain ⟨n, hn, rfl⟩ := List.mem_map.1 hx
      have := hs.2 n hn
      exact Go.Lib.itoa_length_le n (by omega) (by omega))
  unfold recT
  simp at this
  omega
/-- P6.3, with the bound on the length -/
theorem parse_text {r : Rc} (h : checkRec r = 0) : parseE (recT r) = 0 ∧ parseR (recT r) = r := by
  have hl := recT_len h
  unfold parseE parseR
  rw [if_neg (by omega), if_neg (by omega)]
  exact (read_text h).2
theorem text_parse {s : List UInt8} (h : parseE s = 0) : checkRec (parseR s) = 0 ∧ recT (parseR s) = s := by
  unfold parseE at h
  unfold parseR
  split at h
  · omega
  · rename_i h1
    rw [if_neg h1]
    exact text_read h
end Orangery

