/- 8 texts of the proof: Plain facts for ViewAgain and ViewMore. Plain facts on deltas, as the reference reckons them: by tables. Plain facts on deltas, as the program reckons them; and what is answered of views and deltas. delta.has, delta.inRange, delta.checkGone, delta.partsOf, delta.changesOf. slices.Contains at ints. cmp.Compare, cmp.Or at ints; tree.byName. cmp.Or at error numbers. Regions that draw their order, wal -/
import Derived.Deep.RegionHeld3
import Derived.Sort.Grow
import Derived.Test.YtkjgoikcibgonacGreatP04
import Derived.Test.YtkjgoikcibgonacGreatP02
import Derived.Test.YtkjgoikcibgonacGreatP01
/- Plain facts for ViewAgain and ViewMore. -/
namespace Orangery

theorem rootsE_take (l : List Int) : ∀ a k, rootsE a l = 0 → rootsE a (l.take k) = 0 := by
  induction l with
  | nil => intro a k h; simpa using h
  | cons n l ih =>
    intro a k h
    cases k with
    | zero => rfl
    | succ k =>
      rw [List.take_succ_cons]
      unfold rootsE at h ⊢
      split at h
      · omega
      · split at h
        · omega
        · rename_i h1 h2
          rw [if_neg h1, if_neg h2]
          exact ih n k h
theorem rootsOk_take {l : List Int} (h : rootsOk l = 0) (k : Nat) : rootsOk (l.take k) = 0 := by
  have hl := rootsOk_len h
  unfold rootsOk at h ⊢
  rw [if_neg (by omega)] at h
  rw [if_neg (by simp; omega)]
  exact rootsE_take l _ k h
theorem ofE_take {l : List Pl} {R : List Int} (h : ofE l R = 0) (k : Nat) : ofE l (R.take k) = 0 := by
  obtain ⟨h1, h2⟩ := ofE_zero h
  unfold ofE orI
  rw [if_neg (by simp [h1])]
  exact rootsOk_take h2 k
theorem more_K (l : List Pl) (R : List Int) (k : Nat) (p : Pl) (hp : p ∈ viewK l (R.take k)) : p ∈ viewK l R := by
  obtain ⟨h1, h2⟩ := List.mem_filter.1 hp
  exact List.mem_filter.2 ⟨h1, view_more l _ _ (fun r hr => List.mem_of_mem_take hr) _ h2⟩
theorem more_W (l : List Pl) (R : List Int) (k : Nat) (p : Pl) (hp : p ∈ viewW l (R.take k)) : p ∉ viewK l R → p ∈ viewW l R := by
  obtain ⟨h1, h2⟩ := List.mem_filter.1 hp
  intro hn
  refine List.mem_filter.2 ⟨h1, ?_⟩
  have hk : knB l R p.1 = false := by
    cases hq : knB l R p.1
    · rfl
    · exact absurd (List.mem_filter.2 ⟨h1, hq⟩) hn
  have h3 : wyB l (R.take k) p.1 = true := h2
  rw [wy_ab] at h3 ⊢
  rw [hk]
  simp only [Bool.not_false, Bool.true_and]
  have h4 : abB l (R.take k) p.1 = true := by
    cases hq : abB l (R.take k) p.1
    · rw [hq] at h3; simp at h3
    · rfl
  unfold abB at h4 ⊢
  rw [List.any_eq_true] at h4 ⊢
  obtain ⟨r, hr, hu⟩ := h4
  exact ⟨r, List.mem_of_mem_take hr, hu⟩

/-- both parts of a view, sorted -/
theorem again_both (l : List Pl) (R : List Int) (h : check l = 0) (l' : List Pl) (hp : l'.Perm (viewK l R ++ viewW l R)) (hs : l'.Pairwise fun p q => p.1 ≤ q.1) : l' = viewA l R := by
  have hb : byNode (viewA l R) := ((check_iff l).1 h).2.1.filter _
  exact sorted_unique l' (viewA l R) hb (hp.trans (view_perm l R)) hs
theorem again_of (l : List Pl) (R : List Int) (h : ofE l R = 0) : ofE (viewA l R) R = 0 ∧ ofR (viewA l R) R = R ∧ ofK (viewA l R) R = viewK l R ∧ ofW (viewA l R) R = viewW l R := by
  obtain ⟨h1, h2⟩ := ofE_zero h
  obtain ⟨g1, g2, g3⟩ := view_again l R h1 (rootsOk_node h2)
  have e : ofE (viewA l R) R = 0 := by unfold ofE orI; rw [if_neg (by simp [g1])]; exact h2
  obtain ⟨k1, k2, k3⟩ := of_ok e
  exact ⟨e, k1, by rw [k2, g2], by rw [k3, g3]⟩
theorem again_find (l : List Pl) (R : List Int) (h : check l = 0) (p : Pl) (hp : p ∈ viewA l R) : find l p.1 = p :=
  (mem_node l h p (List.mem_filter.1 hp).1).2.2.1
theorem again_next (l : List Pl) (R : List Int) (h : check l = 0) (i j : Nat) (hi : i < (viewA l R).length) (hj : j < (viewA l R).length) (hij : i < j) : (viewA l R)[i].1 < (viewA l R)[j].1 := by
  have hb : byNode (viewA l R) := ((check_iff l).1 h).2.1.filter _
  exact List.pairwise_iff_getElem.1 hb i j hi hj hij
theorem again_kids (l : List Pl) (R : List Int) (h : check l = 0) (hr : ∀ r ∈ R, isNodeB r = true) (p : Pl) (hp : p ∈ l) (hu : (viewK l R).any (fun q => q.1 == p.2.1) = true ∨ hasB p.2.1 R = true) : p ∈ viewK l R := by
  have hk : knB l R p.2.1 = true := by
    rcases hu with hu | hu
    · rw [List.any_eq_true] at hu
      obtain ⟨q, hq, e⟩ := hu
      have e' : q.1 = p.2.1 := by simpa using e
      rw [← e']
      exact (List.mem_filter.1 hq).2
    · have hm : p.2.1 ∈ R := by simpa [hasB] using hu
      exact root_known l R h _ (hr _ hm) hm
  exact List.mem_filter.2 ⟨hp, view_kids l R h hr p hp hk⟩
end Orangery

/- Plain facts on deltas, as the reference reckons them: by tables. -/
namespace Orangery

/-- what goes, what is here: by tables, up to a node -/
def goneR (a b : List Pl) (k : Nat) : List Int := (List.range k).flatMap fun (n : Nat) => if 0 < n ∧ tabAt a n ≠ tabAt b n ∧ (tabAt b n).2.1 < 0 then [(n : Int)] else []
def hereR (a b : List Pl) (k : Nat) : List Pl := (List.range k).flatMap fun (n : Nat) => if 0 < n ∧ tabAt a n ≠ tabAt b n ∧ ¬ (tabAt b n).2.1 < 0 then [tabAt b n] else []
theorem goneR_succ (a b : List Pl) (k : Nat) : goneR a b (k + 1) = goneR a b k ++ if 0 < k ∧ tabAt a k ≠ tabAt b k ∧ (tabAt b k).2.1 < 0 then [(k : Int)] else [] := by
  unfold goneR; rw [List.range_succ, List.flatMap_append]; simp
theorem hereR_succ (a b : List Pl) (k : Nat) : hereR a b (k + 1) = hereR a b k ++ if 0 < k ∧ tabAt a k ≠ tabAt b k ∧ ¬ (tabAt b k).2.1 < 0 then [tabAt b k] else [] := by
  unfold hereR; rw [List.range_succ, List.flatMap_append]; simp
theorem goneR_one (a b : List Pl) : goneR a b 1 = [] := rfl
theorem hereR_one (a b : List Pl) : hereR a b 1 = [] := rfl

theorem rows_map {β : Type} (l : List Pl) (hs : scan 0 l = 0) (f : Pl → Bool) (g : Pl → β) :
    (l.filter f).map g = (List.range 16).flatMap fun (n : Nat) => if 0 < n ∧ 0 ≤ (tabAt l n).2.1 ∧ f (tabAt l n) = true then [g (tabAt l n)] else [] := by
  have e := rows_all l hs
  conv => lhs; rw [← e]
  unfold rows
  rw [List.filter_flatMap, List.map_flatMap]
  congr 1
  funext n
  by_cases h1 : 0 < n ∧ 0 ≤ (tabAt l n).2.1
  · by_cases h2 : f (tabAt l n) = true
    · rw [if_pos h1, if_pos ⟨h1.1, h1.2, h2⟩]; simp [h2]
    · rw [if_pos h1, if_neg (fun h => h2 h.2.2)]; simp [h2]
  · rw [if_neg h1, if_neg (fun h => h1 ⟨h.1, h.2.1⟩)]; simp

theorem tab_parts (l : List Pl) (hs : scan 0 l = 0) (n : Int) : ((find l n).1 = 0 ∧ tabAt l n = (0, -1, 0)) ∨ ((find l n).1 = n ∧ n ≠ 0 ∧ tabAt l n = find l n ∧ 0 ≤ (find l n).2.1) := by
  by_cases h : (find l n).1 = 0
  · left
    exact ⟨h, by unfold tabAt; rw [if_pos h]⟩
  · right
    obtain ⟨h1, h2⟩ := find_mem l n h
    have := (inRangeB_iff _).1 (scan_range l 0 hs _ h1).1
    exact ⟨h2, by rw [← h2]; exact h, by unfold tabAt; rw [if_neg h], by omega⟩

theorem gone_tab (a b : List Pl) (ha : scan 0 a = 0) (hb : scan 0 b = 0) : goneR a b 16 = goneL a b := by
  unfold goneL
  rw [rows_map a ha]
  unfold goneR
  congr 1
  funext n
  rcases tab_parts a ha n with ⟨h1, h2⟩ | ⟨h1, h2, h3, h4⟩
  · rw [h2]
    rcases tab_parts b hb n with ⟨k1, k2⟩ | ⟨k1, k2, k3, k4⟩
    · rw [k2]; simp
    · rw [k3]
      rw [if_neg (fun h => by omega), if_neg (fun h => by simp at h)]
  · rw [h3]
    rcases tab_parts b hb n with ⟨k1, k2⟩ | ⟨k1, k2, k3, k4⟩
    · rw [k2]
      have hne : find a n ≠ (0, -1, 0) := fun e => by rw [e] at h4; simp at h4
      have hn : 0 < n := by omega
      have e : (find b (find a n).1).1 = 0 := by rw [h1]; exact k1
      rw [if_pos ⟨hn, hne, by simp⟩, if_pos ⟨hn, h4, by simp [e]⟩, h1]
    · rw [k3, if_neg (fun h => by omega)]
      have e : (find b (find a n).1).1 ≠ 0 := by rw [h1, k1]; exact k2
      rw [if_neg (fun h => by simp [e] at h)]

theorem here_tab (a b : List Pl) (ha : scan 0 a = 0) (hb : scan 0 b = 0) : hereR a b 16 = hereL a b := by
  have e : hereL a b = (b.filter fun p => decide (find a p.1 ≠ p)).map id := by unfold hereL; simp
  rw [e, rows_map b hb]
  unfold hereR
  congr 1
  funext n
  rcases tab_parts b hb n with ⟨k1, k2⟩ | ⟨k1, k2, k3, k4⟩
  · rw [k2, if_neg (fun h => h.2.2 (by simp)), if_neg (fun h => by simp at h)]
  · rw [k3]
    have hn : 0 < n := by omega
    have hd : (decide (find a (find b n).1 ≠ find b n) = true) ↔ find a n ≠ find b n := by rw [k1]; simp
    have ht : tabAt a n ≠ find b n ↔ find a n ≠ find b n := by
      rcases tab_parts a ha n with ⟨h1, h2⟩ | ⟨h1, h2, h3, h4⟩
      · rw [h2]
        constructor
        · intro _ e; rw [e, k1] at h1; exact k2 h1
        · intro _ e; rw [← e] at k4; simp at k4
      · rw [h3]
    by_cases hq : find a n = find b n
    · rw [if_neg (fun h => (ht.1 h.2.1) hq), if_neg (fun h => (hd.1 h.2.2) hq)]
    · rw [if_pos ⟨hn, ht.2 hq, by omega⟩, if_pos ⟨hn, k4, hd.2 hq⟩]
      rfl

/-- may half of a delta be? -/
def goneE : Int → List Int → Int
  | _, [] => 0
  | a, n :: l => if ¬ (1 ≤ n ∧ n ≤ 15) then 5 else if n ≤ a then 6 else goneE n l
def hereE (gone : List Int) : Int → List Pl → Int
  | _, [] => 0
  | a, p :: l => if inRangeB p = false then 3 else if p.1 ≤ a ∨ hasB p.1 gone = true then 6 else hereE gone p.1 l
def halfE (gone : List Int) (here : List Pl) : Int :=
  if 16 < gone.length ∨ 16 < here.length then 2 else if goneE 0 gone ≠ 0 then goneE 0 gone else hereE gone 0 here
def deltaE (G : List Int) (H : List Pl) (WG : List Int) (WH : List Pl) : Int := if halfE G H ≠ 0 then halfE G H else halfE WG WH

theorem goneE_step (l : List Int) (k : Nat) (a : Int) (h : k < l.length) (hs : goneE a (l.drop k) = goneE 0 l) :
    (¬ (1 ≤ l[k] ∧ l[k] ≤ 15) → goneE 0 l = 5) ∧ (1 ≤ l[k] ∧ l[k] ≤ 15 → l[k] ≤ a → goneE 0 l = 6) ∧ (1 ≤ l[k] ∧ l[k] ≤ 15 → ¬ l[k] ≤ a → goneE l[k] (l.drop (k + 1)) = goneE 0 l) := by
  rw [List.drop_eq_getElem_cons h] at hs
  have e : goneE a (l[k] :: l.drop (k + 1)) = if ¬ (1 ≤ l[k] ∧ l[k] ≤ 15) then 5 else if l[k] ≤ a then 6 else goneE l[k] (l.drop (k + 1)) := rfl
  rw [e] at hs
  refine ⟨fun h1 => ?_, fun h1 h2 => ?_, fun h1 h2 => ?_⟩
  · rw [if_pos h1] at hs; exact hs.symm
  · rw [if_neg (fun h => h h1), if_pos h2] at hs; exact hs.symm
  · rw [if_neg (fun h => h h1), if_neg h2] at hs; exact hs
theorem hereE_step (gone : List Int) (l : List Pl) (k : Nat) (a : Int) (h : k < l.length) (hs : hereE gone a (l.drop k) = hereE gone 0 l) :
    (inRangeB l[k] = false → hereE gone 0 l = 3) ∧ (inRangeB l[k] = true → l[k].1 ≤ a ∨ hasB l[k].1 gone = true → hereE gone 0 l = 6) ∧ (inRangeB l[k] = true → ¬ l[k].1 ≤ a → hasB l[k].1 gone = false → hereE gone l[k].1 (l.drop (k + 1)) = hereE gone 0 l) := by
  rw [List.drop_eq_getElem_cons h] at hs
  have e : hereE gone a (l[k] :: l.drop (k + 1)) = if inRangeB l[k] = false then 3 else if l[k].1 ≤ a ∨ hasB l[k].1 gone = true then 6 else hereE gone l[k].1 (l.drop (k + 1)) := rfl
  rw [e] at hs
  refine ⟨fun h1 => ?_, fun h1 h2 => ?_, fun h1 h2 h3 => ?_⟩
  · rw [if_pos h1] at hs; exact hs.symm
  · rw [if_neg (by simp [h1]), if_pos h2] at hs; exact hs.symm
  · rw [if_neg (by simp [h1]), if_neg (fun hh => by rcases hh with hh | hh; exact h2 hh; rw [h3] at hh; simp at hh)] at hs; exact hs

theorem goneE_iff (l : List Int) : ∀ a, goneE a l = 0 ↔ (∀ n ∈ l, (1 ≤ n ∧ n ≤ 15) ∧ a < n) ∧ l.Pairwise (· < ·) := by
  induction l with
  | nil => intro a; simp [goneE]
  | cons n l ih =>
    intro a
    have e : goneE a (n :: l) = if ¬ (1 ≤ n ∧ n ≤ 15) then 5 else if n ≤ a then 6 else goneE n l := rfl
    rw [e, List.pairwise_cons]
    by_cases h1 : 1 ≤ n ∧ n ≤ 15
    · rw [if_neg (fun h => h h1)]
      by_cases h2 : n ≤ a
      · rw [if_pos h2]
        constructor
        · intro h; omega
        · rintro ⟨h, _⟩; have := (h n (by simp)).2; omega
      · rw [if_neg h2, ih n]
        constructor
        · rintro ⟨h3, h4⟩
          refine ⟨fun m hm => ?_, fun m hm => (h3 m hm).2, h4⟩
          rcases List.mem_cons.1 hm with rfl | hm
          · exact ⟨h1, by omega⟩
          · exact ⟨(h3 m hm).1, by have := (h3 m hm).2; omega⟩
        · rintro ⟨h3, h4, h5⟩
          exact ⟨fun m hm => ⟨(h3 m (by simp [hm])).1, h4 m hm⟩, h5⟩
    · rw [if_pos h1]
      constructor
      · intro h; omega
      · rintro ⟨h, _⟩; exact absurd (h n (by simp)).1 h1
theorem hereE_iff (gone : List Int) (l : List Pl) : ∀ a, hereE gone a l = 0 ↔ scan a l = 0 ∧ ∀ p ∈ l, hasB p.1 gone = false := by
  induction l with
  | nil => intro a; simp [hereE, scan]
  | cons p l ih =>
    intro a
    have e : hereE gone a (p :: l) = if inRangeB p = false then 3 else if p.1 ≤ a ∨ hasB p.1 gone = true then 6 else hereE gone p.1 l := rfl
    rw [e, scan_iff]
    by_cases h1 : inRangeB p = false
    · rw [if_pos h1]
      constructor
      · intro h; omega
      · rintro ⟨⟨h, _⟩, _⟩; have := (h p (by simp)).1; rw [h1] at this; simp at this
    · have h1' : inRangeB p = true := by simpa using h1
      rw [if_neg h1]
      by_cases h2 : p.1 ≤ a ∨ hasB p.1 gone = true
      · rw [if_pos h2]
        constructor
        · intro h; omega
        · rintro ⟨⟨h, _⟩, hg⟩
          rcases h2 with h2 | h2
          · have := (h p (by simp)).2; omega
          · have := hg p (by simp); rw [h2] at this; simp at this
      · rw [if_neg h2, ih, scan_iff]
        have h3 : ¬ p.1 ≤ a := fun h => h2 (Or.inl h)
        have h4 : hasB p.1 gone = false := by cases hh : hasB p.1 gone; rfl; exact absurd (Or.inr hh) h2
        constructor
        · rintro ⟨⟨k1, k2⟩, k3⟩
          refine ⟨⟨fun q hq => ?_, List.pairwise_cons.2 ⟨fun q hq => (k1 q hq).2, k2⟩⟩, fun q hq => ?_⟩
          · rcases List.mem_cons.1 hq with rfl | hq
            · exact ⟨h1', by omega⟩
            · exact ⟨(k1 q hq).1, by have := (k1 q hq).2; omega⟩
          · rcases List.mem_cons.1 hq with rfl | hq
            · exact h4
            · exact k3 q hq
        · rintro ⟨⟨k1, k2⟩, k3⟩
          have k2' := List.pairwise_cons.1 k2
          exact ⟨⟨fun q hq => ⟨(k1 q (by simp [hq])).1, k2'.1 q hq⟩, k2'.2⟩, fun q hq => k3 q (by simp [hq])⟩

/-- the reference's way to apply: a table turned -/
def turnG (l : List Pl) (gone : List Int) (n : Int) : Pl := if hasB n gone = true then ((tabAt l n).1, -1, (tabAt l n).2.2) else tabAt l n
def turnT (l : List Pl) (gone : List Int) (here : List Pl) (n : Int) : Pl := here.foldl (fun t p => if p.1 = n then p else t) (turnG l gone n)

theorem rows_same (t u : Nat → Pl) (k : Nat) (h : ∀ n, n < k → 0 < n → (0 ≤ (t n).2.1 ↔ 0 ≤ (u n).2.1) ∧ (0 ≤ (t n).2.1 → t n = u n)) : rows t k = rows u k := by
  induction k with
  | zero => rfl
  | succ k ih =>
    rw [rows_succ, rows_succ, ih (fun n hn => h n (by omega))]
    congr 1
    by_cases h0 : 0 < k
    · obtain ⟨h1, h2⟩ := h k (by omega) h0
      by_cases h3 : 0 ≤ (t k).2.1
      · rw [if_pos ⟨h0, h3⟩, if_pos ⟨h0, h1.1 h3⟩, h2 h3]
      · rw [if_neg (fun h => h3 h.2), if_neg (fun h => h3 (h1.2 h.2))]
    · rw [if_neg (fun h => h0 h.1), if_neg (fun h => h0 h.1)]

theorem turn_rows (l : List Pl) (gone : List Int) (here : List Pl) (hl : scan 0 l = 0) (hh : scan 0 here = 0) : rows (fun n => turnT l gone here n) 16 = appL l gone here := by
  obtain ⟨h1, h2⟩ := (scan0_iff here).1 hh
  have hz : ∀ p ∈ here, p.1 ≠ 0 := fun p hp => node_pos hh p hp
  rw [← rows_all (appL l gone here) (scan_app l gone here hl hh)]
  apply rows_same
  intro n _ hn
  have e : turnT l gone here n = if (find here (n : Int)).1 = 0 then turnG l gone n else find here n := foldl_at here n h2 hz _
  have e2 := find_app l gone here h2 hz (n : Int)
  rw [e]
  rcases tab_parts here hh n with ⟨k1, _⟩ | ⟨k1, k2, _, k4⟩
  · rw [if_pos k1]
    rw [if_pos k1] at e2
    unfold turnG
    cases hg : hasB (n : Int) gone
    · rw [hg] at e2
      simp only [Bool.false_eq_true, if_false] at e2 ⊢
      have : tabAt (appL l gone here) n = tabAt l n := by unfold tabAt; rw [e2]
      rw [this]
      exact ⟨Iff.rfl, fun _ => rfl⟩
    · rw [hg] at e2
      simp only [if_true] at e2 ⊢
      have : tabAt (appL l gone here) n = (0, -1, 0) := by unfold tabAt; rw [e2]; rfl
      rw [this]
      exact ⟨by simp, fun h => by simp at h⟩
  · have k5 : ¬ (find here (n : Int)).1 = 0 := by rw [k1]; exact k2
    rw [if_neg k5]
    rw [if_neg k5] at e2
    have : tabAt (appL l gone here) n = find here n := by unfold tabAt; rw [e2, if_neg k5]
    rw [this]
    exact ⟨Iff.rfl, fun _ => rfl⟩

/-- what changes between two views may be -/
theorem half_ok (a b : List Pl) (ha : scan 0 a = 0) (hb : scan 0 b = 0) : halfE (goneL a b) (hereL a b) = 0 := by
  obtain ⟨a1, a2⟩ := (scan0_iff a).1 ha
  have hla : a.length ≤ 15 := by have := scan_len a 0 ha (by omega); omega
  have hlb : b.length ≤ 15 := by have := scan_len b 0 hb (by omega); omega
  have g1 : (goneL a b).length ≤ 15 := by unfold goneL; rw [List.length_map]; exact Nat.le_trans (List.length_filter_le _ _) hla
  have g2 : (hereL a b).length ≤ 15 := Nat.le_trans (List.length_filter_le _ _) hlb
  have g3 : goneE 0 (goneL a b) = 0 := by
    rw [goneE_iff]
    constructor
    · intro n hn
      unfold goneL at hn
      simp only [List.mem_map, List.mem_filter] at hn
      obtain ⟨p, ⟨hp, _⟩, rfl⟩ := hn
      have := (inRangeB_iff p).1 (a1 p hp)
      omega
    · unfold goneL
      rw [List.pairwise_map]
      exact a2.filter _
  have g4 : hereE (goneL a b) 0 (hereL a b) = 0 := by
    rw [hereE_iff]
    refine ⟨scan_filter b _ hb, fun p hp => ?_⟩
    cases hq : hasB p.1 (goneL a b)
    · rfl
    · have h1 := (gone_iff a b ha p.1).1 hq
      have h2 := (List.mem_filter.1 hp).1
      rw [find_of_mem (scan_sorted b 0 hb) p h2] at h1
      exact absurd h1.2 (node_pos hb p h2)
  unfold halfE
  rw [if_neg (by omega), if_neg (by simp [g3])]
  exact g4
end Orangery

/- Plain facts on deltas, as the program reckons them; and what is answered of views and deltas. -/
namespace Orangery

/-- is a place of this node among them? -/
def hasN (l : List Pl) (n : Int) : Bool := l.any fun p => p.1 == n
def goneP (a b : List Pl) : List Int := (a.filter fun p => !hasN b p.1).map (·.1)
def hereP (a b : List Pl) : List Pl := b.filter fun p => !decide (p ∈ a)

theorem filter_take (f : Pl → Bool) (l : List Pl) (k : Nat) (h : k < l.length) : (l.take (k + 1)).filter f = (l.take k).filter f ++ if f l[k] = true then [l[k]] else [] := by
  rw [List.take_succ_eq_append_getElem h, List.filter_append]
  congr 1
  by_cases hf : f l[k] = true
  · rw [if_pos hf]; simp [hf]
  · rw [if_neg hf]; simp [hf]
theorem goneP_take (b a : List Pl) (k : Nat) (h : k < a.length) : goneP (a.take (k + 1)) b = goneP (a.take k) b ++ if hasN b a[k].1 = true then [] else [a[k].1] := by
  unfold goneP
  rw [filter_take _ a k h, List.map_append]
  congr 1
  cases hasN b a[k].1 <;> simp
theorem hereP_take (a b : List Pl) (k : Nat) (h : k < b.length) : hereP a (b.take (k + 1)) = hereP a (b.take k) ++ if decide (b[k] ∈ a) = true then [] else [b[k]] := by
  unfold hereP
  rw [filter_take _ b k h]
  congr 1
  cases decide (b[k] ∈ a) <;> simp

theorem hasN_iff (l : List Pl) (hl : scan 0 l = 0) (n : Int) : hasN l n = true ↔ (find l n).1 ≠ 0 := by
  unfold hasN
  rw [List.any_eq_true]
  constructor
  · rintro ⟨p, hp, e⟩
    have e : p.1 = n := by simpa using e
    have := find_of_mem (scan_sorted l 0 hl) p hp
    rw [e] at this
    rw [this]
    exact node_pos hl p hp
  · intro h
    obtain ⟨h1, h2⟩ := find_mem l n h
    exact ⟨_, h1, by simpa using h2⟩
theorem gone_same (a b : List Pl) (hb : scan 0 b = 0) : goneP a b = goneL a b := by
  unfold goneP goneL
  congr 1
  apply List.filter_congr
  intro p _
  have := hasN_iff b hb p.1
  by_cases h : (find b p.1).1 = 0
  · have h2 : ¬ hasN b p.1 = true := fun e => (this.1 e) h
    simp [h, h2]
  · have h2 := this.2 h
    simp [h, h2]
theorem here_same (a b : List Pl) (ha : scan 0 a = 0) (hb : scan 0 b = 0) : hereP a b = hereL a b := by
  unfold hereP hereL
  apply List.filter_congr
  intro p hp
  by_cases h : p ∈ a
  · have := find_of_mem (scan_sorted a 0 ha) p h
    simp [h, this]
  · have : find a p.1 ≠ p := by
      intro e
      have hz : (find a p.1).1 ≠ 0 := by rw [e]; exact node_pos hb p hp
      have := (find_mem a p.1 hz).1
      rw [e] at this
      exact h this
    simp [h, this]

/-- the program's way: take out what goes and what is here, put what is here behind it, sort -/
theorem app_unique (l : List Pl) (gone : List Int) (here l' : List Pl) (hl : scan 0 l = 0) (hh : scan 0 here = 0)
    (hp : l'.Perm ((l.filter fun p => !(hasB p.1 gone || hasN here p.1)) ++ here)) (hs : l'.Pairwise fun p q => p.1 ≤ q.1) : l' = appL l gone here := by
  have hK : scan 0 (l.filter fun p => !hasB p.1 gone) = 0 := scan_filter l _ hl
  refine tog_unique (l.filter fun p => !hasB p.1 gone) here l' hK hh ?_ hs
  have e : ((l.filter fun p => !hasB p.1 gone).filter fun p => !inPl here p.1) = l.filter fun p => !(hasB p.1 gone || hasN here p.1) := by
    rw [List.filter_filter]
    apply List.filter_congr
    intro p hp
    have h1 := inPl_iff (W := here) p.1 (node_pos hl p hp)
    have h2 := hasN_iff here hh p.1
    have : inPl here p.1 = hasN here p.1 := by rw [Bool.eq_iff_iff, h1, h2]
    rw [this]
    cases hasB p.1 gone <;> simp
  rw [e]
  exact hp

theorem check_one (p : Pl) : check [p] = 3 ↔ inRangeB p = false := by
  have e : scan 0 [p] = if inRangeB p = false then 3 else if p.1 ≤ 0 then 6 else 0 := rfl
  by_cases h : inRangeB p = false
  · have e2 : scan 0 [p] = 3 := by rw [e, if_pos h]
    unfold check
    rw [e2]
    simp [h]
  · have h1 : inRangeB p = true := by simpa using h
    have := (inRangeB_iff p).1 h1
    have e2 : scan 0 [p] = 0 := by rw [e, if_neg h, if_neg (show ¬ p.1 ≤ 0 by omega)]
    unfold check
    rw [e2]
    constructor
    · intro e; split at e
      · omega
      · split at e <;> omega
    · intro e; exact absurd e h

theorem half_or (gone : List Int) (here : List Pl) (h : ¬ (16 < gone.length ∨ 16 < here.length)) : halfE gone here = orI (goneE 0 gone) (hereE gone 0 here) := by
  unfold halfE orI
  rw [if_neg h]
theorem delta_or (G : List Int) (H : List Pl) (WG : List Int) (WH : List Pl) : deltaE G H WG WH = orI (halfE G H) (halfE WG WH) := rfl
theorem orI_zero {x y : Int} (h : orI x y = 0) : x = 0 ∧ y = 0 := by
  unfold orI at h
  split at h
  · rename_i h1; exact absurd h h1
  · rename_i h1; exact ⟨by simpa using h1, h⟩
theorem half_zero {gone : List Int} {here : List Pl} (h : halfE gone here = 0) : gone.length ≤ 16 ∧ here.length ≤ 16 ∧ goneE 0 gone = 0 ∧ scan 0 here = 0 := by
  unfold halfE at h
  split at h
  · omega
  · rename_i h1
    obtain ⟨h2, h3⟩ := orI_zero (x := goneE 0 gone) (y := hereE gone 0 here) h
    exact ⟨by omega, by omega, h2, ((hereE_iff gone here 0).1 h3).1⟩
theorem gone_range {gone : List Int} (h : goneE 0 gone = 0) : ∀ n ∈ gone, 1 ≤ n ∧ n ≤ 15 := fun n hn => (((goneE_iff gone 0).1 h).1 n hn).1

theorem view_parts {R : List Int} {K V : List Pl} (h : viewE R K V = 0) : rootsOk R = 0 ∧ check K = 0 ∧ check V = 0 := by
  unfold viewE at h
  split at h
  · rename_i h1; exact absurd h h1
  · rename_i h1
    split at h
    · rename_i h2; exact absurd h h2
    · rename_i h2
      split at h
      · rename_i h3; exact absurd h h3
      · rename_i h3
        exact ⟨by simpa using h1, by simpa using h2, by simpa using h3⟩
theorem view_scan {R : List Int} {K V : List Pl} (h : viewE R K V = 0) : scan 0 K = 0 ∧ scan 0 V = 0 := ⟨check_scan K (view_parts h).2.1, check_scan V (view_parts h).2.2⟩
theorem scan_small {l : List Pl} (h : scan 0 l = 0) : l.length ≤ 15 := by have := scan_len l 0 h (by omega); omega

/-- what delta.Of answers -/
def dfE (R : List Int) (K V : List Pl) (R' : List Int) (K' V' : List Pl) : Int :=
  if orI (viewE R K V) (viewE R' K' V') ≠ 0 then orI (viewE R K V) (viewE R' K' V') else if R = R' then 0 else 4
def dfG (E : Int) (a b : List Pl) : List Int := if E ≠ 0 then [] else goneL a b
def dfH (E : Int) (a b : List Pl) : List Pl := if E ≠ 0 then [] else hereL a b
theorem df_ok {E : Int} (a b : List Pl) (h : E = 0) : dfG E a b = goneL a b ∧ dfH E a b = hereL a b := by unfold dfG dfH; rw [if_neg (by simp [h]), if_neg (by simp [h])]; exact ⟨rfl, rfl⟩
theorem df_bad {E : Int} (a b : List Pl) (h : E ≠ 0) : dfG E a b = [] ∧ dfH E a b = [] := by unfold dfG dfH; rw [if_pos h, if_pos h]; exact ⟨rfl, rfl⟩
theorem df_zero {R : List Int} {K V : List Pl} {R' : List Int} {K' V' : List Pl} (h : dfE R K V R' K' V' = 0) : viewE R K V = 0 ∧ viewE R' K' V' = 0 ∧ R = R' := by
  unfold dfE at h
  split at h
  · rename_i h1; exact absurd h h1
  · rename_i h1
    obtain ⟨h2, h3⟩ := orI_zero (by simpa using h1)
    split at h
    · rename_i h4; exact ⟨h2, h3, h4⟩
    · omega

/-- what delta.Apply answers -/
def apE (R : List Int) (K V : List Pl) (G : List Int) (H : List Pl) (WG : List Int) (WH : List Pl) : Int :=
  if orI (viewE R K V) (deltaE G H WG WH) ≠ 0 then orI (viewE R K V) (deltaE G H WG WH) else viewE R (appL K G H) (appL V WG WH)
def apR (E : Int) (R : List Int) : List Int := if E ≠ 0 then [] else R
def apL (E : Int) (l : List Pl) (G : List Int) (H : List Pl) : List Pl := if E ≠ 0 then [] else appL l G H
theorem ap_ok {E : Int} (h : E = 0) (R : List Int) : apR E R = R := by unfold apR; rw [if_neg (by simp [h])]
theorem ap_bad {E : Int} (h : E ≠ 0) (R : List Int) : apR E R = [] := by unfold apR; rw [if_pos h]
theorem al_ok {E : Int} (h : E = 0) (l : List Pl) (G : List Int) (H : List Pl) : apL E l G H = appL l G H := by unfold apL; rw [if_neg (by simp [h])]
theorem al_bad {E : Int} (h : E ≠ 0) (l : List Pl) (G : List Int) (H : List Pl) : apL E l G H = [] := by unfold apL; rw [if_pos h]

def sameD (G G' : List Int) (H H' : List Pl) (X X' : List Int) (Y Y' : List Pl) : Bool := decide (G = G') && decide (H = H') && decide (X = X') && decide (Y = Y')
theorem sameD_self (G : List Int) (H : List Pl) (X : List Int) (Y : List Pl) : sameD G G H H X X Y Y = true := by simp [sameD]

/-- P5.4 -/
theorem made_of {R : List Int} {K V K' V' : List Pl} (h1 : viewE R K V = 0) (h2 : viewE R K' V' = 0) :
    dfE R K V R K' V' = 0 ∧ deltaE (goneL K K') (hereL K K') (goneL V V') (hereL V V') = 0 ∧ apE R K V (goneL K K') (hereL K K') (goneL V V') (hereL V V') = 0 ∧ appL K (goneL K K') (hereL K K') = K' ∧ appL V (goneL V V') (hereL V V') = V' := by
  obtain ⟨a1, a2⟩ := view_scan h1
  obtain ⟨b1, b2⟩ := view_scan h2
  have e1 := half_ok K K' a1 b1
  have e2 := half_ok V V' a2 b2
  have e3 : deltaE (goneL K K') (hereL K K') (goneL V V') (hereL V V') = 0 := by rw [delta_or, e1, e2]; rfl
  have m1 := delta_makes K K' a1 b1
  have m2 := delta_makes V V' a2 b2
  refine ⟨?_, e3, ?_, m1, m2⟩
  · unfold dfE
    rw [h1, h2, if_neg (by simp [orI]), if_pos rfl]
  · unfold apE
    rw [h1, e3, if_neg (by simp [orI]), m1, m2, h2]
theorem made_none {R : List Int} {K V : List Pl} (h : viewE R K V = 0) : goneL K K = [] ∧ hereL K K = [] ∧ goneL V V = [] ∧ hereL V V = [] := by
  obtain ⟨a1, a2⟩ := view_scan h
  exact ⟨(delta_none K a1).1, (delta_none K a1).2, (delta_none V a2).1, (delta_none V a2).2⟩
end Orangery

/- delta.has, delta.inRange, delta.checkGone, delta.partsOf, delta.changesOf. -/
namespace Go.Proofs.YtkjgoikcibgonacGreat
open Go.ChangeShapes Go.WideShapes Go.ChangeAt Go.RowKit
open Orangery (Pl hasN check inRangeB goneE prevI)

theorem has1_any (w : World) (p : Pl) (n : Int) (b : Nat) (hb : b < w.heap.size) (hc : w.cell? ⟨b, 0, none⟩ = some (.int .i64 n)) :
    Calls Tryz.prog 67 #[plV p, .pointer (some ⟨b, 0, none⟩)] w fun e w' => e = .returned (.bool (p.1 == n)) ∧ Below w.heap.size w w' := by
  go_enter Tryz.func67, Tryz.ntmps67
  have hne : ¬ w.heap.size = b := by omega
  go_wp2
  go_ret
  exact ⟨rfl, Go.Joins.below_alloc1 w _⟩

theorem has_any (w : World) (a : Option Addr) (c : Nat) (l : List Pl) (n : Int) (hl : l.length ≤ maxLen) (h : SlP w a l) :
    Calls Tryz.prog 38 #[.slice a l.length c, .int .i64 n] w fun e w' => e = .returned (.bool (hasN l n)) ∧ Below w.heap.size w w' := by
  obtain ⟨W0, hW, hN, hB, hS⟩ := laid1 w [Value.int IntKind.i64 n] 3
  go_enter Tryz.func38, Tryz.ntmps38
  go_wp2_with fail
  clear hW
  refine (containsFuncP_any W0 a c l 67 (.pointer (some ⟨w.heap.size, 0, none⟩)) (fun p => p.1 == n) hl (h.below hB) (Go.Proofs.enters_of Tryz.func67 (by kernel_rfl) rfl) ?_).mono ?_
  · intro W p hb
    exact has1_any W p n w.heap.size (hN.keep hb).lt ((hN.keep hb).at 0 rfl)
  rintro e w1 ⟨rfl, hb1⟩
  have hb2 : Below w.heap.size w w1 := hB.trans (hb1.mono hB.size)
  clear hN
  go_wp2
  go_ret
  exact ⟨rfl, hb2⟩

theorem pls1 {w : World} {b : Nat} {p : Pl} (h : Blk w b [.int .i64 p.1, .int .i64 p.2.1, .int .i64 p.2.2]) : SlP w (some ⟨b, 0, none⟩) [p] :=
  Or.inr ⟨b, 0, rfl, h.lt, fun i hi => by
    have : i = 0 := by simp at hi; exact hi
    subst this
    exact ⟨h.at 0 rfl, h.at 1 rfl, h.at 2 rfl⟩⟩

set_option maxHeartbeats 1000000 in
theorem inRangeD_any (w : World) (p : Pl) :
    Calls Tryz.prog 87 #[plV p] w fun e w' => e = .returned (.bool (inRangeB p)) ∧ Below w.heap.size w w' := by
  obtain ⟨p0, p1, p2⟩ := p
  obtain ⟨W0, hW, _, hN, hB, hS⟩ := laid2 w [Value.int IntKind.i64 p0, Value.int IntKind.i64 p1, Value.int IntKind.i64 p2] 55 [Value.int IntKind.i64 p0, Value.int IntKind.i64 p1, Value.int IntKind.i64 p2] 55
  have HP : Hid (SlP W0 (some ⟨w.heap.size + 1, 0, none⟩) [(p0, p1, p2)]) := pls1 (p := (p0, p1, p2)) hN
  have HB : Hid (Below w.heap.size w W0) := hB
  clear hN hB hS
  go_enter Tryz.func87, Tryz.ntmps87
  go_wp2_with fail
  clear hW
  refine (check_any W0 (some ⟨w.heap.size + 1, 0, none⟩) 1 [(p0, p1, p2)] (by unfold maxLen; simp) HP.out).mono ?_
  rintro e w1 ⟨rfl, hb1⟩
  have HB1 : Hid (Below w.heap.size w w1) := HB.out.trans (hb1.mono HB.out.size)
  have hq := Orangery.check_one (p0, p1, p2)
  generalize check [(p0, p1, p2)] = E at *
  clear hb1
  cases hr : inRangeB (p0, p1, p2)
  · have hE : E = 3 := hq.2 hr
    subst hE
    clear hq
    go_wp2
    go_ret
    exact ⟨ret_bool hr.symm, HB1.out⟩
  · have hE : (E != 3) = true := by
      have : ¬ E = 3 := fun h => by have := hq.1 h; rw [hr] at this; simp at this
      simpa using this
    clear hq
    go_wp2
    go_ret
    exact ⟨ret_bool hr.symm, HB1.out⟩

set_option maxHeartbeats 1000000 in
theorem checkGone_any (w : World) (a : Option Addr) (c : Nat) (l : List Int) (hl : l.length ≤ maxLen) (h : SlI w a l) :
    Calls Tryz.prog 57 #[.slice a l.length c] w fun e w' => e = .returned (.int .i64 (goneE 0 l)) ∧ w' = w := by
  have hl' : l.length ≤ 9223372036854775807 := hl
  go_enter Tryz.func57, Tryz.ntmps57
  go_wp2
  go_loop [7] (fun i => ∃ (k : Nat) (m : Int), k ≤ l.length ∧ i = .int .i64 k ∧ goneE m (l.drop k) = goneE 0 l ∧ (k = 0 → m = 0) ∧ (∀ j, (hj : j < l.length) → k = j + 1 → m = l[j])) (fun i => l.length - (intOf i).toNat)
  case atStart => exact ⟨0, 0, Nat.zero_le _, rfl, rfl, fun _ => rfl, fun j _ e => by omega⟩
  case round =>
    obtain ⟨k, m, hk, rfl, hf, hm0, hm1⟩ := hrel
    by_cases hlt : k < l.length
    · obtain ⟨s1, s2, s3⟩ := Orangery.goneE_step l k _ hlt hf
      have H1 : Hid (¬ (1 ≤ l[k] ∧ l[k] ≤ 15) → goneE 0 l = 5) := s1
      have H2 : Hid (1 ≤ l[k] ∧ l[k] ≤ 15 → l[k] ≤ m → goneE 0 l = 6) := s2
      have H3 : Hid (1 ≤ l[k] ∧ l[k] ≤ 15 → ¬ l[k] ≤ m → goneE l[k] (l.drop (k + 1)) = goneE 0 l) := s3
      have HL : Hid (∀ j, (hj : j < l.length) → k = j → l[k] = l[j]) := fun j hj e => by subst e; rfl
      clear s1 s2 s3 hf
      obtain ⟨b, off, rfl, hbl, g0⟩ := h.at k hlt
      by_cases hn : 1 ≤ l[k] ∧ l[k] ≤ 15
      · cases k with
        | zero =>
          rw [Nat.add_zero] at g0
          obtain rfl : m = 0 := hm0 rfl
          have HF : Hid (goneE l[0] (l.drop (0 + 1)) = goneE 0 l) := H3.out hn (by omega)
          clear H1 H2 H3 hm0 hm1
          generalize l[0] = x at *
          have x1 : decide (x < 1) = false := by simp; omega
          have x2 : decide (x ≥ 16) = false := by simp; omega
          clear hn
          go_wp2
          go_round
          case rel => exact ⟨1, x, hlt, by go_num, HF.out, by omega, fun j hj e => HL.out j hj (by omega)⟩
          case measure => simp [intOf]; omega
        | succ j =>
          obtain ⟨b', off', e', _, g1⟩ := h.at j (by omega)
          obtain ⟨rfl, rfl⟩ : b = b' ∧ off = off' := by simpa using e'
          obtain rfl : m = l[j] := hm1 j (by omega) rfl
          clear hm0 hm1
          generalize l[j + 1] = x at *
          generalize l[j] = y at *
          have x1 : decide (x < 1) = false := by simp; omega
          have x2 : decide (x ≥ 16) = false := by simp; omega
          have x3 : decide (((j + 1 : Nat) : Int) > 0) = true := by simp <;> omega
          have x4 : ((j + 1 : Nat) : Int) - 1 = (j : Int) := by omega
          clear e'
          by_cases hq : x ≤ y
          · have HF : Hid (goneE 0 l = 6) := H2.out hn hq
            have x5 : decide (x ≤ y) = true := by simpa using hq
            clear H1 H2 H3 hn hq
            go_wp2
            go_ret
            exact ⟨ret_int (by rw [HF.out]), rfl⟩
          · have HF : Hid (goneE x (l.drop (j + 1 + 1)) = goneE 0 l) := H3.out hn hq
            have x5 : decide (x ≤ y) = false := by simpa using hq
            clear H1 H2 H3 hn hq
            go_wp2
            go_round
            case rel => exact ⟨j + 2, x, hlt, by go_num, HF.out, by omega, fun i hi e => HL.out i hi (by omega)⟩
            case measure => simp [intOf]; omega
      · have HF : Hid (goneE 0 l = 5) := H1.out hn
        clear H1 H2 H3 hm0 hm1 HL
        generalize l[k] = x at *
        by_cases h0 : x < 1
        · have x1 : decide (x < 1) = true := by simpa using h0
          clear h0 hn
          go_wp2
          go_ret
          exact ⟨ret_int (by rw [HF.out]), rfl⟩
        · have x1 : decide (x < 1) = false := by simpa using h0
          have x2 : decide (x ≥ 16) = true := by simp; omega
          clear h0 hn
          go_wp2
          go_ret
          exact ⟨ret_int (by rw [HF.out]), rfl⟩
    · have hk' : l.drop k = [] := by simp; omega
      rw [hk'] at hf
      have HF : Hid (goneE 0 l = 0) := hf.symm
      clear hf hk' hm0 hm1
      go_wp2
      go_ret
      exact ⟨ret_int (by rw [HF.out]), rfl⟩

theorem sizeDParts : (Tryz.prog.info? 42).map (·.size) = some 2 := by kernel_rfl
theorem sizeDChange : (Tryz.prog.info? 45).map (·.size) = some 2 := by kernel_rfl
theorem sizeDChanges : (Tryz.prog.info? 47).map (·.size) = some 4 := by kernel_rfl
theorem sizeDelta : (Tryz.prog.info? 27).map (·.size) = some 4 := by kernel_rfl

set_option maxHeartbeats 1000000 in
theorem partsOf_any (w : World) (x : Value) (aK aV : Option Addr) (nK nV cK cV : Nat) :
    Calls Tryz.prog 17 #[.agg #[x, .slice aK nK cK, .slice aV nV cV]] w fun e w' => e = .returned (.agg #[.slice aK nK cK, .slice aV nV cV]) ∧ Below w.heap.size w w' := by
  obtain ⟨W0, hW, hX, hN, hB, hS⟩ := laid2 w [x, Value.slice aK nK cK, Value.slice aV nV cV] 25 [Value.slice none 0 0, Value.slice none 0 0] 42
  have x1 := hX.at 1 rfl
  have x2 := hX.at 2 rfl
  have y0 := hN.at 0 rfl
  have y1 := hN.at 1 rfl
  have yf := hN.frz
  have HN : Hid (Blk (W0.setCells (w.heap.size + 1) 0 [Value.slice aK nK cK, Value.slice aV nV cV]) (w.heap.size + 1) [Value.slice aK nK cK, Value.slice aV nV cV]) := hN.sets _ rfl
  have HB : Hid (Below w.heap.size w (W0.setCells (w.heap.size + 1) 0 [Value.slice aK nK cK, Value.slice aV nV cV])) := below_sets hB _ (by omega) _ 0
  clear hX hN hB hS
  go_enter Tryz.func17, Tryz.ntmps17
  go_wp2
  exact ret_cell Tryz.results17 rfl (HN.out.load Tryz.underlying42 rfl sizeDParts) ⟨rfl, HB.out⟩

set_option maxHeartbeats 1000000 in
theorem changesOf_any (w : World) (aG aH aX aY : Option Addr) (nG nH nX nY cG cH cX cY : Nat) :
    Calls Tryz.prog 19 #[.agg #[.slice aG nG cG, .slice aH nH cH, .slice aX nX cX, .slice aY nY cY]] w fun e w' => e = .returned (.agg #[.slice aG nG cG, .slice aH nH cH, .slice aX nX cX, .slice aY nY cY]) ∧ Below w.heap.size w w' := by
  obtain ⟨W0, hW, hX, hN, hB, hS⟩ := laid2 w [Value.slice aG nG cG, Value.slice aH nH cH, Value.slice aX nX cX, Value.slice aY nY cY] 27 [Value.slice none 0 0, Value.slice none 0 0, Value.slice none 0 0, Value.slice none 0 0] 47
  have x0 := hX.at 0 rfl
  have x1 := hX.at 1 rfl
  have x2 := hX.at 2 rfl
  have x3 := hX.at 3 rfl
  have y0 := hN.at 0 rfl
  have y1 := hN.at 1 rfl
  have y2 := hN.at 2 rfl
  have y3 := hN.at 3 rfl
  have yf := hN.frz
  have HN : Hid (Blk (W0.setCells (w.heap.size + 1) 0 [Value.slice aG nG cG, Value.slice aH nH cH, Value.slice aX nX cX, Value.slice aY nY cY]) (w.heap.size + 1) [Value.slice aG nG cG, Value.slice aH nH cH, Value.slice aX nX cX, Value.slice aY nY cY]) := hN.sets _ rfl
  have HB : Hid (Below w.heap.size w (W0.setCells (w.heap.size + 1) 0 [Value.slice aG nG cG, Value.slice aH nH cH, Value.slice aX nX cX, Value.slice aY nY cY])) := below_sets hB _ (by omega) _ 0
  clear hX hN hB hS
  go_enter Tryz.func19, Tryz.ntmps19
  go_wp2
  exact ret_cell Tryz.results19 rfl (HN.out.load Tryz.underlying47 rfl sizeDChanges) ⟨rfl, HB.out⟩
end Go.Proofs.YtkjgoikcibgonacGreat

/- slices.Contains at ints. -/
namespace Go.Proofs.YtkjgoikcibgonacGreat
open Go.ChangeShapes Go.WideShapes Go.ChangeAt Go.RowKit
open Orangery (hasB)

theorem indexI_nil (w : World) (a : Option Addr) (c : Nat) (x : Int) :
    Calls Tryz.prog 70 #[.slice a 0 c, .int .i64 x] w fun e w' => e = .returned (.int .i64 (-1)) ∧ w' = w := by
  go_enter Tryz.func70, Tryz.ntmps70
  go_wp2
  go_loop [8] (fun i => i = .int .i64 0) (fun _ => 0)
  case atStart => rfl
  case round =>
    subst hrel
    go_wp2
    go_ret
    exact ⟨rfl, rfl⟩

theorem containsI_any (w : World) (a : Option Addr) (c : Nat) (x : Int) (l : List Int) (hl : l.length ≤ maxLen) (h : SlI w a l) :
    Calls Tryz.prog 43 #[.slice a l.length c, .int .i64 x] w fun e w' => e = .returned (.bool (hasB x l)) ∧ w' = w := by
  rcases h with rfl | ⟨b, off, rfl, _, hp⟩
  · go_enter Tryz.func43, Tryz.ntmps43
    go_wp2_with fail
    refine (indexI_nil w a c x).mono ?_
    rintro e w1 ⟨rfl, rfl⟩
    go_wp2
    go_ret
    exact ⟨rfl, rfl⟩
  · exact contains_ints w b off c l.length x l rfl hl hp
end Go.Proofs.YtkjgoikcibgonacGreat

/- cmp.Compare, cmp.Or at ints; tree.byName. -/
namespace Go.Proofs.YtkjgoikcibgonacGreat
open Go.ChangeShapes Go.WideShapes Go.ChangeAt Go.RowKit
open Orangery (Pl cmpI byN orI)

set_option maxHeartbeats 400000 in
theorem compare_any (w : World) (x y : Int) :
    Calls Tryz.prog 46 #[.int .i64 x, .int .i64 y] w fun e w' => e = .returned (.int .i64 (cmpI x y)) ∧ w' = w := by
  have hx : (x != x) = false := by simp
  have hy : (y != y) = false := by simp
  by_cases h1 : x < y
  · have e : cmpI x y = -1 := by simp [cmpI, h1]
    have HE : Hid (cmpI x y = -1) := e
    clear e
    go_enter Tryz.func46, Tryz.ntmps46
    go_wp2
    go_ret
    exact ⟨ret_int (by rw [HE.out]), rfl⟩
  · by_cases h2 : y < x
    · have e : cmpI x y = 1 := by simp [cmpI, h1, h2]
      have HE : Hid (cmpI x y = 1) := e
      clear e
      go_enter Tryz.func46, Tryz.ntmps46
      go_wp2
      go_ret
      exact ⟨ret_int (by rw [HE.out]), rfl⟩
    · have e : cmpI x y = 0 := by simp [cmpI, h1, h2]
      have HE : Hid (cmpI x y = 0) := e
      clear e
      go_enter Tryz.func46, Tryz.ntmps46
      go_wp2
      go_ret
      exact ⟨ret_int (by rw [HE.out]), rfl⟩

end Go.Proofs.YtkjgoikcibgonacGreat

/- cmp.Or at error numbers. -/
namespace Go.Proofs.YtkjgoikcibgonacGreat
open Go.ChangeShapes Go.WideShapes Go.ChangeAt Go.RowKit
open Orangery (orI)

set_option maxHeartbeats 400000 in
theorem orE_any (w : World) (b c : Nat) (x y : Int) (h0 : w.cell? ⟨b, 0, none⟩ = some (.int .i64 x)) (h1 : w.cell? ⟨b, 1, none⟩ = some (.int .i64 y)) :
    Calls Tryz.prog 14 #[.slice (some ⟨b, 0, none⟩) 2 c] w fun e w' => e = .returned (.int .i64 (orI x y)) ∧ w' = w := by
  go_enter Tryz.func14, Tryz.ntmps14
  go_wp2
  go_loop [8] (fun i => ∃ k : Nat, k ≤ 2 ∧ i = .int .i64 k ∧ (1 ≤ k → x = 0) ∧ (2 ≤ k → y = 0)) (fun i => 2 - (intOf i).toNat)
  case atStart => exact ⟨0, by omega, rfl, by omega, by omega⟩
  case round =>
    obtain ⟨k, hk, rfl, hx, hy⟩ := hrel
    have hc : k = 0 ∨ k = 1 ∨ k = 2 := by omega
    rcases hc with rfl | rfl | rfl
    · clear hx hy
      by_cases hx : x = 0
      · have hx' : (x != 0) = false := by simp [hx]
        have HX : Hid (x = 0) := hx
        clear hx
        go_wp2
        go_round
        case rel => exact ⟨1, by omega, by go_num, fun _ => HX.out, by omega⟩
        case measure => simp [intOf]
      · have hx' : (x != 0) = true := by simp [hx]
        have HX : Hid (x ≠ 0) := hx
        clear hx
        go_wp2
        go_ret
        exact ⟨ret_int (by rw [orI, if_pos HX.out]), rfl⟩
    · have HX : Hid (x = 0) := hx (by omega)
      clear hx hy
      by_cases hy : y = 0
      · have hy' : (y != 0) = false := by simp [hy]
        have HY : Hid (y = 0) := hy
        clear hy
        go_wp2
        go_round
        case rel => exact ⟨2, by omega, by go_num, fun _ => HX.out, fun _ => HY.out⟩
        case measure => simp [intOf]
      · have hy' : (y != 0) = true := by simp [hy]
        clear hy
        go_wp2
        go_ret
        exact ⟨ret_int (by rw [orI, if_neg (by simp [HX.out])]), rfl⟩
    · have HX : Hid (x = 0) := hx (by omega)
      have HY : Hid (y = 0) := hy (by omega)
      clear hx hy
      go_wp2
      go_ret
      exact ⟨ret_int (by rw [orI, if_neg (by simp [HX.out]), HY.out]), rfl⟩

end Go.Proofs.YtkjgoikcibgonacGreat

/- Regions that draw their order, walked step by step: an operation that is not wanted is taken too. -/
namespace Go.Proofs.YtkjgoikcibgonacGreat
open Go.ChangeShapes Go.WideShapes Go.ChangeAt Go.RowKit

/-- a wanted operation is taken first -/
theorem take_yes {P : Program} {md : Region.Mode} {ops : Array Oper} {Q : Exit → Act → World → Prop} {S : World → Prop} (i : Nat) (d : Nat) {oi : Oper} {v : Value} {fuel : Nat} {listed : Array Bool} {a : Act} {w : World} (hi : ops[i]? = some oi) (hd : oi.dst = some d)
    (hs : Region.noSelect ops = true) (hf : Region.free md ops listed i = true) (hr : (Region.ready md ops listed).contains i = true)
    (hQ : ∀ c a w, Q (.panic c) (a.put oi.dst v) w → Q (.panic c) a w) (hw : Region.wanted oi (yielded ops a.tmps) = true) (hy : ∀ w, S w → (execOp a.eval oi).run P w = .ok (.value v) w) (hS : S w)
    (h : wpAnyH P md ops Q S fuel (listed.setIfInBounds i true) (a.put (some d) v) w) : wpAnyH P md ops Q S (fuel + 1) listed a w :=
  wpAnyH_take hi hs hf hr hQ (Or.inl ⟨hw, hy⟩) hS (by rw [hd]; exact h)

/-- an operation that is not wanted is passed by -/
theorem take_no {P : Program} {md : Region.Mode} {ops : Array Oper} {Q : Exit → Act → World → Prop} {S : World → Prop} (i : Nat) (d : Nat) {oi : Oper} {fuel : Nat} {listed : Array Bool} {a : Act} {w : World} (hi : ops[i]? = some oi) (hd : oi.dst = some d)
    (hs : Region.noSelect ops = true) (hf : Region.free md ops listed i = true) (hr : (Region.ready md ops listed).contains i = true)
    (hQ : ∀ c a w, Q (.panic c) (a.put oi.dst undef) w → Q (.panic c) a w) (hw : Region.wanted oi (yielded ops a.tmps) = false) (hS : S w)
    (h : wpAnyH P md ops Q S fuel (listed.setIfInBounds i true) (a.put (some d) undef) w) : wpAnyH P md ops Q S (fuel + 1) listed a w :=
  wpAnyH_take hi hs hf hr hQ (Or.inr ⟨hw, rfl⟩) hS (by rw [hd]; exact h)
/-- a load of a whole row or struct is taken first -/
theorem take_load {P : Program} {md : Region.Mode} {ops : Array Oper} {Q : Exit → Act → World → Prop} {S : World → Prop} (i : Nat) (d : Nat) {oi : Oper} (ty : TypeId) {x : Operand} (b : Nat) (cs : List Value) {dd : TypeDesc} {fuel : Nat} {listed : Array Bool} {a : Act} {w : World} (hi : ops[i]? = some oi) (hd : oi.dst = some d)
    (hs : Region.noSelect ops = true) (hf : Region.free md ops listed i = true) (hr : (Region.ready md ops listed).contains i = true)
    (hQ : ∀ c a w, Q (.panic c) (a.put oi.dst (.agg cs.toArray)) w → Q (.panic c) a w) (hw : Region.wanted oi (yielded ops a.tmps) = true)
    (ho : oi.op = .load ty x) (hx : a.eval x = .pointer (some ⟨b, 0, none⟩)) (hc : ∀ w, S w → w.rangeAt b 0 cs)
    (hu : P.underlying ty = some dd) (hdd : dd.isRow = true) (hz : (P.info? ty).map (·.size) = some cs.length) (hS : S w)
    (h : wpAnyH P md ops Q S fuel (listed.setIfInBounds i true) (a.put (some d) (.agg cs.toArray)) w) : wpAnyH P md ops Q S (fuel + 1) listed a w :=
  wpAnyH_take hi hs hf hr hQ (yieldsIf_load_mid hw ty x ho b 0 hx cs dd hc hu hdd hz) hS (by rw [hd]; exact h)
/-- a store of a whole row or struct, the only one that may come up -/
theorem step_store {P : Program} {md : Region.Mode} {ops : Array Oper} {Q : Exit → Act → World → Prop} {S : World → Prop} (i : Nat) {oi : Oper} (ty : TypeId) {x y : Operand} (b : Nat) (cs : List Value) {fuel : Nat} {listed : Array Bool} {a : Act} {w : World} (hr : Region.ready md ops listed = [i]) (hi : ops[i]? = some oi) (hd : oi.dst = none)
    (hw : Region.wanted oi (yielded ops a.tmps) = true) (ho : oi.op = .store ty x y) (hx : a.eval x = .pointer (some ⟨b, 0, none⟩)) (hy : a.eval y = .agg cs.toArray)
    (ht : w.there b 0 cs.length) (hz : (P.info? ty).map (·.size) = some cs.length) (h1 : ∀ v ∈ cs, v.oneCell' = true) (hS : S (w.setCells b 0 cs))
    (h : wpAnyH P md ops Q S fuel (listed.setIfInBounds i true) a (w.setCells b 0 cs)) : wpAnyH P md ops Q S (fuel + 1) listed a w := by
  refine wpAnyH_ready hr (by simp) (AllReadyH.cons hi (fun K hK => ?_) AllReadyH.nil)
  rw [if_pos hw]
  refine wp_store_mid ty x y ho b 0 cs.toArray hx hy (by simpa using ht) (by simpa using hz) (all_oneCell_toArray h1) ?_
  rw [hd]
  have e : cs.toArray.toList = cs := rfl
  rw [e]
  exact hK.out _ _ hS (fun _ => h)
/-- a store of a whole struct anywhere in a block, the only operation that may come up -/
theorem step_store_at {P : Program} {md : Region.Mode} {ops : Array Oper} {Q : Exit → Act → World → Prop} {S : World → Prop} (i : Nat) {oi : Oper} (ty : TypeId) {x y : Operand} (b o : Nat) (cs : List Value) {fuel : Nat} {listed : Array Bool} {a : Act} {w : World} (hr : Region.ready md ops listed = [i]) (hi : ops[i]? = some oi) (hd : oi.dst = none)
    (hw : Region.wanted oi (yielded ops a.tmps) = true) (ho : oi.op = .store ty x y) (hx : a.eval x = .pointer (some ⟨b, o, none⟩)) (hy : a.eval y = .agg cs.toArray)
    (ht : w.there b o cs.length) (hz : (P.info? ty).map (·.size) = some cs.length) (h1 : ∀ v ∈ cs, v.oneCell' = true) (hS : S (w.setCells b o cs))
    (h : wpAnyH P md ops Q S fuel (listed.setIfInBounds i true) a (w.setCells b o cs)) : wpAnyH P md ops Q S (fuel + 1) listed a w := by
  refine wpAnyH_ready hr (by simp) (AllReadyH.cons hi (fun K hK => ?_) AllReadyH.nil)
  rw [if_pos hw]
  refine wp_store_mid ty x y ho b o cs.toArray hx hy (by simpa using ht) (by simpa using hz) (all_oneCell_toArray h1) ?_
  rw [hd]
  have e : cs.toArray.toList = cs := rfl
  rw [e]
  exact hK.out _ _ hS (fun _ => h)
end Go.Proofs.YtkjgoikcibgonacGreat

