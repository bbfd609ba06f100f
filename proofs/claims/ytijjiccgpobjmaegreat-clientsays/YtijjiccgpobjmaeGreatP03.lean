/- 6 texts of the proof: Plain facts on deltas, as the reference reckons them: by tables. Plain facts on deltas, as the program reckons them; and what is answered of views and deltas. Plain facts on texts: words with blanks between them, decimal numbers written and read. Plain facts on records: checked, printed, read. Plain facts on mail: checked, sent, taken. Plain facts on clients: checked, begun, moved, told, shown. -/
import Derived.Lib.ItoaNum
import Derived.Lib.ParseIntB
import Derived.Lib.Join
import Derived.Lib.IndexMore
import Derived.Lib.ItoaLen
import Derived.Test.YtijjiccgpobjmaeGreatP02
/- Plain facts on deltas, as the reference reckons them: by tables. -/
namespace Orangery

/-- what goes, what is here: by tables, up to a node -/
def goneR (a b : List Pl) (k : Nat) : List Int := (List.range k).flatMap fun (n : Nat) => if 0 < n ∧ tabAt a n ≠ tabAt b n ∧ (tabAt b n).2.1 < 0 then [(n : Int)] else []
def hereR (a b : List Pl) (k : Nat) : List Pl := (List.range k).flatMap fun (n : Nat) => if 0 < n ∧ tabAt a n ≠ tabAt b n ∧ ¬ (tabAt b n).2.1 < 0 then [tabAt b n] else []
theorem goneR_succ (a b : List Pl) (k : Nat) : goneR a b (k + 1) = goneR a b k ++ if 0 < k ∧ tabAt a k ≠ tabAt b k ∧ (tabAt b k).2.1 < 0 then [(k : Int)] else [] := by
  unfold goneR; rw [List.range_succ, List.flatMap_append]; simp
theorem hereR_succ (a b : List Pl) (k : Nat) : hereR a b (k + 1) = hereR a b k ++ if 0 < k ∧ tabAt a k ≠ tabAt b k ∧ ¬ (tabAt b k).2.1 < 0 then [tabAt b k] else [] := by
  unfold hereR; rw [List.range_succ, List.flatMap_append]; simp
theorem goneR_one (a b : List Pl) : goneR a b 1 = [] := rfl
theorem hereR_one (a b : List Pl) : hereR a b 1 = [] := rfl

theorem rows_map {β : Type} (l : List Pl) (hs : scan 0 l = 0) (f : Pl → Bool) (g : Pl → β) :
    (l.filter f).map g = (List.range 16).flatMap fun (n : Nat) => if 0 < n ∧ 0 ≤ (tabAt l n).2.1 ∧ f (tabAt l n) = true then [g (tabAt l n)] else [] := by
  have e := rows_all l hs
  conv => lhs; rw [← e]
  unfold rows
  rw [List.filter_flatMap, List.map_flatMap]
  congr 1
  funext n
  by_cases h1 : 0 < n ∧ 0 ≤ (tabAt l n).2.1
  · by_cases h2 : f (tabAt l n) = true
    · rw [if_pos h1, if_pos ⟨h1.1, h1.2, h2⟩]; simp [h2]
    · rw [if_pos h1, if_neg (fun h => h2 h.2.2)]; simp [h2]
  · rw [if_neg h1, if_neg (fun h => h1 ⟨h.1, h.2.1⟩)]; simp

theorem tab_parts (l : List Pl) (hs : scan 0 l = 0) (n : Int) : ((find l n).1 = 0 ∧ tabAt l n = (0, -1, 0)) ∨ ((find l n).1 = n ∧ n ≠ 0 ∧ tabAt l n = find l n ∧ 0 ≤ (find l n).2.1) := by
  by_cases h : (find l n).1 = 0
  · left
    exact ⟨h, by unfold tabAt; rw [if_pos h]⟩
  · right
    obtain ⟨h1, h2⟩ := find_mem l n h
    have := (inRangeB_iff _).1 (scan_range l 0 hs _ h1).1
    exact ⟨h2, by rw [← h2]; exact h, by unfold tabAt; rw [if_neg h], by omega⟩

theorem gone_tab (a b : List Pl) (ha : scan 0 a = 0) (hb : scan 0 b = 0) : goneR a b 16 = goneL a b := by
  unfold goneL
  rw [rows_map a ha]
  unfold goneR
  congr 1
  funext n
  rcases tab_parts a ha n with ⟨h1, h2⟩ | ⟨h1, h2, h3, h4⟩
  · rw [h2]
    rcases tab_parts b hb n with ⟨k1, k2⟩ | ⟨k1, k2, k3, k4⟩
    · rw [k2]; simp
    · rw [k3]
      rw [if_neg (fun h => by omega), if_neg (fun h => by simp at h)]
  · rw [h3]
    rcases tab_parts b hb n with ⟨k1, k2⟩ | ⟨k1, k2, k3, k4⟩
    · rw [k2]
      have hne : find a n ≠ (0, -1, 0) := fun e => by rw [e] at h4; simp at h4
      have hn : 0 < n := by omega
      have e : (find b (find a n).1).1 = 0 := by rw [h1]; exact k1
      rw [if_pos ⟨hn, hne, by simp⟩, if_pos ⟨hn, h4, by simp [e]⟩, h1]
    · rw [k3, if_neg (fun h => by omega)]
      have e : (find b (find a n).1).1 ≠ 0 := by rw [h1, k1]; exact k2
      rw [if_neg (fun h => by simp [e] at h)]

theorem here_tab (a b : List Pl) (ha : scan 0 a = 0) (hb : scan 0 b = 0) : hereR a b 16 = hereL a b := by
  have e : hereL a b = (b.filter fun p => decide (find a p.1 ≠ p)).map id := by unfold hereL; simp
  rw [e, rows_map b hb]
  unfold hereR
  congr 1
  funext n
  rcases tab_parts b hb n with ⟨k1, k2⟩ | ⟨k1, k2, k3, k4⟩
  · rw [k2, if_neg (fun h => h.2.2 (by simp)), if_neg (fun h => by simp at h)]
  · rw [k3]
    have hn : 0 < n := by omega
    have hd : (decide (find a (find b n).1 ≠ find b n) = true) ↔ find a n ≠ find b n := by rw [k1]; simp
    have ht : tabAt a n ≠ find b n ↔ find a n ≠ find b n := by
      rcases tab_parts a ha n with ⟨h1, h2⟩ | ⟨h1, h2, h3, h4⟩
      · rw [h2]
        constructor
        · intro _ e; rw [e, k1] at h1; exact k2 h1
        · intro _ e; rw [← e] at k4; simp at k4
      · rw [h3]
    by_cases hq : find a n = find b n
    · rw [if_neg (fun h => (ht.1 h.2.1) hq), if_neg (fun h => (hd.1 h.2.2) hq)]
    · rw [if_pos ⟨hn, ht.2 hq, by omega⟩, if_pos ⟨hn, k4, hd.2 hq⟩]
      rfl

/-- may half of a delta be? -/
def goneE : Int → List Int → Int
  | _, [] => 0
  | a, n :: l => if ¬ (1 ≤ n ∧ n ≤ 15) then 5 else if n ≤ a then 6 else goneE n l
def hereE (gone : List Int) : Int → List Pl → Int
  | _, [] => 0
  | a, p :: l => if inRangeB p = false then 3 else if p.1 ≤ a ∨ hasB p.1 gone = true then 6 else hereE gone p.1 l
def halfE (gone : List Int) (here : List Pl) : Int :=
  if 16 < gone.length ∨ 16 < here.length then 2 else if goneE 0 gone ≠ 0 then goneE 0 gone else hereE gone 0 here
def deltaE (G : List Int) (H : List Pl) (WG : List Int) (WH : List Pl) : Int := if halfE G H ≠ 0 then halfE G H else halfE WG WH

theorem goneE_step (l : List Int) (k : Nat) (a : Int) (h : k < l.length) (hs : goneE a (l.drop k) = goneE 0 l) :
    (¬ (1 ≤ l[k] ∧ l[k] ≤ 15) → goneE 0 l = 5) ∧ (1 ≤ l[k] ∧ l[k] ≤ 15 → l[k] ≤ a → goneE 0 l = 6) ∧ (1 ≤ l[k] ∧ l[k] ≤ 15 → ¬ l[k] ≤ a → goneE l[k] (l.drop (k + 1)) = goneE 0 l) := by
  rw [List.drop_eq_getElem_cons h] at hs
  have e : goneE a (l[k] :: l.drop (k + 1)) = if ¬ (1 ≤ l[k] ∧ l[k] ≤ 15) then 5 else if l[k] ≤ a then 6 else goneE l[k] (l.drop (k + 1)) := rfl
  rw [e] at hs
  refine ⟨fun h1 => ?_, fun h1 h2 => ?_, fun h1 h2 => ?_⟩
  · rw [if_pos h1] at hs; exact hs.symm
  · rw [if_neg (fun h => h h1), if_pos h2] at hs; exact hs.symm
  · rw [if_neg (fun h => h h1), if_neg h2] at hs; exact hs
theorem hereE_step (gone : List Int) (l : List Pl) (k : Nat) (a : Int) (h : k < l.length) (hs : hereE gone a (l.drop k) = hereE gone 0 l) :
    (inRangeB l[k] = false → hereE gone 0 l = 3) ∧ (inRangeB l[k] = true → l[k].1 ≤ a ∨ hasB l[k].1 gone = true → hereE gone 0 l = 6) ∧ (inRangeB l[k] = true → ¬ l[k].1 ≤ a → hasB l[k].1 gone = false → hereE gone l[k].1 (l.drop (k + 1)) = hereE gone 0 l) := by
  rw [List.drop_eq_getElem_cons h] at hs
  have e : hereE gone a (l[k] :: l.drop (k + 1)) = if inRangeB l[k] = false then 3 else if l[k].1 ≤ a ∨ hasB l[k].1 gone = true then 6 else hereE gone l[k].1 (l.drop (k + 1)) := rfl
  rw [e] at hs
  refine ⟨fun h1 => ?_, fun h1 h2 => ?_, fun h1 h2 h3 => ?_⟩
  · rw [if_pos h1] at hs; exact hs.symm
  · rw [if_neg (by simp [h1]), if_pos h2] at hs; exact hs.symm
  · rw [if_neg (by simp [h1]), if_neg (fun hh => by rcases hh with hh | hh; exact h2 hh; rw [h3] at hh; simp at hh)] at hs; exact hs

theorem goneE_iff (l : List Int) : ∀ a, goneE a l = 0 ↔ (∀ n ∈ l, (1 ≤ n ∧ n ≤ 15) ∧ a < n) ∧ l.Pairwise (· < ·) := by
  induction l with
  | nil => intro a; simp [goneE]
  | cons n l ih =>
    intro a
    have e : goneE a (n :: l) = if ¬ (1 ≤ n ∧ n ≤ 15) then 5 else if n ≤ a then 6 else goneE n l := rfl
    rw [e, List.pairwise_cons]
    by_cases h1 : 1 ≤ n ∧ n ≤ 15
    · rw [if_neg (fun h => h h1)]
      by_cases h2 : n ≤ a
      · rw [if_pos h2]
        constructor
        · intro h; omega
        · rintro ⟨h, _⟩; have := (h n (by simp)).2; omega
      · rw [if_neg h2, ih n]
        constructor
        · rintro ⟨h3, h4⟩
          refine ⟨fun m hm => ?_, fun m hm => (h3 m hm).2, h4⟩
          rcases List.mem_cons.1 hm with rfl | hm
          · exact ⟨h1, by omega⟩
          · exact ⟨(h3 m hm).1, by have := (h3 m hm).2; omega⟩
        · rintro ⟨h3, h4, h5⟩
          exact ⟨fun m hm => ⟨(h3 m (by simp [hm])).1, h4 m hm⟩, h5⟩
    · rw [if_pos h1]
      constructor
      · intro h; omega
      · rintro ⟨h, _⟩; exact absurd (h n (by simp)).1 h1
theorem hereE_iff (gone : List Int) (l : List Pl) : ∀ a, hereE gone a l = 0 ↔ scan a l = 0 ∧ ∀ p ∈ l, hasB p.1 gone = false := by
  induction l with
  | nil => intro a; simp [hereE, scan]
  | cons p l ih =>
    intro a
    have e : hereE gone a (p :: l) = if inRangeB p = false then 3 else if p.1 ≤ a ∨ hasB p.1 gone = true then 6 else hereE gone p.1 l := rfl
    rw [e, scan_iff]
    by_cases h1 : inRangeB p = false
    · rw [if_pos h1]
      constructor
      · intro h; omega
      · rintro ⟨⟨h, _⟩, _⟩; have := (h p (by simp)).1; rw [h1] at this; simp at this
    · have h1' : inRangeB p = true := by simpa using h1
      rw [if_neg h1]
      by_cases h2 : p.1 ≤ a ∨ hasB p.1 gone = true
      · rw [if_pos h2]
        constructor
        · intro h; omega
        · rintro ⟨⟨h, _⟩, hg⟩
          rcases h2 with h2 | h2
          · have := (h p (by simp)).2; omega
          · have := hg p (by simp); rw [h2] at this; simp at this
      · rw [if_neg h2, ih, scan_iff]
        have h3 : ¬ p.1 ≤ a := fun h => h2 (Or.inl h)
        have h4 : hasB p.1 gone = false := by cases hh : hasB p.1 gone; rfl; exact absurd (Or.inr hh) h2
        constructor
        · rintro ⟨⟨k1, k2⟩, k3⟩
          refine ⟨⟨fun q hq => ?_, List.pairwise_cons.2 ⟨fun q hq => (k1 q hq).2, k2⟩⟩, fun q hq => ?_⟩
          · rcases List.mem_cons.1 hq with rfl | hq
            · exact ⟨h1', by omega⟩
            · exact ⟨(k1 q hq).1, by have := (k1 q hq).2; omega⟩
          · rcases List.mem_cons.1 hq with rfl | hq
            · exact h4
            · exact k3 q hq
        · rintro ⟨⟨k1, k2⟩, k3⟩
          have k2' := List.pairwise_cons.1 k2
          exact ⟨⟨fun q hq => ⟨(k1 q (by simp [hq])).1, k2'.1 q hq⟩, k2'.2⟩, fun q hq => k3 q (by simp [hq])⟩

/-- the reference's way to apply: a table turned -/
def turnG (l : List Pl) (gone : List Int) (n : Int) : Pl := if hasB n gone = true then ((tabAt l n).1, -1, (tabAt l n).2.2) else tabAt l n
def turnT (l : List Pl) (gone : List Int) (here : List Pl) (n : Int) : Pl := here.foldl (fun t p => if p.1 = n then p else t) (turnG l gone n)

theorem rows_same (t u : Nat → Pl) (k : Nat) (h : ∀ n, n < k → 0 < n → (0 ≤ (t n).2.1 ↔ 0 ≤ (u n).2.1) ∧ (0 ≤ (t n).2.1 → t n = u n)) : rows t k = rows u k := by
  induction k with
  | zero => rfl
  | succ k ih =>
    rw [rows_succ, rows_succ, ih (fun n hn => h n (by omega))]
    congr 1
    by_cases h0 : 0 < k
    · obtain ⟨h1, h2⟩ := h k (by omega) h0
      by_cases h3 : 0 ≤ (t k).2.1
      · rw [if_pos ⟨h0, h3⟩, if_pos ⟨h0, h1.1 h3⟩, h2 h3]
      · rw [if_neg (fun h => h3 h.2), if_neg (fun h => h3 (h1.2 h.2))]
    · rw [if_neg (fun h => h0 h.1), if_neg (fun h => h0 h.1)]

theorem turn_rows (l : List Pl) (gone : List Int) (here : List Pl) (hl : scan 0 l = 0) (hh : scan 0 here = 0) : rows (fun n => turnT l gone here n) 16 = appL l gone here := by
  obtain ⟨h1, h2⟩ := (scan0_iff here).1 hh
  have hz : ∀ p ∈ here, p.1 ≠ 0 := fun p hp => node_pos hh p hp
  rw [← rows_all (appL l gone here) (scan_app l gone here hl hh)]
  apply rows_same
  intro n _ hn
  have e : turnT l gone here n = if (find here (n : Int)).1 = 0 then turnG l gone n else find here n := foldl_at here n h2 hz _
  have e2 := find_app l gone here h2 hz (n : Int)
  rw [e]
  rcases tab_parts here hh n with ⟨k1, _⟩ | ⟨k1, k2, _, k4⟩
  · rw [if_pos k1]
    rw [if_pos k1] at e2
    unfold turnG
    cases hg : hasB (n : Int) gone
    · rw [hg] at e2
      simp only [Bool.false_eq_true, if_false] at e2 ⊢
      have : tabAt (appL l gone here) n = tabAt l n := by unfold tabAt; rw [e2]
      rw [this]
      exact ⟨Iff.rfl, fun _ => rfl⟩
    · rw [hg] at e2
      simp only [if_true] at e2 ⊢
      have : tabAt (appL l gone here) n = (0, -1, 0) := by unfold tabAt; rw [e2]; rfl
      rw [this]
      exact ⟨by simp, fun h => by simp at h⟩
  · have k5 : ¬ (find here (n : Int)).1 = 0 := by rw [k1]; exact k2
    rw [if_neg k5]
    rw [if_neg k5] at e2
    have : tabAt (appL l gone here) n = find here n := by unfold tabAt; rw [e2, if_neg k5]
    rw [this]
    exact ⟨Iff.rfl, fun _ => rfl⟩

/-- what changes between two views may be -/
theorem half_ok (a b : List Pl) (ha : scan 0 a = 0) (hb : scan 0 b = 0) : halfE (goneL a b) (hereL a b) = 0 := by
  obtain ⟨a1, a2⟩ := (scan0_iff a).1 ha
  have hla : a.length ≤ 15 := by have := scan_len a 0 ha (by omega); omega
  have hlb : b.length ≤ 15 := by have := scan_len b 0 hb (by omega); omega
  have g1 : (goneL a b).length ≤ 15 := by unfold goneL; rw [List.length_map]; exact Nat.le_trans (List.length_filter_le _ _) hla
  have g2 : (hereL a b).length ≤ 15 := Nat.le_trans (List.length_filter_le _ _) hlb
  have g3 : goneE 0 (goneL a b) = 0 := by
    rw [goneE_iff]
    constructor
    · intro n hn
      unfold goneL at hn
      simp only [List.mem_map, List.mem_filter] at hn
      obtain ⟨p, ⟨hp, _⟩, rfl⟩ := hn
      have := (inRangeB_iff p).1 (a1 p hp)
      omega
    · unfold goneL
      rw [List.pairwise_map]
      exact a2.filter _
  have g4 : hereE (goneL a b) 0 (hereL a b) = 0 := by
    rw [hereE_iff]
    refine ⟨scan_filter b _ hb, fun p hp => ?_⟩
    cases hq : hasB p.1 (goneL a b)
    · rfl
    · have h1 := (gone_iff a b ha p.1).1 hq
      have h2 := (List.mem_filter.1 hp).1
      rw [find_of_mem (scan_sorted b 0 hb) p h2] at h1
      exact absurd h1.2 (node_pos hb p h2)
  unfold halfE
  rw [if_neg (by omega), if_neg (by simp [g3])]
  exact g4
end Orangery

/- Plain facts on deltas, as the program reckons them; and what is answered of views and deltas. -/
namespace Orangery

/-- is a place of this node among them? -/
def hasN (l : List Pl) (n : Int) : Bool := l.any fun p => p.1 == n
def goneP (a b : List Pl) : List Int := (a.filter fun p => !hasN b p.1).map (·.1)
def hereP (a b : List Pl) : List Pl := b.filter fun p => !decide (p ∈ a)

theorem filter_take (f : Pl → Bool) (l : List Pl) (k : Nat) (h : k < l.length) : (l.take (k + 1)).filter f = (l.take k).filter f ++ if f l[k] = true then [l[k]] else [] := by
  rw [List.take_succ_eq_append_getElem h, List.filter_append]
  congr 1
  by_cases hf : f l[k] = true
  · rw [if_pos hf]; simp [hf]
  · rw [if_neg hf]; simp [hf]
theorem goneP_take (b a : List Pl) (k : Nat) (h : k < a.length) : goneP (a.take (k + 1)) b = goneP (a.take k) b ++ if hasN b a[k].1 = true then [] else [a[k].1] := by
  unfold goneP
  rw [filter_take _ a k h, List.map_append]
  congr 1
  cases hasN b a[k].1 <;> simp
theorem hereP_take (a b : List Pl) (k : Nat) (h : k < b.length) : hereP a (b.take (k + 1)) = hereP a (b.take k) ++ if decide (b[k] ∈ a) = true then [] else [b[k]] := by
  unfold hereP
  rw [filter_take _ b k h]
  congr 1
  cases decide (b[k] ∈ a) <;> simp

theorem hasN_iff (l : List Pl) (hl : scan 0 l = 0) (n : Int) : hasN l n = true ↔ (find l n).1 ≠ 0 := by
  unfold hasN
  rw [List.any_eq_true]
  constructor
  · rintro ⟨p, hp, e⟩
    have e : p.1 = n := by simpa using e
    have := find_of_mem (scan_sorted l 0 hl) p hp
    rw [e] at this
    rw [this]
    exact node_pos hl p hp
  · intro h
    obtain ⟨h1, h2⟩ := find_mem l n h
    exact ⟨_, h1, by simpa using h2⟩
theorem gone_same (a b : List Pl) (hb : scan 0 b = 0) : goneP a b = goneL a b := by
  unfold goneP goneL
  congr 1
  apply List.filter_congr
  intro p _
  have := hasN_iff b hb p.1
  by_cases h : (find b p.1).1 = 0
  · have h2 : ¬ hasN b p.1 = true := fun e => (this.1 e) h
    simp [h, h2]
  · have h2 := this.2 h
    simp [h, h2]
theorem here_same (a b : List Pl) (ha : scan 0 a = 0) (hb : scan 0 b = 0) : hereP a b = hereL a b := by
  unfold hereP hereL
  apply List.filter_congr
  intro p hp
  by_cases h : p ∈ a
  · have := find_of_mem (scan_sorted a 0 ha) p h
    simp [h, this]
  · have : find a p.1 ≠ p := by
      intro e
      have hz : (find a p.1).1 ≠ 0 := by rw [e]; exact node_pos hb p hp
      have := (find_mem a p.1 hz).1
      rw [e] at this
      exact h this
    simp [h, this]

/-- the program's way: take out what goes and what is here, put what is here behind it, sort -/
theorem app_unique (l : List Pl) (gone : List Int) (here l' : List Pl) (hl : scan 0 l = 0) (hh : scan 0 here = 0)
    (hp : l'.Perm ((l.filter fun p => !(hasB p.1 gone || hasN here p.1)) ++ here)) (hs : l'.Pairwise fun p q => p.1 ≤ q.1) : l' = appL l gone here := by
  have hK : scan 0 (l.filter fun p => !hasB p.1 gone) = 0 := scan_filter l _ hl
  refine tog_unique (l.filter fun p => !hasB p.1 gone) here l' hK hh ?_ hs
  have e : ((l.filter fun p => !hasB p.1 gone).filter fun p => !inPl here p.1) = l.filter fun p => !(hasB p.1 gone || hasN here p.1) := by
    rw [List.filter_filter]
    apply List.filter_congr
    intro p hp
    have h1 := inPl_iff (W := here) p.1 (node_pos hl p hp)
    have h2 := hasN_iff here hh p.1
    have : inPl here p.1 = hasN here p.1 := by rw [Bool.eq_iff_iff, h1, h2]
    rw [this]
    cases hasB p.1 gone <;> simp
  rw [e]
  exact hp

theorem check_one (p : Pl) : check [p] = 3 ↔ inRangeB p = false := by
  have e : scan 0 [p] = if inRangeB p = false then 3 else if p.1 ≤ 0 then 6 else 0 := rfl
  by_cases h : inRangeB p = false
  · have e2 : scan 0 [p] = 3 := by rw [e, if_pos h]
    unfold check
    rw [e2]
    simp [h]
  · have h1 : inRangeB p = true := by simpa using h
    have := (inRangeB_iff p).1 h1
    have e2 : scan 0 [p] = 0 := by rw [e, if_neg h, if_neg (show ¬ p.1 ≤ 0 by omega)]
    unfold check
    rw [e2]
    constructor
    · intro e; split at e
      · omega
      · split at e <;> omega
    · intro e; exact absurd e h

theorem half_or (gone : List Int) (here : List Pl) (h : ¬ (16 < gone.length ∨ 16 < here.length)) : halfE gone here = orI (goneE 0 gone) (hereE gone 0 here) := by
  unfold halfE orI
  rw [if_neg h]
theorem delta_or (G : List Int) (H : List Pl) (WG : List Int) (WH : List Pl) : deltaE G H WG WH = orI (halfE G H) (halfE WG WH) := rfl
theorem orI_zero {x y : Int} (h : orI x y = 0) : x = 0 ∧ y = 0 := by
  unfold orI at h
  split at h
  · rename_i h1; exact absurd h h1
  · rename_i h1; exact ⟨by simpa using h1, h⟩
theorem half_zero {gone : List Int} {here : List Pl} (h : halfE gone here = 0) : gone.length ≤ 16 ∧ here.length ≤ 16 ∧ goneE 0 gone = 0 ∧ scan 0 here = 0 := by
  unfold halfE at h
  split at h
  · omega
  · rename_i h1
    obtain ⟨h2, h3⟩ := orI_zero (x := goneE 0 gone) (y := hereE gone 0 here) h
    exact ⟨by omega, by omega, h2, ((hereE_iff gone here 0).1 h3).1⟩
theorem gone_range {gone : List Int} (h : goneE 0 gone = 0) : ∀ n ∈ gone, 1 ≤ n ∧ n ≤ 15 := fun n hn => (((goneE_iff gone 0).1 h).1 n hn).1

theorem view_parts {R : List Int} {K V : List Pl} (h : viewE R K V = 0) : rootsOk R = 0 ∧ check K = 0 ∧ check V = 0 := by
  unfold viewE at h
  split at h
  · rename_i h1; exact absurd h h1
  · rename_i h1
    split at h
    · rename_i h2; exact absurd h h2
    · rename_i h2
      split at h
      · rename_i h3; exact absurd h h3
      · rename_i h3
        exact ⟨by simpa using h1, by simpa using h2, by simpa using h3⟩
theorem view_scan {R : List Int} {K V : List Pl} (h : viewE R K V = 0) : scan 0 K = 0 ∧ scan 0 V = 0 := ⟨check_scan K (view_parts h).2.1, check_scan V (view_parts h).2.2⟩
theorem scan_small {l : List Pl} (h : scan 0 l = 0) : l.length ≤ 15 := by have := scan_len l 0 h (by omega); omega

/-- what delta.Of answers -/
def dfE (R : List Int) (K V : List Pl) (R' : List Int) (K' V' : List Pl) : Int :=
  if orI (viewE R K V) (viewE R' K' V') ≠ 0 then orI (viewE R K V) (viewE R' K' V') else if R = R' then 0 else 4
def dfG (E : Int) (a b : List Pl) : List Int := if E ≠ 0 then [] else goneL a b
def dfH (E : Int) (a b : List Pl) : List Pl := if E ≠ 0 then [] else hereL a b
theorem df_ok {E : Int} (a b : List Pl) (h : E = 0) : dfG E a b = goneL a b ∧ dfH E a b = hereL a b := by unfold dfG dfH; rw [if_neg (by simp [h]), if_neg (by simp [h])]; exact ⟨rfl, rfl⟩
theorem df_bad {E : Int} (a b : List Pl) (h : E ≠ 0) : dfG E a b = [] ∧ dfH E a b = [] := by unfold dfG dfH; rw [if_pos h, if_pos h]; exact ⟨rfl, rfl⟩
theorem df_zero {R : List Int} {K V : List Pl} {R' : List Int} {K' V' : List Pl} (h : dfE R K V R' K' V' = 0) : viewE R K V = 0 ∧ viewE R' K' V' = 0 ∧ R = R' := by
  unfold dfE at h
  split at h
  · rename_i h1; exact absurd h h1
  · rename_i h1
    obtain ⟨h2, h3⟩ := orI_zero (by simpa using h1)
    split at h
    · rename_i h4; exact ⟨h2, h3, h4⟩
    · omega

/-- what delta.Apply answers -/
def apE (R : List Int) (K V : List Pl) (G : List Int) (H : List Pl) (WG : List Int) (WH : List Pl) : Int :=
  if orI (viewE R K V) (deltaE G H WG WH) ≠ 0 then orI (viewE R K V) (deltaE G H WG WH) else viewE R (appL K G H) (appL V WG WH)
def apR (E : Int) (R : List Int) : List Int := if E ≠ 0 then [] else R
def apL (E : Int) (l : List Pl) (G : List Int) (H : List Pl) : List Pl := if E ≠ 0 then [] else appL l G H
theorem ap_ok {E : Int} (h : E = 0) (R : List Int) : apR E R = R := by unfold apR; rw [if_neg (by simp [h])]
theorem ap_bad {E : Int} (h : E ≠ 0) (R : List Int) : apR E R = [] := by unfold apR; rw [if_pos h]
theorem al_ok {E : Int} (h : E = 0) (l : List Pl) (G : List Int) (H : List Pl) : apL E l G H = appL l G H := by unfold apL; rw [if_neg (by simp [h])]
theorem al_bad {E : Int} (h : E ≠ 0) (l : List Pl) (G : List Int) (H : List Pl) : apL E l G H = [] := by unfold apL; rw [if_pos h]

def sameD (G G' : List Int) (H H' : List Pl) (X X' : List Int) (Y Y' : List Pl) : Bool := decide (G = G') && decide (H = H') && decide (X = X') && decide (Y = Y')
theorem sameD_self (G : List Int) (H : List Pl) (X : List Int) (Y : List Pl) : sameD G G H H X X Y Y = true := by simp [sameD]

/-- P5.4 -/
theorem made_of {R : List Int} {K V K' V' : List Pl} (h1 : viewE R K V = 0) (h2 : viewE R K' V' = 0) :
    dfE R K V R K' V' = 0 ∧ deltaE (goneL K K') (hereL K K') (goneL V V') (hereL V V') = 0 ∧ apE R K V (goneL K K') (hereL K K') (goneL V V') (hereL V V') = 0 ∧ appL K (goneL K K') (hereL K K') = K' ∧ appL V (goneL V V') (hereL V V') = V' := by
  obtain ⟨a1, a2⟩ := view_scan h1
  obtain ⟨b1, b2⟩ := view_scan h2
  have e1 := half_ok K K' a1 b1
  have e2 := half_ok V V' a2 b2
  have e3 : deltaE (goneL K K') (hereL K K') (goneL V V') (hereL V V') = 0 := by rw [delta_or, e1, e2]; rfl
  have m1 := delta_makes K K' a1 b1
  have m2 := delta_makes V V' a2 b2
  refine ⟨?_, e3, ?_, m1, m2⟩
  · unfold dfE
    rw [h1, h2, if_neg (by simp [orI]), if_pos rfl]
  · unfold apE
    rw [h1, e3, if_neg (by simp [orI]), m1, m2, h2]
theorem made_none {R : List Int} {K V : List Pl} (h : viewE R K V = 0) : goneL K K = [] ∧ hereL K K = [] ∧ goneL V V = [] ∧ hereL V V = [] := by
  obtain ⟨a1, a2⟩ := view_scan h
  exact ⟨(delta_none K a1).1, (delta_none K a1).2, (delta_none V a2).1, (delta_none V a2).2⟩
end Orangery

/- Plain facts on texts: words with blanks between them, decimal numbers written and read. -/
namespace Orangery
open Go.Lib (itoa decDigits parseIntB parseUintM parseUintB NumEnd cut index)

/-- the words of a text -/
def wordsB : List UInt8 → List (List UInt8)
  | [] => [[]]
  | c :: r => if c = 32 then [] :: wordsB r else ((wordsB r).headD [] |>.cons c) :: (wordsB r).tail
theorem wordsB_ne (s : List UInt8) : wordsB s ≠ [] := by cases s with
  | nil => simp [wordsB]
  | cons c r => unfold wordsB; split <;> simp
theorem wordsB_split (s : List UInt8) : wordsB s = (wordsB s).headD [] :: (wordsB s).tail := by
  cases h : wordsB s with
  | nil => exact absurd h (wordsB_ne s)
  | cons a l => rfl

theorem index_blank_nil : index [] [32] = -1 := rfl
theorem index_blank (c : UInt8) (r : List UInt8) : index (c :: r) [32] = if c = 32 then 0 else if index r [32] = -1 then -1 else index r [32] + 1 := by
  have e : index (c :: r) [32] = if List.isPrefixOf [32] (c :: r) then 0 else if index r [32] == -1 then -1 else index r [32] + 1 := rfl
  rw [e]
  by_cases h : c = 32
  · subst h; simp [List.isPrefixOf]
  · have h2 : (32 == c) = false := by simp; exact fun e => h e.symm
    simp [List.isPrefixOf, h, h2]

/-- strings.Cut at a blank: the first word, the others -/
theorem cut_blank (s : List UInt8) : (cut s [32]).1 = (wordsB s).headD [] ∧ (wordsB s).tail = if (cut s [32]).2.2 = true then wordsB (cut s [32]).2.1 else [] := by
  induction s with
  | nil => decide
  | cons c r ih =>
    unfold cut at ih ⊢
    rw [index_blank]
    by_cases h : c = 32
    · subst h
      simp [wordsB]
    · rw [if_neg h]
      have hw : wordsB (c :: r) = ((wordsB r).headD [] |>.cons c) :: (wordsB r).tail := by
        conv => lhs; unfold wordsB
        rw [if_neg h]
      rw [hw]
      have hge := Go.Lib.index_ge r [32]
      by_cases h2 : index r [32] = -1
      · rw [h2] at ih ⊢
        simp at ih ⊢
        exact ih
      · have h3 : 0 ≤ index r [32] := by omega
        have h4 : 0 ≤ index r [32] + 1 := by omega
        have h5 : (index r [32] + 1).toNat = (index r [32]).toNat + 1 := by omega
        rw [if_pos h3] at ih
        rw [if_neg h2, if_pos h4, h5]
        simp only [List.headD_cons, List.tail_cons]
        have e1 : List.take ((index r [32]).toNat + 1) (c :: r) = c :: List.take (index r [32]).toNat r := rfl
        have e2 : List.drop ((index r [32]).toNat + 1 + [(32 : UInt8)].length) (c :: r) = List.drop ((index r [32]).toNat + [(32 : UInt8)].length) r := by
          rw [show (index r [32]).toNat + 1 + [(32 : UInt8)].length = ((index r [32]).toNat + [(32 : UInt8)].length) + 1 by simp]
          rfl
        rw [e1, e2]
        exact ⟨congrArg (c :: ·) ih.1, ih.2⟩

def glue (ws : List (List UInt8)) : List UInt8 := Go.Lib.join ws [32]
theorem glue_one (x : List UInt8) : glue [x] = x := Go.Lib.join_one x [32]
theorem glue_cons (x y : List UInt8) (ws : List (List UInt8)) : glue (x :: y :: ws) = x ++ 32 :: glue (y :: ws) := by
  unfold glue
  rw [Go.Lib.join_cons, Go.Lib.join_cons]
  simp [Go.Lib.joinTail]
theorem glue_words (s : List UInt8) : glue (wordsB s) = s := by
  induction s with
  | nil => rfl
  | cons c r ih =>
    unfold wordsB
    rw [wordsB_split r] at ih ⊢
    generalize (wordsB r).headD [] = x at *
    generalize (wordsB r).tail = l at *
    by_cases h : c = 32
    · rw [if_pos h, glue_cons, ih, h]; rfl
    · rw [if_neg h]
      simp only [List.headD_cons, List.tail_cons]
      cases l with
      | nil => rw [glue_one] at ih ⊢; rw [ih]
      | cons y l => rw [glue_cons] at ih ⊢; rw [← ih]; rfl
theorem words_one (x : List UInt8) (hx : ∀ c ∈ x, c ≠ 32) : wordsB x = [x] := by
  induction x with
  | nil => rfl
  | cons c r ih =>
    unfold wordsB
    rw [ih (fun d hd => hx d (by simp [hd])), if_neg (hx c (by simp))]
    rfl
theorem words_app (x : List UInt8) (hx : ∀ c ∈ x, c ≠ 32) (s : List UInt8) : wordsB (x ++ 32 :: s) = x :: wordsB s := by
  induction x with
  | nil => simp [wordsB]
  | cons c r ih =>
    rw [List.cons_append]
    conv => lhs; unfold wordsB
    rw [ih (fun d hd => hx d (by simp [hd])), if_neg (hx c (by simp))]
    rfl
theorem words_glue (ws : List (List UInt8)) (hn : ws ≠ []) (h : ∀ x ∈ ws, ∀ c ∈ x, c ≠ 32) : wordsB (glue ws) = ws := by
  induction ws with
  | nil => exact absurd rfl hn
  | cons x l ih =>
    cases l with
    | nil => rw [glue_one, words_one x (h x (by simp))]
    | cons y l =>
      rw [glue_cons, words_app x (h x (by simp)), ih (by simp) (fun z hz => h z (by simp [hz]))]

/-! numbers -/
theorem digits_small {u : Nat} (h : u < 10) : decDigits u = [UInt8.ofNat (48 + u)] := Go.Lib.decDigits_one h
theorem digits_big {u : Nat} (h : ¬ u < 10) : decDigits u = decDigits (u / 10) ++ [UInt8.ofNat (48 + u % 10)] := by rw [decDigits, dif_neg h]
theorem digit_nat {d : Nat} (h : d < 10) : (UInt8.ofNat (48 + d)).toNat = 48 + d := by
  rw [UInt8.toNat_ofNat']
  omega
theorem digits_all (u : Nat) : ∀ c ∈ decDigits u, 48 ≤ c.toNat ∧ c.toNat ≤ 57 := by
  induction u using Nat.strongRecOn with
  | _ u ih =>
    intro c hc
    by_cases h : u < 10
    · rw [digits_small h] at hc
      obtain rfl := List.mem_singleton.1 hc
      rw [digit_nat h]
      omega
    · rw [digits_big h] at hc
      rcases List.mem_append.1 hc with hc | hc
      · exact ih (u / 10) (by omega) c hc
      · obtain rfl := List.mem_singleton.1 hc
        rw [digit_nat (Nat.mod_lt _ (by omega))]
        omega
theorem digits_ne (u : Nat) : decDigits u ≠ [] := by
  by_cases h : u < 10
  · rw [digits_small h]; simp
  · rw [digits_big h]; simp
theorem itoa_blank (n : Int) : ∀ c ∈ itoa n, c ≠ 32 := by
  intro c hc e
  subst e
  unfold itoa at hc
  split at hc
  · simp at hc
    have := digits_all _ _ hc
    simp at this
  · have := digits_all _ _ hc
    simp at this

theorem parse_app (M : Nat) (l : List UInt8) (c : UInt8) : ∀ acc a, parseUintM M acc l = .ok a → parseUintM M acc (l ++ [c]) = parseUintM M a [c] := by
  induction l with
  | nil =>
    intro acc a h
    have : acc = a := by simpa [parseUintM] using h
    subst this
    rfl
  | cons d r ih =>
    intro acc a h
    rw [List.cons_append]
    unfold parseUintM at h ⊢
    split at h
    · rename_i h1
      rw [if_pos h1]
      split at h
      · simp at h
      · rename_i h2
        rw [if_neg h2]
        split at h
        · simp at h
        · rename_i h3
          rw [if_neg h3]
          exact ih _ _ h
    · simp at h
theorem parse_digits (u : Nat) (h : u ≤ 18446744073709551615) : parseUintM 18446744073709551615 0 (decDigits u) = .ok u := by
  induction u using Nat.strongRecOn with
  | _ u ih =>
    by_cases hu : u < 10
    · rw [digits_small hu]
      unfold parseUintM
      rw [digit_nat hu, if_pos (by omega), if_neg (by omega), if_neg (by omega)]
      unfold parseUintM
      congr 1
      omega
    · have h1 := ih (u / 10) (by omega) (by omega)
      rw [digits_big hu, parse_app _ _ _ _ _ h1]
      unfold parseUintM
      have hm : u % 10 < 10 := Nat.mod_lt _ (by omega)
      rw [digit_nat hm, if_pos (by omega), if_neg (by omega), if_neg (by omega)]
      unfold parseUintM
      congr 1
      omega
theorem parse_itoa (n : Int) (h0 : -9223372036854775808 ≤ n) (h1 : n ≤ 9223372036854775807) : parseIntB 64 (itoa n) = .ok n := by
  unfold itoa
  by_cases hn : n < 0
  · rw [if_pos hn]
    have hp := parse_digits n.natAbs (by omega)
    have hu : parseUintB 64 (decDigits n.natAbs) = .ok n.natAbs := by
      unfold parseUintB
      rw [if_neg (digits_ne _)]
      exact hp
    unfold parseIntB
    simp only [show (45 : UInt8).toNat = 45 from rfl, or_true, if_true, hu]
    rw [if_neg (by simp), if_neg (by simp; omega)]
    congr 1
    omega
  · rw [if_neg hn]
    have hp := parse_digits n.toNat (by omega)
    have ha := digits_all n.toNat
    cases hd : decDigits n.toNat with
    | nil => exact absurd hd (digits_ne _)
    | cons c r =>
      rw [hd] at hp ha
      have hc := ha c (by simp)
      have hu : parseUintB 64 (c :: r) = .ok n.toNat := by
        unfold parseUintB
        rw [if_neg (by simp)]
        exact hp
      unfold parseIntB
      simp only
      rw [if_neg (by omega), hu]
      simp only
      rw [if_neg (by omega), if_neg (by omega), if_neg (by omega)]
      congr 1
      omega

/-- a number as it is written: none where it is written otherwise -/
def numOf (t : List UInt8) : Option Int := match parseIntB 64 t with
  | .ok v => if itoa v = t then some v else none
  | _ => none
theorem numOf_itoa (n : Int) (h0 : -9223372036854775808 ≤ n) (h1 : n ≤ 9223372036854775807) : numOf (itoa n) = some n := by
  unfold numOf
  rw [parse_itoa n h0 h1]
  simp
theorem numOf_some {t : List UInt8} {v : Int} (h : numOf t = some v) : itoa v = t := by
  unfold numOf at h
  split at h
  · split at h
    · rename_i h1; simp at h; rw [← h]; exact h1
    · simp at h
  · simp at h
theorem itoa_inj {m n : Int} (m0 : -9223372036854775808 ≤ m) (m1 : m ≤ 9223372036854775807) (n0 : -9223372036854775808 ≤ n) (n1 : n ≤ 9223372036854775807) (h : itoa m = itoa n) : m = n := by
  have e1 := numOf_itoa m m0 m1
  have e2 := numOf_itoa n n0 n1
  rw [h, e2] at e1
  simpa using e1.symm

/-- all numbers, or none -/
def numsOf : List (List UInt8) → Option (List Int)
  | [] => some []
  | t :: l => match numOf t with
    | none => none
    | some v => (numsOf l).map (v :: ·)
theorem numsOf_map (l : List Int) (h : ∀ n ∈ l, -9223372036854775808 ≤ n ∧ n ≤ 9223372036854775807) : numsOf (l.map itoa) = some l := by
  induction l with
  | nil => rfl
  | cons n l ih =>
    rw [List.map_cons]
    unfold numsOf
    rw [numOf_itoa n (h n (by simp)).1 (h n (by simp)).2, ih (fun m hm => h m (by simp [hm]))]
    rfl
theorem numsOf_some (ws : List (List UInt8)) : ∀ l, numsOf ws = some l → ws = l.map itoa := by
  induction ws with
  | nil => intro l h; simp [numsOf] at h; rw [h]; rfl
  | cons t ws ih =>
    intro l h
    unfold numsOf at h
    split at h
    · simp at h
    · rename_i v hv
      rw [Option.map_eq_some_iff] at h
      obtain ⟨l', h1, rfl⟩ := h
      rw [List.map_cons, ← ih l' h1, numOf_some hv]
end Orangery

/- Plain facts on records: checked, printed, read. -/
namespace Orangery
open Go.Lib (itoa)

/-- a record: kind, who, life, roots, operation -/
abbrev Rc := Int × Int × Int × List Int × Mv
def noRec : Rc := (0, 0, 0, [], noOp)

def checkRec (r : Rc) : Int :=
  if r.1 = 1 then (if r.2.1 ≠ 0 ∨ r.2.2.1 ≠ 0 ∨ r.2.2.2.1 ≠ [] then 4 else checkOp r.2.2.2.2)
  else if r.1 = 2 then (if r.2.2.2.2 ≠ noOp ∨ r.2.2.2.1 ≠ [] then 4 else if ¬ (0 ≤ r.2.1 ∧ r.2.1 ≤ 2) ∨ ¬ (1 ≤ r.2.2.1 ∧ r.2.2.1 ≤ 50) then 3 else 0)
  else if r.1 = 3 then (if r.2.2.2.2 ≠ noOp ∨ r.2.2.1 ≠ 0 then 4 else if ¬ (0 ≤ r.2.1 ∧ r.2.1 ≤ 2) then 3 else rootsOk r.2.2.2.1)
  else 4

def wOp : List UInt8 := [111, 112]
def wLife : List UInt8 := [108, 105, 102, 101]
def wRoots : List UInt8 := [114, 111, 111, 116, 115]
def recWord (r : Rc) : List UInt8 := if r.1 = 1 then wOp else if r.1 = 2 then wLife else wRoots
def opNums (o : Mv) : List Int := [o.1, o.2.1, o.2.2.1.1, o.2.2.1.2.1, o.2.2.1.2.2, o.2.2.2.1, o.2.2.2.2]
def recNums (r : Rc) : List Int := if r.1 = 1 then opNums r.2.2.2.2 else if r.1 = 2 then [r.2.1, r.2.2.1] else r.2.1 :: r.2.2.2.1
/-- the text of a right record -/
def recT (r : Rc) : List UInt8 := glue (recWord r :: (recNums r).map itoa)
def recText (r : Rc) : List UInt8 := if checkRec r ≠ 0 then [] else recT r

/-- what a word and numbers make -/
def recOf (w : List UInt8) (n : List Int) : Option Rc :=
  if w = wOp ∧ n.length = 7 then some (1, 0, 0, [], (n.getD 0 0, n.getD 1 0, (n.getD 2 0, n.getD 3 0, n.getD 4 0), n.getD 5 0, n.getD 6 0))
  else if w = wLife ∧ n.length = 2 then some (2, n.getD 0 0, n.getD 1 0, [], noOp)
  else if w = wRoots ∧ 1 ≤ n.length then some (3, n.getD 0 0, 0, n.tail, noOp)
  else none
def readO (s : List UInt8) : Option Rc := (numsOf (wordsB s).tail).bind (recOf ((wordsB s).headD []))
def readE (s : List UInt8) : Int := match readO s with
  | none => 1
  | some r => checkRec r
def readR (s : List UInt8) : Rc := if readE s ≠ 0 then noRec else (readO s).getD noRec
/-- chapter 6's Parse -/
def parseE (s : List UInt8) : Int := if 60000 < s.length then 2 else readE s
def parseR (s : List UInt8) : Rc := if 60000 < s.length then noRec else readR s

theorem checkRec_op {r : Rc} (h : checkRec r = 0) (h1 : r.1 = 1) : r = (1, 0, 0, [], r.2.2.2.2) ∧ checkOp r.2.2.2.2 = 0 := by
  obtain ⟨k, w, l, R, o⟩ := r
  unfold checkRec at h
  simp only at h h1 ⊢
  rw [if_pos h1] at h
  split at h
  · omega
  · rename_i h2
    simp only [not_or, Decidable.not_not, ne_eq] at h2
    obtain ⟨e1, e2, e3⟩ := h2
    subst e1 e2 e3 h1
    exact ⟨rfl, h⟩
theorem checkRec_life {r : Rc} (h : checkRec r = 0) (h1 : r.1 = 2) : r = (2, r.2.1, r.2.2.1, [], noOp) ∧ (0 ≤ r.2.1 ∧ r.2.1 ≤ 2) ∧ 1 ≤ r.2.2.1 ∧ r.2.2.1 ≤ 50 := by
  obtain ⟨k, w, l, R, o⟩ := r
  unfold checkRec at h
  simp only at h h1 ⊢
  rw [if_neg (by omega), if_pos h1] at h
  split at h
  · omega
  · rename_i h2
    simp only [not_or, Decidable.not_not, ne_eq] at h2
    obtain ⟨e1, e2⟩ := h2
    subst e1 e2 h1
    split at h
    · omega
    · rename_i h3
      exact ⟨rfl, by omega, by omega, by omega⟩
theorem checkRec_roots {r : Rc} (h : checkRec r = 0) (h1 : r.1 = 3) : r = (3, r.2.1, 0, r.2.2.2.1, noOp) ∧ (0 ≤ r.2.1 ∧ r.2.1 ≤ 2) ∧ rootsOk r.2.2.2.1 = 0 := by
  obtain ⟨k, w, l, R, o⟩ := r
  unfold checkRec at h
  simp only at h h1 ⊢
  rw [if_neg (by omega), if_neg (by omega), if_pos h1] at h
  split at h
  · omega
  · rename_i h2
    simp only [not_or, Decidable.not_not, ne_eq] at h2
    obtain ⟨e1, e2⟩ := h2
    subst e1 e2 h1
    split at h
    · omega
    · rename_i h3
      exact ⟨rfl, by omega, h⟩
theorem checkRec_kind {r : Rc} (h : checkRec r = 0) : r.1 = 1 ∨ r.1 = 2 ∨ r.1 = 3 := by
  unfold checkRec at h
  by_cases h1 : r.1 = 1
  · exact Or.inl h1
  · by_cases h2 : r.1 = 2
    · exact Or.inr (Or.inl h2)
    · by_cases h3 : r.1 = 3
      · exact Or.inr (Or.inr h3)
      · rw [if_neg h1, if_neg h2, if_neg h3] at h
        omega

theorem recNums_small {r : Rc} (h : checkRec r = 0) : (recNums r).length ≤ 7 ∧ ∀ n ∈ recNums r, 0 ≤ n ∧ n ≤ 10000 := by
  rcases checkRec_kind h with h1 | h1 | h1
  · obtain ⟨e, hc⟩ := checkRec_op h h1
    have ho := checkOp_zero hc
    simp only [opOkB, decide_eq_true_eq] at ho
    unfold recNums
    rw [if_pos h1]
    unfold opNums
    refine ⟨by simp, ?_⟩
    intro n hn
    simp only [List.mem_cons, List.not_mem_nil, or_false] at hn
    rcases hn with rfl | rfl | rfl | rfl | rfl | rfl | rfl <;> omega
  · obtain ⟨e, hw, hl⟩ := checkRec_life h h1
    unfold recNums
    rw [if_neg (by omega), if_pos h1]
    refine ⟨by simp, ?_⟩
    intro n hn
    simp only [List.mem_cons, List.not_mem_nil, or_false] at hn
    rcases hn with rfl | rfl <;> omega
  · obtain ⟨e, hw, hr⟩ := checkRec_roots h h1
    unfold recNums
    rw [if_neg (by omega), if_neg (by omega)]
    have hl := rootsOk_len hr
    refine ⟨by simp; omega, ?_⟩
    intro n hn
    rcases List.mem_cons.1 hn with rfl | hn
    · omega
    · have := (isNodeB_iff n).1 (rootsOk_node hr n hn)
      omega
theorem recWord_blank (r : Rc) : ∀ c ∈ recWord r, c ≠ 32 := by
  unfold recWord
  split
  · decide
  · split <;> decide
theorem recOf_nums {r : Rc} (h : checkRec r = 0) : recOf (recWord r) (recNums r) = some r := by
  rcases checkRec_kind h with h1 | h1 | h1
  · obtain ⟨e, _⟩ := checkRec_op h h1
    have e1 : recWord r = wOp := by unfold recWord; rw [if_pos h1]
    have e2 : recNums r = opNums r.2.2.2.2 := by unfold recNums; rw [if_pos h1]
    rw [e1, e2]
    unfold recOf
    rw [if_pos ⟨rfl, rfl⟩, e]
    rfl
  · obtain ⟨e, _⟩ := checkRec_life h h1
    have e1 : recWord r = wLife := by unfold recWord; rw [if_neg (by omega), if_pos h1]
    have e2 : recNums r = [r.2.1, r.2.2.1] := by unfold recNums; rw [if_neg (by omega), if_pos h1]
    rw [e1, e2]
    unfold recOf
    rw [if_neg (fun hh => absurd hh.1 (by decide)), if_pos ⟨rfl, rfl⟩, e]
    rfl
  · obtain ⟨e, _⟩ := checkRec_roots h h1
    have e1 : recWord r = wRoots := by unfold recWord; rw [if_neg (by omega), if_neg (by omega)]
    have e2 : recNums r = r.2.1 :: r.2.2.2.1 := by unfold recNums; rw [if_neg (by omega), if_neg (by omega)]
    rw [e1, e2]
    unfold recOf
    rw [if_neg (fun hh => absurd hh.1 (by decide)), if_neg (fun hh => absurd hh.1 (by decide)), if_pos ⟨rfl, by simp⟩, e]
    rfl

/-- what is printed is read -/
theorem read_text {r : Rc} (h : checkRec r = 0) : readO (recT r) = some r ∧ readE (recT r) = 0 ∧ readR (recT r) = r := by
  have hs := recNums_small h
  have hw : wordsB (recT r) = recWord r :: (recNums r).map itoa := by
    unfold recT
    refine words_glue _ (by simp) ?_
    intro x hx
    rcases List.mem_cons.1 hx with rfl | hx
    · exact recWord_blank r
    · obtain ⟨n, _, rfl⟩ := List.mem_map.1 hx
      exact itoa_blank n
  have h1 : readO (recT r) = some r := by
    unfold readO
    rw [hw]
    simp only [List.headD_cons, List.tail_cons]
    rw [numsOf_map _ (fun n hn => by have := hs.2 n hn; omega)]
    exact recOf_nums h
  have h2 : readE (recT r) = 0 := by unfold readE; rw [h1]; exact h
  refine ⟨h1, h2, ?_⟩
  unfold readR
  rw [if_neg (by simp [h2]), h1]
  rfl

theorem recOf_some {w : List UInt8} {n : List Int} {r : Rc} (h : recOf w n = some r) : recWord r = w ∧ recNums r = n := by
  unfold recOf at h
  split at h
  · rename_i h1
    simp at h
    subst h
    obtain ⟨e1, e2⟩ := h1
    refine ⟨by rw [e1]; rfl, ?_⟩
    match n, e2 with
    | [a, b, c, d, e, f, g], _ => rfl
  · split at h
    · rename_i h1
      simp at h
      subst h
      obtain ⟨e1, e2⟩ := h1
      refine ⟨by rw [e1]; rfl, ?_⟩
      match n, e2 with
      | [a, b], _ => rfl
    · split at h
      · rename_i h1
        simp at h
        subst h
        obtain ⟨e1, e2⟩ := h1
        refine ⟨by rw [e1]; rfl, ?_⟩
        match n, e2 with
        | a :: l, _ => rfl
      · simp at h

/-- what is read is printed as it was -/
theorem text_read {s : List UInt8} (h : readE s = 0) : checkRec (readR s) = 0 ∧ recT (readR s) = s := by
  have hR : readR s = (readO s).getD noRec := by unfold readR; rw [if_neg (by simp [h])]
  unfold readE at h
  cases hr : readO s with
  | none => rw [hr] at h; simp at h
  | some r =>
    rw [hr] at h hR
    simp only [Option.getD_some] at h hR
    rw [hR]
    refine ⟨h, ?_⟩
    unfold readO at hr
    rw [Option.bind_eq_some_iff] at hr
    obtain ⟨n, h1, h2⟩ := hr
    obtain ⟨e1, e2⟩ := recOf_some h2
    unfold recT
    rw [e1, e2, ← numsOf_some _ n h1, ← wordsB_split, glue_words]

/-- unlike records have unlike texts -/
theorem text_inj {r q : Rc} (hr : checkRec r = 0) (hq : checkRec q = 0) : recT r = recT q ↔ r = q := by
  constructor
  · intro e
    have h1 := (read_text hr).2.2
    have h2 := (read_text hq).2.2
    rw [e, h2] at h1
    exact h1.symm
  · rintro rfl; rfl

theorem glue_len (ws : List (List UInt8)) (h : ∀ x ∈ ws, x.length ≤ 21) : (glue ws).length ≤ 22 * ws.length := by
  induction ws with
  | nil => simp [glue, Go.Lib.join]
  | cons x l ih =>
    have hx := h x (by simp)
    cases l with
    | nil => rw [glue_one]; simp; omega
    | cons y l =>
      have := ih (fun z hz => h z (by simp [hz]))
      rw [glue_cons]
      simp at this ⊢
      omega
theorem recT_len {r : Rc} (h : checkRec r = 0) : (recT r).length ≤ 176 := by
  have hs := recNums_small h
  have := glue_len (recWord r :: (recNums r).map itoa) (by
    intro x hx
    rcases List.mem_cons.1 hx with rfl | hx
    · unfold recWord; split
      · decide
      · split <;> decide
    · obtain ⟨n, hn, rfl⟩ := List.mem_map.1 hx
      have := hs.2 n hn
      exact Go.Lib.itoa_length_le n (by omega) (by omega))
  unfold recT
  simp at this
  omega
/-- P6.3, with the bound on the length -/
theorem parse_text {r : Rc} (h : checkRec r = 0) : parseE (recT r) = 0 ∧ parseR (recT r) = r := by
  have hl := recT_len h
  unfold parseE parseR
  rw [if_neg (by omega), if_neg (by omega)]
  exact (read_text h).2
theorem text_parse {s : List UInt8} (h : parseE s = 0) : checkRec (parseR s) = 0 ∧ recT (parseR s) = s := by
  unfold parseE at h
  unfold parseR
  split at h
  · omega
  · rename_i h1
    rw [if_neg h1]
    exact text_read h
end Orangery

/- Plain facts on mail: checked, sent, taken. -/
namespace Orangery

abbrev Vw := List Int × List Pl × List Pl
abbrev Dl := List Int × List Pl × List Int × List Pl
/-- mail: kind, who, life, seq, time, version, from; an operation; a view; a delta -/
abbrev Ml := (Int × Int × Int × Int × Int × Int × Int) × Mv × Vw × Dl
def noVw : Vw := ([], [], [])
def noDl : Dl := ([], [], [], [])
def noMl : Ml := ((0, 0, 0, 0, 0, 0, 0), noOp, noVw, noDl)
def viewME (v : Vw) : Int := viewE v.1 v.2.1 v.2.2
def deltaME (d : Dl) : Int := deltaE d.1 d.2.1 d.2.2.1 d.2.2.2
def noV (v : Vw) : Bool := v.1.isEmpty && v.2.1.isEmpty && v.2.2.isEmpty
def noD (d : Dl) : Bool := d.1.isEmpty && d.2.1.isEmpty && d.2.2.1.isEmpty && d.2.2.2.isEmpty
/-- nothing that an operation has no use for -/
def opUse (m : Ml) : Bool := decide (m.1.2.2.1 = 0) && decide (m.1.2.2.2.1 = 0) && decide (m.1.2.2.2.2.1 = 0) && decide (m.1.2.2.2.2.2.1 = 0) && decide (m.1.2.2.2.2.2.2 = 0) && noV m.2.2.1 && noD m.2.2.2 && decide (m.2.1.2.1 = m.1.2.1)
/-- nothing that a view, or a delta, has no use for -/
def seeUse (m : Ml) : Bool := decide (m.2.1 = noOp) && (!decide (m.1.1 = 2) || (decide (m.1.2.2.2.2.2.2 = 0) && noD m.2.2.2)) && (!decide (m.1.1 = 3) || noV m.2.2.1)
def seeRange (m : Ml) : Bool := decide (1 ≤ m.1.2.2.1 ∧ m.1.2.2.1 ≤ 50) && decide (0 ≤ m.1.2.2.2.1 ∧ m.1.2.2.2.1 ≤ 30) && decide (0 ≤ m.1.2.2.2.2.1 ∧ m.1.2.2.2.2.1 ≤ 10000) && decide (1 ≤ m.1.2.2.2.2.2.1 ∧ m.1.2.2.2.2.2.1 ≤ 60) && decide (0 ≤ m.1.2.2.2.2.2.2 ∧ m.1.2.2.2.2.2.2 < m.1.2.2.2.2.2.1)
/-- one mail -/
def ml1E (m : Ml) : Int :=
  if ¬ (1 ≤ m.1.1 ∧ m.1.1 ≤ 3) then 4
  else if ¬ (0 ≤ m.1.2.1 ∧ m.1.2.1 ≤ 2) then 5
  else if m.1.1 = 1 then (if opUse m = true then checkOp m.2.1 else 4)
  else if seeUse m = false then 4
  else if seeRange m = false then 3
  else if m.1.1 = 3 then deltaME m.2.2.2 else viewME m.2.2.1
def mlsE : List Ml → Int
  | [] => 0
  | m :: l => if ml1E m ≠ 0 then ml1E m else mlsE l
/-- chapter 9's Check -/
def mlE (l : List Ml) : Int := if 30 < l.length then 2 else mlsE l
/-- chapter 9's Send, Take -/
def sendE (l : List Ml) (m : Ml) : Int := if mlE l ≠ 0 then mlE l else ml1E m
def sendL (l : List Ml) (m : Ml) : List Ml := if sendE l m ≠ 0 then [] else if l.length = 30 then l else l ++ [m]
def takeE (l : List Ml) (k : Int) : Int := if mlE l ≠ 0 then mlE l else if ¬ (0 ≤ k ∧ k < l.length) then 5 else 0
def takeL (l : List Ml) (k : Int) (b : Bool) : List Ml := if takeE l k ≠ 0 then [] else if b then l else l.take k.toNat ++ l.drop (k.toNat + 1)
def takeM (l : List Ml) (k : Int) : Ml := if takeE l k ≠ 0 then noMl else l.getD k.toNat noMl

theorem mlsE_app (l m : List Ml) : mlsE (l ++ m) = if mlsE l ≠ 0 then mlsE l else mlsE m := by
  induction l with
  | nil => rfl
  | cons x l ih =>
    show (if ml1E x ≠ 0 then ml1E x else mlsE (l ++ m)) = if (if ml1E x ≠ 0 then ml1E x else mlsE l) ≠ 0 then (if ml1E x ≠ 0 then ml1E x else mlsE l) else mlsE m
    by_cases h : ml1E x = 0
    · simp only [h, ne_eq, not_true_eq_false, if_false]
      exact ih
    · rw [if_pos h, if_pos h, if_pos h]
theorem mlsE_one (m : Ml) : mlsE [m] = ml1E m := by
  show (if ml1E m ≠ 0 then ml1E m else 0) = ml1E m
  split
  · rfl
  · rename_i h
    simp only [ne_eq, Decidable.not_not] at h
    exact h.symm
theorem mlE_one (m : Ml) : mlE [m] = ml1E m := by
  unfold mlE
  rw [if_neg (by simp)]
  exact mlsE_one m
theorem mlE_zero {l : List Ml} (h : mlE l = 0) : l.length ≤ 30 ∧ mlsE l = 0 := by
  unfold mlE at h
  split at h
  · omega
  · exact ⟨by omega, h⟩
theorem mlE_none : mlE [] = 0 := rfl
theorem send_zero {l : List Ml} {m : Ml} (h : sendE l m = 0) : mlE l = 0 ∧ ml1E m = 0 := by
  unfold sendE at h
  split at h
  · rename_i h1; exact absurd h h1
  · rename_i h1; exact ⟨by simpa using h1, h⟩
theorem send_full {l : List Ml} {m : Ml} (h : sendE l m = 0) (h2 : l.length = 30) : sendL l m = l := by
  unfold sendL
  rw [if_neg (by simp [h]), if_pos h2]
theorem send_room {l : List Ml} {m : Ml} (h : sendE l m = 0) (h2 : l.length ≠ 30) : sendL l m = l ++ [m] ∧ mlE (l ++ [m]) = 0 := by
  obtain ⟨h3, h4⟩ := send_zero h
  obtain ⟨h5, h6⟩ := mlE_zero h3
  refine ⟨by unfold sendL; rw [if_neg (by simp [h]), if_neg h2], ?_⟩
  unfold mlE
  rw [if_neg (by simp; omega), mlsE_app, if_neg (by simp [h6]), mlsE_one]
  exact h4
/-- what is sent last is taken as it was -/
theorem take_last {l : List Ml} {m : Ml} (h : mlE (l ++ [m]) = 0) : takeE (l ++ [m]) l.length = 0 ∧ takeL (l ++ [m]) l.length false = l ∧ takeM (l ++ [m]) l.length = m := by
  have e : takeE (l ++ [m]) l.length = 0 := by unfold takeE; rw [if_neg (by simp [h]), if_neg (by simp only [List.length_append, List.length_singleton]; omega)]
  refine ⟨e, ?_, ?_⟩
  · unfold takeL
    rw [if_neg (by simp [e])]
    simp
  · unfold takeM
    rw [if_neg (by simp [e])]
    simp [List.getD_eq_getElem?_getD]
/-- taken twice it is still there -/
theorem take_twice {l : List Ml} {k : Nat} (h : mlE l = 0) (hk : k < l.length) : takeE l k = 0 ∧ takeL l k true = l ∧ takeM l k = l[k] := by
  have e : takeE l k = 0 := by unfold takeE; rw [if_neg (by simp [h]), if_neg (by omega)]
  refine ⟨e, ?_, ?_⟩
  · unfold takeL
    rw [if_neg (by simp [e]), if_pos rfl]
  · unfold takeM
    rw [if_neg (by simp [e])]
    simp [List.getD_eq_getElem?_getD, hk]
end Orangery

/- Plain facts on clients: checked, begun, moved, told, shown. -/
namespace Orangery

/-- a client: life, time, number, version; what isn't accepted; its view -/
abbrev Cl := (Int × Int × Int × Int) × List Mv × Vw
def noCl : Cl := ((0, 0, 0, 0), [], noVw)
def clRange (c : Cl) : Bool := decide (0 ≤ c.1.1 ∧ c.1.1 ≤ 50) && decide (0 ≤ c.1.2.1 ∧ c.1.2.1 ≤ 10000) && decide (0 ≤ c.1.2.2.1 ∧ c.1.2.2.1 ≤ 30) && decide (0 ≤ c.1.2.2.2 ∧ c.1.2.2.2 ≤ 60)
def clForm (c : Cl) : Bool := (decide (c.1.1 = 0) && (decide (0 < c.1.2.1) || decide (0 < c.1.2.2.1) || decide (0 < c.1.2.2.2))) || (decide (c.1.2.2.2 = 0) && !c.2.2.1.isEmpty) || decide (c.1.2.2.1 < c.2.1.length)
/-- what isn't accepted, one by one: the number and the time ahead -/
def pendE (me life time : Int) : Int → Int → List Mv → Int
  | _, _, [] => 0
  | s, t, o :: l => if checkOp o ≠ 0 then checkOp o else if ¬ (o.2.1 = me ∧ o.2.2.2.1 = life ∧ o.2.2.2.2 = s + 1 ∧ t < o.1 ∧ o.1 ≤ time) then 4 else pendE me life time (s + 1) o.1 l
/-- chapter 10's Check -/
def clE (c : Cl) (me : Int) : Int :=
  if ¬ (0 ≤ me ∧ me ≤ 2) then 5 else if clRange c = false then 3 else if 8 < c.2.1.length then 2 else if viewME c.2.2 ≠ 0 then viewME c.2.2
  else if clForm c = true then 4 else pendE me c.1.1 c.1.2.1 (c.1.2.2.1 - c.2.1.length) 0 c.2.1
/-- Begin -/
def begE (life time : Int) : Int := if 1 ≤ life ∧ life ≤ 50 ∧ 0 ≤ time ∧ time ≤ 10000 then 0 else 3
def begC (life time : Int) : Cl := if begE life time ≠ 0 then noCl else ((life, time, 0, 0), [], noVw)
/-- Move -/
def movO (c : Cl) (me n p nm : Int) : Mv := (c.1.2.1 + 1, me, (n, p, nm), c.1.1, c.1.2.2.1 + 1)
def movE (c : Cl) (me n p nm : Int) : Int :=
  if clE c me ≠ 0 then clE c me else if c.1.1 = 0 then 7 else if c.2.1.length = 8 ∨ c.1.2.1 = 10000 ∨ c.1.2.2.1 = 30 then 2 else checkOp (movO c me n p nm)
def movC (c : Cl) (me n p nm : Int) : Cl := if movE c me n p nm ≠ 0 then noCl else ((c.1.1, c.1.2.1 + 1, c.1.2.2.1 + 1, c.1.2.2.2), c.2.1 ++ [movO c me n p nm], c.2.2)
def movP (c : Cl) (me n p nm : Int) : Mv := if movE c me n p nm ≠ 0 then noOp else movO c me n p nm
/-- Hear: nothing changes -/
def deaf (c : Cl) (m : Ml) : Bool := !decide (c.1.1 = m.1.2.2.1) || decide (m.1.2.2.2.2.2.1 ≤ c.1.2.2.2) || decide (c.1.2.2.1 < m.1.2.2.2.1) || (decide (m.1.1 = 3) && !decide (m.1.2.2.2.2.2.2 = c.1.2.2.2))
def apME (v : Vw) (d : Dl) : Int := apE v.1 v.2.1 v.2.2 d.1 d.2.1 d.2.2.1 d.2.2.2
def apMV (v : Vw) (d : Dl) : Vw := (v.1, appL v.2.1 d.1 d.2.1, appL v.2.2 d.2.2.1 d.2.2.2)
def hearV (c : Cl) (m : Ml) : Vw := if m.1.1 = 3 then apMV c.2.2 m.2.2.2 else m.2.2.1
def hearE (c : Cl) (me : Int) (m : Ml) : Int :=
  if clE c me ≠ 0 then clE c me else if ml1E m ≠ 0 then ml1E m else if m.1.1 = 1 ∨ m.1.2.1 ≠ me then 4 else if deaf c m = true then 0 else if m.1.1 = 3 then apME c.2.2 m.2.2.2 else 0
def heard (c : Cl) (m : Ml) : Cl := ((c.1.1, max c.1.2.1 m.1.2.2.2.2.1, c.1.2.2.1, m.1.2.2.2.2.2.1), c.2.1.filter (fun o => decide (m.1.2.2.2.1 < o.2.2.2.2)), hearV c m)
def hearC (c : Cl) (me : Int) (m : Ml) : Cl := if hearE c me m ≠ 0 then noCl else if deaf c m = true then c else heard c m
/-- Shows -/
def shown (c : Cl) : List Pl := c.2.1.foldl doT (togL c.2.2.2.1 c.2.2.2.2)
def showT (c : Cl) (me : Int) : List Pl := if clE c me ≠ 0 then [] else shown c

theorem clE_zero {c : Cl} {me : Int} (h : clE c me = 0) : (0 ≤ me ∧ me ≤ 2) ∧ clRange c = true ∧ c.2.1.length ≤ 8 ∧ viewME c.2.2 = 0 ∧ clForm c = false ∧ pendE me c.1.1 c.1.2.1 (c.1.2.2.1 - c.2.1.length) 0 c.2.1 = 0 := by
  unfold clE at h
  split at h
  · omega
  rename_i h1
  split at h
  · omega
  rename_i h2
  split at h
  · omega
  rename_i h3
  split at h
  · rename_i h4; exact absurd h h4
  rename_i h4
  split at h
  · omega
  rename_i h5
  exact ⟨by simpa using h1, by simpa using h2, by omega, by simpa using h4, by simpa using h5, h⟩
theorem clE_of {c : Cl} {me : Int} (h1 : 0 ≤ me ∧ me ≤ 2) (h2 : clRange c = true) (h3 : c.2.1.length ≤ 8) (h4 : viewME c.2.2 = 0) (h5 : clForm c = false) (h6 : pendE me c.1.1 c.1.2.1 (c.1.2.2.1 - c.2.1.length) 0 c.2.1 = 0) : clE c me = 0 := by
  unfold clE
  rw [if_neg (by simpa using h1), if_neg (by simp [h2]), if_neg (by omega), if_neg (by simp [h4]), if_neg (by simp [h5])]
  exact h6
theorem pend_cons {me life time s t : Int} {o : Mv} {l : List Mv} (h : pendE me life time s t (o :: l) = 0) : checkOp o = 0 ∧ (o.2.1 = me ∧ o.2.2.2.1 = life ∧ o.2.2.2.2 = s + 1 ∧ t < o.1 ∧ o.1 ≤ time) ∧ pendE me life time (s + 1) o.1 l = 0 := by
  unfold pendE at h
  split at h
  · rename_i h1; exact absurd h h1
  rename_i h1
  split at h
  · omega
  rename_i h2
  exact ⟨by simpa using h1, by simpa using h2, h⟩
theorem pend_of {me life time s t : Int} {o : Mv} {l : List Mv} (h1 : checkOp o = 0) (h2 : o.2.1 = me ∧ o.2.2.2.1 = life ∧ o.2.2.2.2 = s + 1 ∧ t < o.1 ∧ o.1 ≤ time) (h3 : pendE me life time (s + 1) o.1 l = 0) : pendE me life time s t (o :: l) = 0 := by
  unfold pendE
  rw [if_neg (by simp [h1]), if_neg (by simpa using h2)]
  exact h3
theorem pend_ops {me life time : Int} {l : List Mv} : ∀ {s t : Int}, pendE me life time s t l = 0 → ∀ o ∈ l, checkOp o = 0 ∧ o.2.1 = me ∧ o.2.2.2.1 = life ∧ s < o.2.2.2.2 ∧ o.2.2.2.2 ≤ s + l.length ∧ o.1 ≤ time := by
  induction l with
  | nil => intro s t _ o ho; simp at ho
  | cons x l ih =>
    intro s t h o ho
    obtain ⟨h1, ⟨h2, h3, h4, h5, h6⟩, h7⟩ := pend_cons h
    rcases List.mem_cons.1 ho with rfl | ho
    · simp only [List.length_cons]; exact ⟨h1, h2, h3, by omega, by omega, h6⟩
    · obtain ⟨g1, g2, g3, g4, g5, g6⟩ := ih h7 o ho
      simp only [List.length_cons]
      exact ⟨g1, g2, g3, by omega, by omega, g6⟩
/-- a later time, an elder one ahead -/
theorem pend_mono {me life time time' : Int} (ht : time ≤ time') {l : List Mv} : ∀ {s t t' : Int}, t' ≤ t → pendE me life time s t l = 0 → pendE me life time' s t' l = 0 := by
  induction l with
  | nil => intro s t t' _ _; rfl
  | cons x l ih =>
    intro s t t' h0 h
    obtain ⟨h1, ⟨h2, h3, h4, h5, h6⟩, h7⟩ := pend_cons h
    exact pend_of h1 ⟨h2, h3, h4, by omega, by omega⟩ (ih (Int.le_refl _) h7)
theorem op_time {o : Mv} (h : checkOp o = 0) : 1 ≤ o.1 := by
  have := checkOp_zero h
  unfold opOkB at this
  simp only [decide_eq_true_eq] at this
  omega
/-- what is above a number is an end of it -/
theorem pend_drop {me life time : Int} (q : Int) {l : List Mv} : ∀ {s t : Int}, pendE me life time s t l = 0 →
    ∃ n, n ≤ l.length ∧ l.filter (fun o => decide (q < o.2.2.2.2)) = l.drop n ∧ pendE me life time (s + n) 0 (l.drop n) = 0 ∧ ∀ o ∈ l.take n, o.2.2.2.2 ≤ q := by
  induction l with
  | nil => intro s t _; exact ⟨0, by simp, rfl, rfl, by simp⟩
  | cons x l ih =>
    intro s t h
    obtain ⟨h1, ⟨h2, h3, h4, h5, h6⟩, h7⟩ := pend_cons h
    have ht := op_time h1
    by_cases hq : q < s + 1
    · refine ⟨0, by simp, ?_, ?_, by simp⟩
      · rw [List.drop_zero, List.filter_eq_self]
        intro o ho
        have := (pend_ops h o ho).2.2.2.1
        simp only [decide_eq_true_eq]
        omega
      · rw [List.drop_zero, Int.natCast_zero, Int.add_zero]
        exact pend_of h1 ⟨h2, h3, h4, by omega, h6⟩ h7
    · obtain ⟨n, g1, g2, g3, g4⟩ := ih h7
      refine ⟨n + 1, by simpa using g1, ?_, ?_, ?_⟩
      · rw [List.filter_cons_of_neg (by simp; omega), List.drop_succ_cons]
        exact g2
      · rw [List.drop_succ_cons, show s + ((n + 1 : Nat) : Int) = s + 1 + (n : Int) by omega]
        exact g3
      · intro o ho
        rw [List.take_succ_cons] at ho
        rcases List.mem_cons.1 ho with rfl | ho
        · omega
        · exact g4 o ho
end Orangery

