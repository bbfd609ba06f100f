/- Slices of places in memory of the call's own. -/
import Derived.Test.YtphameoibnimmaaInts

import Derived.Lib.SliceRun
namespace Go.Proofs.Ytphameoibnimmaa
open Go.ChangeShapes Go.WideShapes Go.ChangeAt Go.RowKit
open Orangery (Pl)

def encPl (p : Pl) : List Value := [.int .i64 p.1, .int .i64 p.2.1, .int .i64 p.2.2]

/-- places from a block's head on, that may be written -/
def HoldsP (w : World) (g : Nat) (m : List Pl) : Prop :=
  PlsAt w g 0 m ∧ ∀ i, i < m.length * 3 → w.frozen? ⟨g, i, none⟩ = false

/-- a block is a row of places with so much room -/
def RowAt (w : World) (g cap : Nat) : Prop := ∃ cur, w.heap[g]? = some (.cells cur 36 (0, 0)) ∧ cur.size = cap * 3

theorem RowAt.below {w w' : World} {g cap B : Nat} (h : RowAt w g cap) (hb : Below B w w') (hg : g < B) : RowAt w' g cap := by
  obtain ⟨cur, h1, h2⟩ := h
  exact ⟨cur, by rw [hb.block g hg]; exact h1, h2⟩

theorem RowAt.set {w : World} {g cap : Nat} (h : RowAt w g cap) (b j : Nat) (v : Value) : RowAt (w.setCell ⟨b, j, none⟩ v) g cap := by
  obtain ⟨cur, h1, h2⟩ := h
  by_cases hb : g = b
  · subst hb
    exact ⟨_, heap_setCell_same w g j cur _ v h1, by simpa using h2⟩
  · exact ⟨cur, by rw [heap_setCell_other w ⟨b, j, none⟩ g v hb]; exact h1, h2⟩

theorem RowAt.sets {g cap : Nat} (b : Nat) : ∀ (vs : List Value) (o : Nat) (w : World), RowAt w g cap → RowAt (w.setCells b o vs) g cap
  | [], _, _, h => h
  | v :: r, o, _, h => RowAt.sets b r (o + 1) _ (h.set b o v)

/-- a slice of the call's own -/
def OwnS (w : World) (base : Nat) (v : Value) (l : List Pl) : Prop :=
  (v = .slice none 0 0 ∧ l = []) ∨ ∃ g cap, v = .slice (some ⟨g, 0, none⟩) l.length cap ∧ base ≤ g ∧ g < w.heap.size ∧ l.length ≤ cap ∧ cap ≤ maxLen ∧ HoldsP w g l ∧ RowAt w g cap

theorem flat_len (l : List Pl) : (l.flatMap encPl).length = l.length * 3 := by
  induction l with
  | nil => rfl
  | cons p l ih => simp [List.flatMap_cons, ih, encPl]; omega

theorem flat_get (l : List Pl) : ∀ i, (h : i < l.length) → (l.flatMap encPl)[i * 3]? = some (.int .i64 l[i].1) ∧ (l.flatMap encPl)[i * 3 + 1]? = some (.int .i64 l[i].2.1) ∧ (l.flatMap encPl)[i * 3 + 2]? = some (.int .i64 l[i].2.2) := by
  induction l with
  | nil => intro i h; simp at h
  | cons p l ih =>
    intro i h
    cases i with
    | zero => simp [List.flatMap_cons, encPl]
    | succ i =>
      have := ih i (by simpa using h)
      rw [List.flatMap_cons]
      have e : ∀ j, (encPl p ++ l.flatMap encPl)[(i + 1) * 3 + j]? = (l.flatMap encPl)[i * 3 + j]? := by
        intro j
        rw [List.getElem?_append_right (by simp [encPl]; omega)]
        congr 1
        simp [encPl]
        omega
      have e0 := e 0
      simp only [Nat.add_zero] at e0
      rw [e0, e 1, e 2]
      simpa using this

theorem flat_one (l : List Pl) : ∀ v ∈ l.flatMap encPl, v.oneCell' = true := by
  intro v hv
  simp [encPl] at hv
  obtain ⟨_, _, _, _, rfl | rfl | rfl⟩ := hv <;> rfl

theorem pls_flat {w : World} {b off : Nat} {l : List Pl} (h : PlsAt w b off l) : ∀ j u, (l.flatMap encPl)[j]? = some u → w.cell? ((⟨b, off, none⟩ : Addr).add j) = some u := by
  intro j u hj
  have hlt : j < l.length * 3 := by
    rw [← flat_len]
    rcases Nat.lt_or_ge j (l.flatMap encPl).length with h' | h'
    · exact h'
    · rw [List.getElem?_eq_none h'] at hj; simp at hj
  have hi : j / 3 < l.length := by omega
  have hc := h (j / 3) hi
  have hg := flat_get l (j / 3) hi
  have ha : (⟨b, off, none⟩ : Addr).add j = ⟨b, off + j, none⟩ := by unfold Addr.add; by_cases hz : j = 0 <;> simp [hz]
  rw [ha]
  have hm : j % 3 = 0 ∨ j % 3 = 1 ∨ j % 3 = 2 := by omega
  rcases hm with hm | hm | hm
  · have e : j = j / 3 * 3 := by omega
    have e2 : off + j = off + j / 3 * 3 := by omega
    rw [e2, hc.1]
    rw [e, hg.1] at hj
    exact hj
  · have e : j = j / 3 * 3 + 1 := by omega
    have e2 : off + j = off + j / 3 * 3 + 1 := by omega
    rw [e2, hc.2.1]
    rw [e, hg.2.1] at hj
    exact hj
  · have e : j = j / 3 * 3 + 2 := by omega
    have e2 : off + j = off + j / 3 * 3 + 2 := by omega
    rw [e2, hc.2.2]
    rw [e, hg.2.2] at hj
    exact hj

theorem own_pls {w : World} {base : Nat} {v : Value} {l : List Pl} (h : w.ownsRow base 36 3 v l.length (l.flatMap encPl)) : OwnS w base v l := by
  obtain ⟨h1, h2⟩ := h
  rcases h2 with ⟨hv, hn⟩ | ⟨g, cap, cur, hv, hb, hh, hn, hm, hs, ht⟩
  · exact Or.inl ⟨hv, List.length_eq_zero_iff.1 hn⟩
  · refine Or.inr ⟨g, cap, hv, hb, blk_lt hh, hn, hm, ⟨?_, ?_⟩, cur, hh, hs⟩
    · intro i hi
      have hg := flat_get l i hi
      rw [← ht] at hg
      have key : ∀ j u, (cur.toList.take (l.length * 3))[j]? = some u → w.cell? ⟨g, 0 + j, none⟩ = some u := by
        intro j u hj
        rw [Go.Joins.cell_of_block hh, Nat.zero_add]
        rw [List.getElem?_take] at hj
        split at hj
        · simpa using hj
        · simp at hj
      have k0 := key _ _ hg.1
      have k1 := key _ _ hg.2.1
      have k2 := key _ _ hg.2.2
      rw [← Nat.add_assoc] at k1 k2
      exact ⟨k0, k1, k2⟩
    · intro i _
      exact Go.Joins.unfrozen_of_block hh i

theorem OwnS.slp {w : World} {base : Nat} {v : Value} {l : List Pl} (h : OwnS w base v l) : ∃ a cap, v = .slice a l.length cap ∧ SlP w a l := by
  rcases h with ⟨rfl, rfl⟩ | ⟨g, cap, rfl, _, hg, _, _, hp, _⟩
  · exact ⟨none, 0, rfl, Or.inl rfl⟩
  · exact ⟨_, cap, rfl, Or.inr ⟨g, 0, rfl, hg, hp.1⟩⟩

theorem OwnS.below {w w' : World} {base : Nat} {v : Value} {l : List Pl} (h : OwnS w base v l) (hb : Below w.heap.size w w') : OwnS w' base v l := by
  rcases h with h | ⟨g, cap, rfl, h1, hg, h2, h3, ⟨hp, hf⟩, hr⟩
  · exact Or.inl h
  · refine Or.inr ⟨g, cap, rfl, h1, Nat.lt_of_lt_of_le hg hb.size, h2, h3, ⟨fun i hi => ?_, fun i hi => ?_⟩, hr.below hb hg⟩
    · rw [hb.cell hg, hb.cell hg, hb.cell hg]; exact hp i hi
    · rw [hb.frozen hg]; exact hf i hi

/-- an own slice, for an append -/
theorem OwnS.row {w : World} {base : Nat} {v : Value} {l : List Pl} (h : OwnS w base v l) : w.ownsRow base 36 3 v l.length (l.flatMap encPl) := by
  refine ⟨flat_len l, ?_⟩
  rcases h with ⟨rfl, rfl⟩ | ⟨g, cap, rfl, h1, hg, h2, h3, hp, cur, hc, hs⟩
  · exact Or.inl ⟨rfl, rfl⟩
  · refine Or.inr ⟨g, cap, cur, rfl, h1, hc, h2, h3, hs, ?_⟩
    have h4 := pls_flat hp.1
    apply List.ext_getElem?
    intro j
    by_cases hj : j < l.length * 3
    · obtain ⟨u, hu⟩ : ∃ u, (l.flatMap encPl)[j]? = some u := ⟨_, List.getElem?_eq_getElem (by rw [flat_len]; exact hj)⟩
      have h5 := h4 j u hu
      have ha : (⟨g, 0, none⟩ : Addr).add j = ⟨g, j, none⟩ := by unfold Addr.add; by_cases hz : j = 0 <;> simp [hz]
      rw [ha, Go.Joins.cell_of_block hc] at h5
      rw [List.getElem?_take_of_lt hj, hu]
      simpa using h5
    · rw [List.getElem?_eq_none (by simp; omega), List.getElem?_eq_none (by rw [flat_len]; omega)]

theorem infoPlace : (Try.prog.info? 36).map (fun i => (i.zero, i.size, i.bytes)) = some (some (.agg #[.int .i64 0, .int .i64 0, .int .i64 0]), 3, 24) := by kernel_rfl

set_option maxHeartbeats 1000000 in
theorem clone_any (w : World) (a : Option Addr) (c : Nat) (l : List Pl) (hl : l.length ≤ 1000) (h : SlP w a l) :
    Calls Try.prog 41 #[.slice a l.length c] w
      fun e w' => ∃ v, e = .returned v ∧ OwnS w' w.heap.size v l ∧ Below w.heap.size w w' := by
  obtain ⟨i0, hi, hz0, hz1, hz2⟩ := info_parts infoPlace
  have hq := fun (W : World) (a : Option Addr) (n c : Nat) => Lib.run_eql_slice_nil (P := Try.prog) W 27 36 a n c 0 0 Try.underlying27
  cases a with
  | none =>
    have hl0 : l = [] := by
      rcases h with h | ⟨b, off, h, _⟩
      · exact h
      · simp at h
    subst hl0
    go_enter Try.func41, Try.ntmps41
    go_wp2
    go_ret
    exact ⟨_, rfl, Or.inl ⟨rfl, rfl⟩, Below.refl _ _⟩
  | some ad =>
    have hB := Go.Joins.below_alloc1 w (Obj.cells #[] 36)
    have hP := h.below hB
    have hown : (w.alloc (Obj.cells #[] 36)).ownsRow w.heap.size 36 3 (.slice (some ⟨w.heap.size, 0, none⟩) 0 0) 0 [] :=
      ⟨rfl, Or.inr ⟨w.heap.size, 0, #[], rfl, Nat.le_refl _, blk_new rfl, Nat.le_refl _, by unfold maxLen; omega, rfl, rfl⟩⟩
    have hnews : ∀ j u, (l.flatMap encPl)[j]? = some u → (w.alloc (Obj.cells #[] 36)).cell? (ad.add j) = some u := by
      rcases hP with hP | ⟨b, off, ha, _, hp⟩
      · intro j u hj; subst hP; simp at hj
      · simp at ha
        subst ha
        exact pls_flat hp
    have HP : Hid (SlP w (some ad) l) := h
    have HN : Hid (∀ j u, (l.flatMap encPl)[j]? = some u → (w.alloc (Obj.cells #[] 36)).cell? (ad.add j) = some u) := hnews
    clear hP h hnews
    go_enter Try.func41, Try.ntmps41
    go_wp2_with (at_builtin; refine wpList_append_own _ rfl _ _ 27 rfl w.heap.size 36 i0 _ 3 24 Try.underlying27 hi hz0 hz1 hz2 rfl (by decide) _ _ _ rfl hown ad l.length c (l.flatMap encPl) rfl (flat_len l) ?c1 ?c2 ?c3 ?c4 ?c5 ?_)
    case c1 => exact HN.out
    case c2 => exact flat_one l
    case c3 => unfold maxLen; omega
    case c4 => omega
    case c5 => exact hB.size
    · intro v' w1 hown' hgrow _
      have hb1 := hB.trans (below_grown hown hB.size hgrow)
      have hO : OwnS w1 w.heap.size v' l := own_pls (by simpa using hown')
      clear hgrow hown hown'
      go_wp2
      go_ret
      exact ⟨_, rfl, hO, hb1⟩
end Go.Proofs.Ytphameoibnimmaa
