/- 5 texts of the proof: view.together, view.Same, orangeryref.SameView. slices.Index, slices.Contains, slices.ContainsFunc at places. delta.has, delta.inRange, delta.checkGone, delta.partsOf, delta.changesOf. slices.Contains at ints. Regions that draw their order, walked step by step: an operation that is not wanted is taken too. -/
import Derived.Laws.AppendOwnNone
import Derived.Deep.RegionHeld3
import Derived.Test.YtijjiccgpobjmaeGreatP07
import Derived.Test.YtijjiccgpobjmaeGreatP05
import Derived.Test.YtijjiccgpobjmaeGreatP02
import Derived.Test.YtijjiccgpobjmaeGreatP06
import Derived.Test.YtijjiccgpobjmaeGreatP03
import Derived.Test.YtijjiccgpobjmaeGreatP04
/- view.together, view.Same, orangeryref.SameView. -/
namespace Go.Proofs.YtijjiccgpobjmaeGreat
open Go.ChangeShapes Go.WideShapes Go.ChangeAt Go.RowKit
open Orangery (Pl check scan find inPl togL sameV cmpI)

theorem together2_any (w : World) (p q : Pl) :
    Calls Tryz.prog 103 #[plV p, plV q] w fun e w' => e = .returned (.int .i64 (cmpI p.1 q.1)) ∧ ∃ n os, w' = Go.Sort.grow (w.drewN n) os := by
  obtain ⟨a0, a1, a2⟩ := p
  obtain ⟨b0, b1, b2⟩ := q
  go_enter Tryz.func103, Tryz.ntmps103
  go_wp2_with fail
  refine (compare_any _ a0 b0).mono ?_
  rintro e w1 ⟨rfl, rfl⟩
  go_wp2
  go_ret
  exact ⟨rfl, 0, _, by rw [Go.Sort.alloc_eq_grow, Go.Sort.alloc_eq_grow, Go.Sort.grow_grow]; rfl⟩

theorem sort_tog (w : World) (base : Nat) (sv : Value) (l : List Pl) (hl : l.length ≤ 1000) (hbase : base ≤ w.heap.size) (h : OwnS w base sv l) :
    Calls Tryz.prog 61 #[sv, .func (.func 103) #[] #[]] w
      fun e w' => e = .returned (.tuple #[]) ∧ ∃ l', l'.Perm l ∧ (l'.Pairwise fun p q => p.1 ≤ q.1) ∧ OwnS w' base sv l' ∧ Below base w w' ∧ w.grownBy w' sv.ownBlock := by
  refine (sort_gen 103 cmpN swoNode (Go.Proofs.enters_of Tryz.func103 (by kernel_rfl) rfl) (fun w p q => together2_any w p q) w base sv l hl hbase h).mono ?_
  rintro e w' ⟨he, l', h1, h2, h3, h4, h5⟩
  exact ⟨he, l', h1, h2.imp (fun {p q} hh => by rw [cmpN_lt] at hh; omega), h3, h4, h5⟩

set_option maxHeartbeats 1000000 in
set_option maxRecDepth 100000 in
theorem together1_any (w : World) (p : Pl) (b : Nat) (v : Value) (a : Option Addr) (c : Nat) (W : List Pl) (hl : W.length ≤ maxLen) (h : SlP w a W) (hB : Blk w b [v, .slice a W.length c]) :
    Calls Tryz.prog 102 #[plV p, .pointer (some ⟨b, 0, none⟩)] w fun e w' => e = .returned (.bool (inPl W p.1)) ∧ Below w.heap.size w w' := by
  obtain ⟨p0, p1, p2⟩ := p
  obtain ⟨W0, hW, hN, hB0, hS⟩ := laid1 w [Value.int IntKind.i64 p0, Value.int IntKind.i64 p1, Value.int IntKind.i64 p2] 47
  have hX := hB.keep hB0
  have hP := h.below hB0
  have HB0 : Hid (Below w.heap.size w W0) := hB0
  clear h hB hB0
  go_enter Tryz.func102, Tryz.ntmps102
  go_upto_region 1 with fail
  clear hW
  have x1 := hX.at 1 rfl
  have n0 := hN.at 0 rfl
  have HQ : Hid (inPl W p0 = decide ((find W p0).1 = p0)) := rfl
  have HF := fun w' => find_any w' a c W p0 hl
  have HFF : Hid (∀ w', SlP w' a W → Calls Tryz.prog 25 #[.agg #[.slice a W.length c], .int .i64 p0] w' fun e w'' => e = .returned (plV (find W p0)) ∧ Below w'.heap.size w' w'') := HF
  have hfd := fun x0 x1 x2 W => (run_field_pl x0 x1 x2 W).1
  clear HF
  generalize find W p0 = q at *
  obtain ⟨q0, q1, q2⟩ := q
  go_region_held3 (fun w' => w'.cell? ⟨b, 1, none⟩ = some (.slice a W.length c) ∧ w'.cell? ⟨w.heap.size, 0, none⟩ = some (.int .i64 p0)) (go_keep)
    (first | (go_at_call 25; refine (HFF.out _ ?_).mono ?_; exact hP; rintro e w1 ⟨rfl, hb1⟩; have hb1' : Below W0.heap.size W0 w1 := ((Below.refl _ W0).drew).trans hb1; have x11 := (hX.keep hb1').at 1 rfl; have n10 := (hN.keep hb1').at 0 rfl))
  have HB1 : Hid (Below w.heap.size w w1) := HB0.out.trans (hb1'.mono HB0.out.size)
  clear hb1 hb1' x11 n10 x1 n0
  go_wp2
  go_ret
  exact ⟨ret_bool (by rw [HQ.out]; rfl), HB1.out⟩

set_option maxHeartbeats 2000000 in
set_option maxRecDepth 100000 in
theorem together_any (w : World) (aK aW : Option Addr) (cK cW : Nat) (K W : List Pl) (hK : scan 0 K = 0) (hW : scan 0 W = 0) (hc : aW = none → cW = 0) (h1 : SlP w aK K) (h2 : SlP w aW W) :
    Calls Tryz.prog 75 #[.agg #[.slice aK K.length cK, .slice aW W.length cW]] w
      fun e w' => ∃ v, e = .returned (.agg #[v]) ∧ OwnS w' w.heap.size v (togL K W) ∧ Below w.heap.size w w' := by
  obtain ⟨i0, hi, hz0, hz1, hz2⟩ := info_parts infoPlace
  have hKl : K.length ≤ 15 := by have := Orangery.scan_len K 0 hK (by omega); omega
  have hWl : W.length ≤ 15 := by have := Orangery.scan_len W 0 hW (by omega); omega
  obtain ⟨W0, hW0, hX, hR, hB, hS⟩ := laid2 w [Value.slice aK K.length cK, Value.slice aW W.length cW] 106 [Value.slice none 0 0] 37
  have x0 := hX.at 0 rfl
  have hS1 : w.heap.size + 1 < W0.heap.size := by omega
  clear hS
  have hP1 := h1.below hB
  have HP2 : Hid (SlP w aW W) := h2
  have HB : Hid (Below w.heap.size w W0) := hB
  clear h1 h2
  go_enter Tryz.func75, Tryz.ntmps75
  go_wp2_with fail
  clear hW0
  refine (clone_any W0 aK cK K (by omega) hP1).mono ?_
  rintro e w1 ⟨v1, rfl, hO1, hb1⟩
  have hX1 := hX.keep hb1
  have hR1 := hR.keep hb1
  have HB1 : Hid (Below w.heap.size w w1) := HB.out.trans (hb1.mono HB.out.size)
  clear hX hR hB hP1 HB x0
  go_wp2_with fail
  refine (delete_any w1 W0.heap.size v1 K 102 (.pointer (some ⟨w.heap.size, 0, none⟩)) (fun p => inPl W p.1) (by omega) hO1 hb1.size (Go.Proofs.enters_of Tryz.func102 (by kernel_rfl) rfl) ?_).mono ?_
  · intro V p hV
    exact together1_any V p w.heap.size _ aW cW W (by unfold maxLen; omega) (HP2.out.below (HB1.out.trans (hV.mono (by omega)))) (hX1.below hV (by omega))
  rintro e w2 ⟨v2, rfl, hO2, hb2⟩
  have hX2 := hX1.below hb2 (by omega)
  have hR2 := hR1.below hb2 (by omega)
  have HB2 : Hid (Below w.heap.size w w2) := HB1.out.trans (hb2.mono (by omega))
  have hsz2 : W0.heap.size ≤ w2.heap.size := Nat.le_trans hb1.size hb2.size
  have hO2r := hO2.row
  have hP2 := HP2.out.below HB2.out
  generalize hM : (K.filter fun p => !inPl W p.1) = M at *
  have hMl : M.length ≤ 15 := by rw [← hM]; exact Nat.le_trans (List.length_filter_le _ _) hKl
  have HU : Hid (∀ l', l'.Perm (M ++ W) → (l'.Pairwise fun p q => p.1 ≤ q.1) → l' = togL K W) := fun l' h1 h2 => Orangery.tog_unique K W l' hK hW (by rw [hM]; exact h1) h2
  clear hO1 hb1 hX1 hR1 HB1 hb2 hM hK
  have y1 := hX2.at 1 rfl
  have HX2 : Hid (Blk w2 w.heap.size [Value.slice aK K.length cK, Value.slice aW W.length cW]) := hX2
  have HR2 : Hid (Blk w2 (w.heap.size + 1) [Value.slice none 0 0]) := hR2
  clear hX2 hR2
  have FIN : Hid (∀ (v3 : Value) (w3 : World), OwnS w3 W0.heap.size v3 (M ++ W) → Blk w3 (w.heap.size + 1) [Value.slice none 0 0] → W0.heap.size ≤ w3.heap.size → Below w.heap.size w w3 →
      Calls Tryz.prog 61 #[v3, .func (.func 103) #[] #[]] w3 fun e w' => e = .returned (.tuple #[]) ∧ OwnS w' W0.heap.size v3 (togL K W) ∧ Blk w' (w.heap.size + 1) [Value.slice none 0 0] ∧ Below w.heap.size w w') := by
    intro v3 w3 h1 h2 h3 h4
    refine (sort_tog w3 W0.heap.size v3 (M ++ W) (by simp; omega) h3 h1).mono ?_
    rintro e w4 ⟨he, l', hp, hs, hO, hb, _⟩
    have := HU.out l' hp hs
    subst this
    exact ⟨he, hO, h2.below hb (by omega), h4.trans (hb.mono (by omega))⟩
  clear HU
  have END : Hid (∀ (v3 : Value) (w4 : World), OwnS w4 W0.heap.size v3 (togL K W) → Below w.heap.size w w4 → ∃ a3 c3, v3 = .slice a3 (togL K W).length c3 ∧ OwnS (w4.setCell ⟨w.heap.size + 1, 0, none⟩ (.slice a3 (togL K W).length c3)) w.heap.size (.slice a3 (togL K W).length c3) (togL K W) ∧ Below w.heap.size w (w4.setCell ⟨w.heap.size + 1, 0, none⟩ (.slice a3 (togL K W).length c3))) := by
    intro v3 w4 h1 h2
    obtain ⟨a3, c3, rfl⟩ := h1.val
    exact ⟨a3, c3, rfl, (h1.other _ (by omega) _ _).mono (by omega), h2.setCell (by show _ ≤ w.heap.size + 1; omega) _⟩
  cases aW with
  | none =>
    have e1 := hP2.none_nil
    have e2 := hc rfl
    have y1' : w2.cell? ⟨w.heap.size, 1, none⟩ = some (.slice none 0 0) := by rw [y1, e1, e2]; rfl
    have E3 : Hid (M ++ W = M) := by show _ = _; rw [e1, List.append_nil]
    clear y1 e1 e2
    go_wp2_with (at_builtin; refine wpList_append_own_none rfl _ _ 24 rfl W0.heap.size 47 i0 3 Tryz.underlying24 hi _ M.length (M.flatMap encPl) rfl hO2r rfl ?_)
    refine (FIN.out v2 w2 (by rw [E3.out]; exact hO2) HR2.out hsz2 HB2.out).mono ?_
    rintro e w4 ⟨rfl, hO4, hR4, hb4⟩
    obtain ⟨a3, c3, rfl, hOf, hBf⟩ := END.out _ _ hO4 hb4
    have HOf : Hid (OwnS (w4.setCell ⟨w.heap.size + 1, 0, none⟩ (.slice a3 (togL K W).length c3)) w.heap.size (.slice a3 (togL K W).length c3) (togL K W)) := hOf
    have HBf : Hid (Below w.heap.size w (w4.setCell ⟨w.heap.size + 1, 0, none⟩ (.slice a3 (togL K W).length c3))) := hBf
    have HRf : Hid (Blk (w4.setCell ⟨w.heap.size + 1, 0, none⟩ (.slice a3 (togL K W).length c3)) (w.heap.size + 1) [.slice a3 (togL K W).length c3]) := hR4.set 0 (by simp) _
    have r0 := hR4.at 0 rfl
    have rf := hR4.frz
    clear hO4 hOf hBf hR4 hb4 FIN END
    go_wp2
    exact ret_cell Tryz.results75 rfl HRf.out.tree ⟨_, rfl, HOf.out, HBf.out⟩
  | some ad =>
    have HN : Hid (∀ j u, (W.flatMap encPl)[j]? = some u → w2.cell? (ad.add j) = some u) := hP2.news
    clear hP2
    go_wp2_with (at_builtin; refine wpList_append_own _ rfl _ _ 24 rfl W0.heap.size 47 i0 _ 3 24 Tryz.underlying24 hi hz0 hz1 hz2 rfl (by decide) _ _ _ rfl hO2r ad W.length cW (W.flatMap encPl) rfl (flatE_len encPl_len W) ?c1 ?c2 ?c3 ?c4 ?c5 ?_)
    case c1 => exact HN.out
    case c2 => exact flat_one W
    case c3 => unfold maxLen; omega
    case c4 => omega
    case c5 => exact hsz2
    intro v3 w3 hown' hgrow _
    have hlo : ∀ g, v2.ownBlock = some g → W0.heap.size ≤ g := fun g hg => (World.ownsRow.lt hO2r g hg).1
    have hO3 : OwnS w3 W0.heap.size v3 (M ++ W) := own_pls (by rw [List.length_append, List.flatMap_append]; exact hown')
    have hR3 := HR2.out.grown hgrow (fun e => by have := hlo _ e.symm; omega)
    have hb3 : Below W0.heap.size w2 w3 := (Below.refl _ w2).grown hgrow hsz2 hlo
    have hB3 : Below w.heap.size w w3 := HB2.out.trans (hb3.mono (by omega))
    have hsz3 : W0.heap.size ≤ w3.heap.size := Nat.le_trans hsz2 hb3.size
    clear hown' hgrow hlo hb3 hO2r HN HX2 HR2 HB2 y1 hO2
    go_wp2_with fail
    refine (FIN.out v3 w3 hO3 hR3 hsz3 hB3).mono ?_
    clear hO3 hR3 hsz3 hB3
    rintro e w4 ⟨rfl, hO4, hR4, hb4⟩
    obtain ⟨a3, c3, rfl, hOf, hBf⟩ := END.out _ _ hO4 hb4
    have HOf : Hid (OwnS (w4.setCell ⟨w.heap.size + 1, 0, none⟩ (.slice a3 (togL K W).length c3)) w.heap.size (.slice a3 (togL K W).length c3) (togL K W)) := hOf
    have HBf : Hid (Below w.heap.size w (w4.setCell ⟨w.heap.size + 1, 0, none⟩ (.slice a3 (togL K W).length c3))) := hBf
    have HRf : Hid (Blk (w4.setCell ⟨w.heap.size + 1, 0, none⟩ (.slice a3 (togL K W).length c3)) (w.heap.size + 1) [.slice a3 (togL K W).length c3]) := hR4.set 0 (by simp) _
    have r0 := hR4.at 0 rfl
    have rf := hR4.frz
    clear hO4 hOf hBf hR4 hb4 FIN END
    go_wp2
    exact ret_cell Tryz.results75 rfl HRf.out.tree ⟨_, rfl, HOf.out, HBf.out⟩

set_option maxHeartbeats 1000000 in
theorem vsame_any (w : World) (aR aK aV bR bK bV : Option Addr) (cR cK cV dR dK dV : Nat) (R R' : List Int) (K K' V V' : List Pl) (hR : R.length ≤ maxLen) (hK : K.length ≤ maxLen) (hV : V.length ≤ maxLen)
    (h1 : SlI w aR R) (h2 : SlP w aK K) (h3 : SlP w aV V) (h4 : SlI w bR R') (h5 : SlP w bK K') (h6 : SlP w bV V') :
    Calls Tryz.prog 43 #[viV (.slice aR R.length cR) (.slice aK K.length cK) (.slice aV V.length cV), viV (.slice bR R'.length dR) (.slice bK K'.length dK) (.slice bV V'.length dV)] w
      fun e w' => e = .returned (.bool (sameV R R' K K' V V')) ∧ Below w.heap.size w w' := by
  have HS : Hid (sameV R R' K K' V V' = (eqIs R R' && eqPls K K' && eqPls V V')) := rfl
  obtain ⟨W0, hW, hA, hC, hB, _⟩ := laid2 w [Value.slice aR R.length cR, Value.slice aK K.length cK, Value.slice aV V.length cV] 26 [Value.slice bR R'.length dR, Value.slice bK K'.length dK, Value.slice bV V'.length dV] 26
  have x0 := hA.at 0 rfl
  have y0 := hC.at 0 rfl
  have g1 := h1.below hB
  have g2 := h2.below hB
  have g3 := h3.below hB
  have g4 := h4.below hB
  have g5 := h5.below hB
  have g6 := h6.below hB
  have HB : Hid (Below w.heap.size w W0) := hB
  clear h1 h2 h3 h4 h5 h6 hB
  go_enter Tryz.func43, Tryz.ntmps43
  go_wp2_with fail
  clear hW
  refine (equal_is W0 aR bR cR dR R R' hR g1 g4).mono ?_
  rintro e w1 ⟨rfl, n, rfl⟩
  have hb1 : Below W0.heap.size W0 (W0.drewN n) := ⟨rfl, rfl, rfl, Nat.le_refl _, fun _ _ => rfl⟩
  have hA1 := hA.keep hb1
  have hC1 := hC.keep hb1
  have k2 := g2.below hb1
  have k3 := g3.below hb1
  have k5 := g5.below hb1
  have k6 := g6.below hb1
  have HB1 : Hid (Below w.heap.size w (W0.drewN n)) := HB.out.trans (hb1.mono HB.out.size)
  clear hA hC HB hb1 g1 g2 g3 g4 g5 g6 x0 y0
  generalize W0.drewN n = W1 at *
  have x1 := hA1.at 1 rfl
  have y1 := hC1.at 1 rfl
  cases hq : eqIs R R'
  · go_wp2
    go_ret
    exact ⟨ret_bool (by rw [HS.out, hq]; rfl), HB1.out⟩
  · go_wp2_with fail
    refine (equal_pls W1 aK bK cK dK K K' hK k2 k5).mono ?_
    rintro e w2 ⟨rfl, n2, rfl⟩
    have hb2 : Below W1.heap.size W1 (W1.drewN n2) := ⟨rfl, rfl, rfl, Nat.le_refl _, fun _ _ => rfl⟩
    have hA2 := hA1.keep hb2
    have hC2 := hC1.keep hb2
    have m3 := k3.below hb2
    have m6 := k6.below hb2
    have HB2 : Hid (Below w.heap.size w (W1.drewN n2)) := HB1.out.trans (hb2.mono HB1.out.size)
    clear hA1 hC1 HB1 hb2 k2 k3 k5 k6 x1 y1
    generalize W1.drewN n2 = W2 at *
    have x2 := hA2.at 2 rfl
    have y2 := hC2.at 2 rfl
    cases hq2 : eqPls K K'
    · go_wp2
      go_ret
      exact ⟨ret_bool (by rw [HS.out, hq, hq2]; rfl), HB2.out⟩
    · go_wp2_with fail
      refine (equal_pls W2 aV bV cV dV V V' hV m3 m6).mono ?_
      rintro e w3 ⟨rfl, n3, rfl⟩
      have HB3 : Hid (Below w.heap.size w (W2.drewN n3)) := HB2.out.trans ⟨rfl, rfl, rfl, Nat.le_refl _, fun _ _ => rfl⟩
      generalize W2.drewN n3 = W3 at *
      clear m3 m6 x2 y2
      go_wp2
      go_ret
      exact ⟨ret_bool (by rw [HS.out, hq, hq2]; rfl), HB3.out⟩

set_option maxHeartbeats 1000000 in
theorem rsameV_any (w : World) (aR aK aV bR bK bV : Option Addr) (cR cK cV dR dK dV : Nat) (R R' : List Int) (K K' V V' : List Pl) (hR : R.length ≤ maxLen) (hK : K.length ≤ maxLen) (hV : V.length ≤ maxLen)
    (h1 : SlI w aR R) (h2 : SlP w aK K) (h3 : SlP w aV V) (h4 : SlI w bR R') (h5 : SlP w bK K') (h6 : SlP w bV V') :
    Calls Tryz.prog 44 #[viV (.slice aR R.length cR) (.slice aK K.length cK) (.slice aV V.length cV), viV (.slice bR R'.length dR) (.slice bK K'.length dK) (.slice bV V'.length dV)] w
      fun e w' => e = .returned (.bool (sameV R R' K K' V V')) ∧ Below w.heap.size w w' := by
  have HS : Hid (sameV R R' K K' V V' = (eqIs R R' && eqPls K K' && eqPls V V')) := rfl
  obtain ⟨W0, hW, hA, hC, hB, _⟩ := laid2 w [Value.slice aR R.length cR, Value.slice aK K.length cK, Value.slice aV V.length cV] 26 [Value.slice bR R'.length dR, Value.slice bK K'.length dK, Value.slice bV V'.length dV] 26
  have x0 := hA.at 0 rfl
  have y0 := hC.at 0 rfl
  have g1 := h1.below hB
  have g2 := h2.below hB
  have g3 := h3.below hB
  have g4 := h4.below hB
  have g5 := h5.below hB
  have g6 := h6.below hB
  have HB : Hid (Below w.heap.size w W0) := hB
  clear h1 h2 h3 h4 h5 h6 hB
  go_enter Tryz.func44, Tryz.ntmps44
  go_wp2_with fail
  clear hW
  refine (equal_is W0 aR bR cR dR R R' hR g1 g4).mono ?_
  rintro e w1 ⟨rfl, n, rfl⟩
  have hb1 : Below W0.heap.size W0 (W0.drewN n) := ⟨rfl, rfl, rfl, Nat.le_refl _, fun _ _ => rfl⟩
  have hA1 := hA.keep hb1
  have hC1 := hC.keep hb1
  have k2 := g2.below hb1
  have k3 := g3.below hb1
  have k5 := g5.below hb1
  have k6 := g6.below hb1
  have HB1 : Hid (Below w.heap.size w (W0.drewN n)) := HB.out.trans (hb1.mono HB.out.size)
  clear hA hC HB hb1 g1 g2 g3 g4 g5 g6 x0 y0
  generalize W0.drewN n = W1 at *
  have x1 := hA1.at 1 rfl
  have y1 := hC1.at 1 rfl
  cases hq : eqIs R R'
  · go_wp2
    go_ret
    exact ⟨ret_bool (by rw [HS.out, hq]; rfl), HB1.out⟩
  · go_wp2_with fail
    refine (equal_pls W1 aK bK cK dK K K' hK k2 k5).mono ?_
    rintro e w2 ⟨rfl, n2, rfl⟩
    have hb2 : Below W1.heap.size W1 (W1.drewN n2) := ⟨rfl, rfl, rfl, Nat.le_refl _, fun _ _ => rfl⟩
    have hA2 := hA1.keep hb2
    have hC2 := hC1.keep hb2
    have m3 := k3.below hb2
    have m6 := k6.below hb2
    have HB2 : Hid (Below w.heap.size w (W1.drewN n2)) := HB1.out.trans (hb2.mono HB1.out.size)
    clear hA1 hC1 HB1 hb2 k2 k3 k5 k6 x1 y1
    generalize W1.drewN n2 = W2 at *
    have x2 := hA2.at 2 rfl
    have y2 := hC2.at 2 rfl
    cases hq2 : eqPls K K'
    · go_wp2
      go_ret
      exact ⟨ret_bool (by rw [HS.out, hq, hq2]; rfl), HB2.out⟩
    · go_wp2_with fail
      refine (equal_pls W2 aV bV cV dV V V' hV m3 m6).mono ?_
      rintro e w3 ⟨rfl, n3, rfl⟩
      have HB3 : Hid (Below w.heap.size w (W2.drewN n3)) := HB2.out.trans ⟨rfl, rfl, rfl, Nat.le_refl _, fun _ _ => rfl⟩
      generalize W2.drewN n3 = W3 at *
      clear m3 m6 x2 y2
      go_wp2
      go_ret
      exact ⟨ret_bool (by rw [HS.out, hq, hq2]; rfl), HB3.out⟩
end Go.Proofs.YtijjiccgpobjmaeGreat

/- slices.Index, slices.Contains, slices.ContainsFunc at places. -/
namespace Go.Proofs.YtijjiccgpobjmaeGreat
open Go.ChangeShapes Go.WideShapes Go.ChangeAt Go.RowKit
open Orangery (Pl idxF)

def hasP (p : Pl) (l : List Pl) : Bool := decide (p ∈ l)

theorem containsFuncP_any (w : World) (a : Option Addr) (c : Nat) (l : List Pl) (g : Nat) (v : Value) (f : Pl → Bool) (hl : l.length ≤ maxLen) (h : SlP w a l)
    (eg : ∀ args w, (callFunc g args).run Tryz.prog w = .ok (.enter g args) w)
    (hg : ∀ W p, Below w.heap.size w W → Calls Tryz.prog g #[plV p, v] W fun e w' => e = .returned (.bool (f p)) ∧ Below W.heap.size W w') :
    Calls Tryz.prog 140 #[.slice a l.length c, .func (.func g) #[] #[v]] w
      fun e w' => e = .returned (.bool (l.any f)) ∧ Below w.heap.size w w' := by
  go_enter Tryz.func140, Tryz.ntmps140
  go_wp2_with fail
  refine (indexFunc_any w a c l g v f hl h eg hg).mono ?_
  rintro e w1 ⟨rfl, hb1⟩
  rcases Orangery.idxF_any f l 0 with ⟨h1, h2⟩ | ⟨h1, h2⟩
  · rw [h1]
    have HA : Hid (l.any f = false) := h2
    clear h1 h2
    go_wp2
    go_ret
    exact ⟨ret_bool HA.out.symm, hb1⟩
  · have d : decide (idxF f 0 l ≥ 0) = true := by simp; omega
    have HA : Hid (l.any f = true) := h2
    clear h1 h2
    go_wp2
    go_ret
    exact ⟨ret_bool HA.out.symm, hb1⟩
end Go.Proofs.YtijjiccgpobjmaeGreat

/- delta.has, delta.inRange, delta.checkGone, delta.partsOf, delta.changesOf. -/
namespace Go.Proofs.YtijjiccgpobjmaeGreat
open Go.ChangeShapes Go.WideShapes Go.ChangeAt Go.RowKit
open Orangery (Pl hasN check inRangeB goneE prevI)

theorem has1_any (w : World) (p : Pl) (n : Int) (b : Nat) (hb : b < w.heap.size) (hc : w.cell? ⟨b, 0, none⟩ = some (.int .i64 n)) :
    Calls Tryz.prog 141 #[plV p, .pointer (some ⟨b, 0, none⟩)] w fun e w' => e = .returned (.bool (p.1 == n)) ∧ Below w.heap.size w w' := by
  go_enter Tryz.func141, Tryz.ntmps141
  have hne : ¬ w.heap.size = b := by omega
  go_wp2
  go_ret
  exact ⟨rfl, Go.Joins.below_alloc1 w _⟩

theorem has_any (w : World) (a : Option Addr) (c : Nat) (l : List Pl) (n : Int) (hl : l.length ≤ maxLen) (h : SlP w a l) :
    Calls Tryz.prog 131 #[.slice a l.length c, .int .i64 n] w fun e w' => e = .returned (.bool (hasN l n)) ∧ Below w.heap.size w w' := by
  obtain ⟨W0, hW, hN, hB, hS⟩ := laid1 w [Value.int IntKind.i64 n] 3
  go_enter Tryz.func131, Tryz.ntmps131
  go_wp2_with fail
  clear hW
  refine (containsFuncP_any W0 a c l 141 (.pointer (some ⟨w.heap.size, 0, none⟩)) (fun p => p.1 == n) hl (h.below hB) (Go.Proofs.enters_of Tryz.func141 (by kernel_rfl) rfl) ?_).mono ?_
  · intro W p hb
    exact has1_any W p n w.heap.size (hN.keep hb).lt ((hN.keep hb).at 0 rfl)
  rintro e w1 ⟨rfl, hb1⟩
  have hb2 : Below w.heap.size w w1 := hB.trans (hb1.mono hB.size)
  clear hN
  go_wp2
  go_ret
  exact ⟨rfl, hb2⟩

theorem pls1 {w : World} {b : Nat} {p : Pl} (h : Blk w b [.int .i64 p.1, .int .i64 p.2.1, .int .i64 p.2.2]) : SlP w (some ⟨b, 0, none⟩) [p] :=
  Or.inr ⟨b, 0, rfl, h.lt, fun i hi => by
    have : i = 0 := by simp at hi; exact hi
    subst this
    exact ⟨h.at 0 rfl, h.at 1 rfl, h.at 2 rfl⟩⟩

set_option maxHeartbeats 1000000 in
theorem inRangeD_any (w : World) (p : Pl) :
    Calls Tryz.prog 143 #[plV p] w fun e w' => e = .returned (.bool (inRangeB p)) ∧ Below w.heap.size w w' := by
  obtain ⟨p0, p1, p2⟩ := p
  obtain ⟨W0, hW, _, hN, hB, hS⟩ := laid2 w [Value.int IntKind.i64 p0, Value.int IntKind.i64 p1, Value.int IntKind.i64 p2] 47 [Value.int IntKind.i64 p0, Value.int IntKind.i64 p1, Value.int IntKind.i64 p2] 47
  have HP : Hid (SlP W0 (some ⟨w.heap.size + 1, 0, none⟩) [(p0, p1, p2)]) := pls1 (p := (p0, p1, p2)) hN
  have HB : Hid (Below w.heap.size w W0) := hB
  clear hN hB hS
  go_enter Tryz.func143, Tryz.ntmps143
  go_wp2_with fail
  clear hW
  refine (check_any W0 (some ⟨w.heap.size + 1, 0, none⟩) 1 [(p0, p1, p2)] (by unfold maxLen; simp) HP.out).mono ?_
  rintro e w1 ⟨rfl, hb1⟩
  have HB1 : Hid (Below w.heap.size w w1) := HB.out.trans (hb1.mono HB.out.size)
  have hq := Orangery.check_one (p0, p1, p2)
  generalize check [(p0, p1, p2)] = E at *
  clear hb1
  cases hr : inRangeB (p0, p1, p2)
  · have hE : E = 3 := hq.2 hr
    subst hE
    clear hq
    go_wp2
    go_ret
    exact ⟨ret_bool hr.symm, HB1.out⟩
  · have hE : (E != 3) = true := by
      have : ¬ E = 3 := fun h => by have := hq.1 h; rw [hr] at this; simp at this
      simpa using this
    clear hq
    go_wp2
    go_ret
    exact ⟨ret_bool hr.symm, HB1.out⟩

set_option maxHeartbeats 1000000 in
theorem checkGone_any (w : World) (a : Option Addr) (c : Nat) (l : List Int) (hl : l.length ≤ maxLen) (h : SlI w a l) :
    Calls Tryz.prog 138 #[.slice a l.length c] w fun e w' => e = .returned (.int .i64 (goneE 0 l)) ∧ w' = w := by
  have hl' : l.length ≤ 9223372036854775807 := hl
  go_enter Tryz.func138, Tryz.ntmps138
  go_wp2
  go_loop [7] (fun i => ∃ (k : Nat) (m : Int), k ≤ l.length ∧ i = .int .i64 k ∧ goneE m (l.drop k) = goneE 0 l ∧ (k = 0 → m = 0) ∧ (∀ j, (hj : j < l.length) → k = j + 1 → m = l[j])) (fun i => l.length - (intOf i).toNat)
  case atStart => exact ⟨0, 0, Nat.zero_le _, rfl, rfl, fun _ => rfl, fun j _ e => by omega⟩
  case round =>
    obtain ⟨k, m, hk, rfl, hf, hm0, hm1⟩ := hrel
    by_cases hlt : k < l.length
    · obtain ⟨s1, s2, s3⟩ := Orangery.goneE_step l k _ hlt hf
      have H1 : Hid (¬ (1 ≤ l[k] ∧ l[k] ≤ 15) → goneE 0 l = 5) := s1
      have H2 : Hid (1 ≤ l[k] ∧ l[k] ≤ 15 → l[k] ≤ m → goneE 0 l = 6) := s2
      have H3 : Hid (1 ≤ l[k] ∧ l[k] ≤ 15 → ¬ l[k] ≤ m → goneE l[k] (l.drop (k + 1)) = goneE 0 l) := s3
      have HL : Hid (∀ j, (hj : j < l.length) → k = j → l[k] = l[j]) := fun j hj e => by subst e; rfl
      clear s1 s2 s3 hf
      obtain ⟨b, off, rfl, hbl, g0⟩ := h.at k hlt
      by_cases hn : 1 ≤ l[k] ∧ l[k] ≤ 15
      · cases k with
        | zero =>
          rw [Nat.add_zero] at g0
          obtain rfl : m = 0 := hm0 rfl
          have HF : Hid (goneE l[0] (l.drop (0 + 1)) = goneE 0 l) := H3.out hn (by omega)
          clear H1 H2 H3 hm0 hm1
          generalize l[0] = x at *
          have x1 : decide (x < 1) = false := by simp; omega
          have x2 : decide (x ≥ 16) = false := by simp; omega
          clear hn
          go_wp2
          go_round
          case rel => exact ⟨1, x, hlt, by go_num, HF.out, by omega, fun j hj e => HL.out j hj (by omega)⟩
          case measure => simp [intOf]; omega
        | succ j =>
          obtain ⟨b', off', e', _, g1⟩ := h.at j (by omega)
          obtain ⟨rfl, rfl⟩ : b = b' ∧ off = off' := by simpa using e'
          obtain rfl : m = l[j] := hm1 j (by omega) rfl
          clear hm0 hm1
          generalize l[j + 1] = x at *
          generalize l[j] = y at *
          have x1 : decide (x < 1) = false := by simp; omega
          have x2 : decide (x ≥ 16) = false := by simp; omega
          have x3 : decide (((j + 1 : Nat) : Int) > 0) = true := by simp <;> omega
          have x4 : ((j + 1 : Nat) : Int) - 1 = (j : Int) := by omega
          clear e'
          by_cases hq : x ≤ y
          · have HF : Hid (goneE 0 l = 6) := H2.out hn hq
            have x5 : decide (x ≤ y) = true := by simpa using hq
            clear H1 H2 H3 hn hq
            go_wp2
            go_ret
            exact ⟨ret_int (by rw [HF.out]), rfl⟩
          · have HF : Hid (goneE x (l.drop (j + 1 + 1)) = goneE 0 l) := H3.out hn hq
            have x5 : decide (x ≤ y) = false := by simpa using hq
            clear H1 H2 H3 hn hq
            go_wp2
            go_round
            case rel => exact ⟨j + 2, x, hlt, by go_num, HF.out, by omega, fun i hi e => HL.out i hi (by omega)⟩
            case measure => simp [intOf]; omega
      · have HF : Hid (goneE 0 l = 5) := H1.out hn
        clear H1 H2 H3 hm0 hm1 HL
        generalize l[k] = x at *
        by_cases h0 : x < 1
        · have x1 : decide (x < 1) = true := by simpa using h0
          clear h0 hn
          go_wp2
          go_ret
          exact ⟨ret_int (by rw [HF.out]), rfl⟩
        · have x1 : decide (x < 1) = false := by simpa using h0
          have x2 : decide (x ≥ 16) = true := by simp; omega
          clear h0 hn
          go_wp2
          go_ret
          exact ⟨ret_int (by rw [HF.out]), rfl⟩
    · have hk' : l.drop k = [] := by simp; omega
      rw [hk'] at hf
      have HF : Hid (goneE 0 l = 0) := hf.symm
      clear hf hk' hm0 hm1
      go_wp2
      go_ret
      exact ⟨ret_int (by rw [HF.out]), rfl⟩

theorem sizeDParts : (Tryz.prog.info? 133).map (·.size) = some 2 := by kernel_rfl
theorem sizeDChange : (Tryz.prog.info? 136).map (·.size) = some 2 := by kernel_rfl
theorem sizeDChanges : (Tryz.prog.info? 138).map (·.size) = some 4 := by kernel_rfl
theorem sizeDelta : (Tryz.prog.info? 50).map (·.size) = some 4 := by kernel_rfl

set_option maxHeartbeats 1000000 in
theorem partsOf_any (w : World) (x : Value) (aK aV : Option Addr) (nK nV cK cV : Nat) :
    Calls Tryz.prog 110 #[.agg #[x, .slice aK nK cK, .slice aV nV cV]] w fun e w' => e = .returned (.agg #[.slice aK nK cK, .slice aV nV cV]) ∧ Below w.heap.size w w' := by
  obtain ⟨W0, hW, hX, hN, hB, hS⟩ := laid2 w [x, Value.slice aK nK cK, Value.slice aV nV cV] 26 [Value.slice none 0 0, Value.slice none 0 0] 133
  have x1 := hX.at 1 rfl
  have x2 := hX.at 2 rfl
  have y0 := hN.at 0 rfl
  have y1 := hN.at 1 rfl
  have yf := hN.frz
  have HN : Hid (Blk (W0.setCells (w.heap.size + 1) 0 [Value.slice aK nK cK, Value.slice aV nV cV]) (w.heap.size + 1) [Value.slice aK nK cK, Value.slice aV nV cV]) := hN.sets _ rfl
  have HB : Hid (Below w.heap.size w (W0.setCells (w.heap.size + 1) 0 [Value.slice aK nK cK, Value.slice aV nV cV])) := below_sets hB _ (by omega) _ 0
  clear hX hN hB hS
  go_enter Tryz.func110, Tryz.ntmps110
  go_wp2
  exact ret_cell Tryz.results110 rfl (HN.out.load Tryz.underlying133 rfl sizeDParts) ⟨rfl, HB.out⟩

set_option maxHeartbeats 1000000 in
theorem changesOf_any (w : World) (aG aH aX aY : Option Addr) (nG nH nX nY cG cH cX cY : Nat) :
    Calls Tryz.prog 111 #[.agg #[.slice aG nG cG, .slice aH nH cH, .slice aX nX cX, .slice aY nY cY]] w fun e w' => e = .returned (.agg #[.slice aG nG cG, .slice aH nH cH, .slice aX nX cX, .slice aY nY cY]) ∧ Below w.heap.size w w' := by
  obtain ⟨W0, hW, hX, hN, hB, hS⟩ := laid2 w [Value.slice aG nG cG, Value.slice aH nH cH, Value.slice aX nX cX, Value.slice aY nY cY] 50 [Value.slice none 0 0, Value.slice none 0 0, Value.slice none 0 0, Value.slice none 0 0] 138
  have x0 := hX.at 0 rfl
  have x1 := hX.at 1 rfl
  have x2 := hX.at 2 rfl
  have x3 := hX.at 3 rfl
  have y0 := hN.at 0 rfl
  have y1 := hN.at 1 rfl
  have y2 := hN.at 2 rfl
  have y3 := hN.at 3 rfl
  have yf := hN.frz
  have HN : Hid (Blk (W0.setCells (w.heap.size + 1) 0 [Value.slice aG nG cG, Value.slice aH nH cH, Value.slice aX nX cX, Value.slice aY nY cY]) (w.heap.size + 1) [Value.slice aG nG cG, Value.slice aH nH cH, Value.slice aX nX cX, Value.slice aY nY cY]) := hN.sets _ rfl
  have HB : Hid (Below w.heap.size w (W0.setCells (w.heap.size + 1) 0 [Value.slice aG nG cG, Value.slice aH nH cH, Value.slice aX nX cX, Value.slice aY nY cY])) := below_sets hB _ (by omega) _ 0
  clear hX hN hB hS
  go_enter Tryz.func111, Tryz.ntmps111
  go_wp2
  exact ret_cell Tryz.results111 rfl (HN.out.load Tryz.underlying138 rfl sizeDChanges) ⟨rfl, HB.out⟩
end Go.Proofs.YtijjiccgpobjmaeGreat

/- slices.Contains at ints. -/
namespace Go.Proofs.YtijjiccgpobjmaeGreat
open Go.ChangeShapes Go.WideShapes Go.ChangeAt Go.RowKit
open Orangery (hasB)

theorem indexI_nil (w : World) (a : Option Addr) (c : Nat) (x : Int) :
    Calls Tryz.prog 125 #[.slice a 0 c, .int .i64 x] w fun e w' => e = .returned (.int .i64 (-1)) ∧ w' = w := by
  go_enter Tryz.func125, Tryz.ntmps125
  go_wp2
  go_loop [8] (fun i => i = .int .i64 0) (fun _ => 0)
  case atStart => rfl
  case round =>
    subst hrel
    go_wp2
    go_ret
    exact ⟨rfl, rfl⟩

theorem containsI_any (w : World) (a : Option Addr) (c : Nat) (x : Int) (l : List Int) (hl : l.length ≤ maxLen) (h : SlI w a l) :
    Calls Tryz.prog 93 #[.slice a l.length c, .int .i64 x] w fun e w' => e = .returned (.bool (hasB x l)) ∧ w' = w := by
  rcases h with rfl | ⟨b, off, rfl, _, hp⟩
  · go_enter Tryz.func93, Tryz.ntmps93
    go_wp2_with fail
    refine (indexI_nil w a c x).mono ?_
    rintro e w1 ⟨rfl, rfl⟩
    go_wp2
    go_ret
    exact ⟨rfl, rfl⟩
  · exact contains_ints w b off c l.length x l rfl hl hp
end Go.Proofs.YtijjiccgpobjmaeGreat

/- Regions that draw their order, walked step by step: an operation that is not wanted is taken too. -/
namespace Go.Proofs.YtijjiccgpobjmaeGreat
open Go.ChangeShapes Go.WideShapes Go.ChangeAt Go.RowKit

/-- a wanted operation is taken first -/
theorem take_yes {P : Program} {md : Region.Mode} {ops : Array Oper} {Q : Exit → Act → World → Prop} {S : World → Prop} (i : Nat) (d : Nat) {oi : Oper} {v : Value} {fuel : Nat} {listed : Array Bool} {a : Act} {w : World} (hi : ops[i]? = some oi) (hd : oi.dst = some d)
    (hs : Region.noSelect ops = true) (hf : Region.free md ops listed i = true) (hr : (Region.ready md ops listed).contains i = true)
    (hQ : ∀ c a w, Q (.panic c) (a.put oi.dst v) w → Q (.panic c) a w) (hw : Region.wanted oi (yielded ops a.tmps) = true) (hy : ∀ w, S w → (execOp a.eval oi).run P w = .ok (.value v) w) (hS : S w)
    (h : wpAnyH P md ops Q S fuel (listed.setIfInBounds i true) (a.put (some d) v) w) : wpAnyH P md ops Q S (fuel + 1) listed a w :=
  wpAnyH_take hi hs hf hr hQ (Or.inl ⟨hw, hy⟩) hS (by rw [hd]; exact h)

/-- an operation that is not wanted is passed by -/
theorem take_no {P : Program} {md : Region.Mode} {ops : Array Oper} {Q : Exit → Act → World → Prop} {S : World → Prop} (i : Nat) (d : Nat) {oi : Oper} {fuel : Nat} {listed : Array Bool} {a : Act} {w : World} (hi : ops[i]? = some oi) (hd : oi.dst = some d)
    (hs : Region.noSelect ops = true) (hf : Region.free md ops listed i = true) (hr : (Region.ready md ops listed).contains i = true)
    (hQ : ∀ c a w, Q (.panic c) (a.put oi.dst undef) w → Q (.panic c) a w) (hw : Region.wanted oi (yielded ops a.tmps) = false) (hS : S w)
    (h : wpAnyH P md ops Q S fuel (listed.setIfInBounds i true) (a.put (some d) undef) w) : wpAnyH P md ops Q S (fuel + 1) listed a w :=
  wpAnyH_take hi hs hf hr hQ (Or.inr ⟨hw, rfl⟩) hS (by rw [hd]; exact h)
/-- a load of a whole row or struct is taken first -/
theorem take_load {P : Program} {md : Region.Mode} {ops : Array Oper} {Q : Exit → Act → World → Prop} {S : World → Prop} (i : Nat) (d : Nat) {oi : Oper} (ty : TypeId) {x : Operand} (b : Nat) (cs : List Value) {dd : TypeDesc} {fuel : Nat} {listed : Array Bool} {a : Act} {w : World} (hi : ops[i]? = some oi) (hd : oi.dst = some d)
    (hs : Region.noSelect ops = true) (hf : Region.free md ops listed i = true) (hr : (Region.ready md ops listed).contains i = true)
    (hQ : ∀ c a w, Q (.panic c) (a.put oi.dst (.agg cs.toArray)) w → Q (.panic c) a w) (hw : Region.wanted oi (yielded ops a.tmps) = true)
    (ho : oi.op = .load ty x) (hx : a.eval x = .pointer (some ⟨b, 0, none⟩)) (hc : ∀ w, S w → w.rangeAt b 0 cs)
    (hu : P.underlying ty = some dd) (hdd : dd.isRow = true) (hz : (P.info? ty).map (·.size) = some cs.length) (hS : S w)
    (h : wpAnyH P md ops Q S fuel (listed.setIfInBounds i true) (a.put (some d) (.agg cs.toArray)) w) : wpAnyH P md ops Q S (fuel + 1) listed a w :=
  wpAnyH_take hi hs hf hr hQ (yieldsIf_load_mid hw ty x ho b 0 hx cs dd hc hu hdd hz) hS (by rw [hd]; exact h)
/-- a store of a whole row or struct, the only one that may come up -/
theorem step_store {P : Program} {md : Region.Mode} {ops : Array Oper} {Q : Exit → Act → World → Prop} {S : World → Prop} (i : Nat) {oi : Oper} (ty : TypeId) {x y : Operand} (b : Nat) (cs : List Value) {fuel : Nat} {listed : Array Bool} {a : Act} {w : World} (hr : Region.ready md ops listed = [i]) (hi : ops[i]? = some oi) (hd : oi.dst = none)
    (hw : Region.wanted oi (yielded ops a.tmps) = true) (ho : oi.op = .store ty x y) (hx : a.eval x = .pointer (some ⟨b, 0, none⟩)) (hy : a.eval y = .agg cs.toArray)
    (ht : w.there b 0 cs.length) (hz : (P.info? ty).map (·.size) = some cs.length) (h1 : ∀ v ∈ cs, v.oneCell' = true) (hS : S (w.setCells b 0 cs))
    (h : wpAnyH P md ops Q S fuel (listed.setIfInBounds i true) a (w.setCells b 0 cs)) : wpAnyH P md ops Q S (fuel + 1) listed a w := by
  refine wpAnyH_ready hr (by simp) (AllReadyH.cons hi (fun K hK => ?_) AllReadyH.nil)
  rw [if_pos hw]
  refine wp_store_mid ty x y ho b 0 cs.toArray hx hy (by simpa using ht) (by simpa using hz) (all_oneCell_toArray h1) ?_
  rw [hd]
  have e : cs.toArray.toList = cs := rfl
  rw [e]
  exact hK.out _ _ hS (fun _ => h)
/-- a store of a whole struct anywhere in a block, the only operation that may come up -/
theorem step_store_at {P : Program} {md : Region.Mode} {ops : Array Oper} {Q : Exit → Act → World → Prop} {S : World → Prop} (i : Nat) {oi : Oper} (ty : TypeId) {x y : Operand} (b o : Nat) (cs : List Value) {fuel : Nat} {listed : Array Bool} {a : Act} {w : World} (hr : Region.ready md ops listed = [i]) (hi : ops[i]? = some oi) (hd : oi.dst = none)
    (hw : Region.wanted oi (yielded ops a.tmps) = true) (ho : oi.op = .store ty x y) (hx : a.eval x = .pointer (some ⟨b, o, none⟩)) (hy : a.eval y = .agg cs.toArray)
    (ht : w.there b o cs.length) (hz : (P.info? ty).map (·.size) = some cs.length) (h1 : ∀ v ∈ cs, v.oneCell' = true) (hS : S (w.setCells b o cs))
    (h : wpAnyH P md ops Q S fuel (listed.setIfInBounds i true) a (w.setCells b o cs)) : wpAnyH P md ops Q S (fuel + 1) listed a w := by
  refine wpAnyH_ready hr (by simp) (AllReadyH.cons hi (fun K hK => ?_) AllReadyH.nil)
  rw [if_pos hw]
  refine wp_store_mid ty x y ho b o cs.toArray hx hy (by simpa using ht) (by simpa using hz) (all_oneCell_toArray h1) ?_
  rw [hd]
  have e : cs.toArray.toList = cs := rfl
  rw [e]
  exact hK.out _ _ hS (fun _ => h)
end Go.Proofs.YtijjiccgpobjmaeGreat

