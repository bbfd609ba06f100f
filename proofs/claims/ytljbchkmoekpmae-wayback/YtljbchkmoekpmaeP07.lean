/- 6 texts of the proof: view.together, view.Same, orangeryref.SameView. slices.Index, slices.Contains, slices.ContainsFunc at places. delta.has, delta.inRange, delta.checkGone, delta.partsOf, delta.changesOf. slices.Contains at ints. Regions that draw their order, walked step by step: an operation that is not wanted is taken too. delta.checkHere, delta.checkChange, delta.Check. -/
import Derived.Laws.AppendOwnNone
import Derived.Deep.RegionHeld3
import Derived.Deep.DeepCutAuto
import Derived.Test.YtljbchkmoekpmaeP06
import Derived.Test.YtljbchkmoekpmaeP05
import Derived.Test.YtljbchkmoekpmaeP04
import Derived.Test.YtljbchkmoekpmaeP02
import Derived.Test.YtljbchkmoekpmaeP03
/- view.together, view.Same, orangeryref.SameView. -/
namespace Go.Proofs.Ytljbchkmoekpmae
open Go.ChangeShapes Go.WideShapes Go.ChangeAt Go.RowKit
open Orangery (Pl check scan find inPl togL sameV cmpI)

theorem together2_any (w : World) (p q : Pl) :
    Calls Try.prog 48 #[plV p, plV q] w fun e w' => e = .returned (.int .i64 (cmpI p.1 q.1)) ∧ ∃ n os, w' = Go.Sort.grow (w.drewN n) os := by
  obtain ⟨a0, a1, a2⟩ := p
  obtain ⟨b0, b1, b2⟩ := q
  go_enter Try.func48, Try.ntmps48
  go_wp2_with fail
  refine (compare_any _ a0 b0).mono ?_
  rintro e w1 ⟨rfl, rfl⟩
  go_wp2
  go_ret
  exact ⟨rfl, 0, _, by rw [Go.Sort.alloc_eq_grow, Go.Sort.alloc_eq_grow, Go.Sort.grow_grow]; rfl⟩

theorem sort_tog (w : World) (base : Nat) (sv : Value) (l : List Pl) (hl : l.length ≤ 1000) (hbase : base ≤ w.heap.size) (h : OwnS w base sv l) :
    Calls Try.prog 47 #[sv, .func (.func 48) #[] #[]] w
      fun e w' => e = .returned (.tuple #[]) ∧ ∃ l', l'.Perm l ∧ (l'.Pairwise fun p q => p.1 ≤ q.1) ∧ OwnS w' base sv l' ∧ Below base w w' ∧ w.grownBy w' sv.ownBlock := by
  refine (sort_gen 48 cmpN swoNode (Go.Proofs.enters_of Try.func48 (by kernel_rfl) rfl) (fun w p q => together2_any w p q) w base sv l hl hbase h).mono ?_
  rintro e w' ⟨he, l', h1, h2, h3, h4, h5⟩
  exact ⟨he, l', h1, h2.imp (fun {p q} hh => by rw [cmpN_lt] at hh; omega), h3, h4, h5⟩

set_option maxHeartbeats 1000000 in
set_option maxRecDepth 100000 in
theorem together1_any (w : World) (p : Pl) (b : Nat) (v : Value) (a : Option Addr) (c : Nat) (W : List Pl) (hl : W.length ≤ maxLen) (h : SlP w a W) (hB : Blk w b [v, .slice a W.length c]) :
    Calls Try.prog 45 #[plV p, .pointer (some ⟨b, 0, none⟩)] w fun e w' => e = .returned (.bool (inPl W p.1)) ∧ Below w.heap.size w w' := by
  obtain ⟨p0, p1, p2⟩ := p
  obtain ⟨W0, hW, hN, hB0, hS⟩ := laid1 w [Value.int IntKind.i64 p0, Value.int IntKind.i64 p1, Value.int IntKind.i64 p2] 56
  have hX := hB.keep hB0
  have hP := h.below hB0
  have HB0 : Hid (Below w.heap.size w W0) := hB0
  clear h hB hB0
  go_enter Try.func45, Try.ntmps45
  go_upto_region 1 with fail
  clear hW
  have x1 := hX.at 1 rfl
  have n0 := hN.at 0 rfl
  have HQ : Hid (inPl W p0 = decide ((find W p0).1 = p0)) := rfl
  have HF := fun w' => find_any w' a c W p0 hl
  have HFF : Hid (∀ w', SlP w' a W → Calls Try.prog 46 #[.agg #[.slice a W.length c], .int .i64 p0] w' fun e w'' => e = .returned (plV (find W p0)) ∧ Below w'.heap.size w' w'') := HF
  have hfd := fun x0 x1 x2 W => (run_field_pl x0 x1 x2 W).1
  clear HF
  generalize find W p0 = q at *
  obtain ⟨q0, q1, q2⟩ := q
  go_region_held3 (fun w' => w'.cell? ⟨b, 1, none⟩ = some (.slice a W.length c) ∧ w'.cell? ⟨w.heap.size, 0, none⟩ = some (.int .i64 p0)) (go_keep)
    (first | (go_at_call 46; refine (HFF.out _ ?_).mono ?_; exact hP; rintro e w1 ⟨rfl, hb1⟩; have hb1' : Below W0.heap.size W0 w1 := ((Below.refl _ W0).drew).trans hb1; have x11 := (hX.keep hb1').at 1 rfl; have n10 := (hN.keep hb1').at 0 rfl))
  have HB1 : Hid (Below w.heap.size w w1) := HB0.out.trans (hb1'.mono HB0.out.size)
  clear hb1 hb1' x11 n10 x1 n0
  go_wp2
  go_ret
  exact ⟨ret_bool (by rw [HQ.out]; rfl), HB1.out⟩

set_option maxHeartbeats 2000000 in
set_option maxRecDepth 100000 in
theorem together_any (w : World) (aK aW : Option Addr) (cK cW : Nat) (K W : List Pl) (hK : scan 0 K = 0) (hW : scan 0 W = 0) (hc : aW = none → cW = 0) (h1 : SlP w aK K) (h2 : SlP w aW W) :
    Calls Try.prog 37 #[.agg #[.slice aK K.length cK, .slice aW W.length cW]] w
      fun e w' => ∃ v, e = .returned (.agg #[v]) ∧ OwnS w' w.heap.size v (togL K W) ∧ Below w.heap.size w w' := by
  obtain ⟨i0, hi, hz0, hz1, hz2⟩ := info_parts infoPlace
  have hKl : K.length ≤ 15 := by have := Orangery.scan_len K 0 hK (by omega); omega
  have hWl : W.length ≤ 15 := by have := Orangery.scan_len W 0 hW (by omega); omega
  obtain ⟨W0, hW0, hX, hR, hB, hS⟩ := laid2 w [Value.slice aK K.length cK, Value.slice aW W.length cW] 77 [Value.slice none 0 0] 75
  have x0 := hX.at 0 rfl
  have hS1 : w.heap.size + 1 < W0.heap.size := by omega
  clear hS
  have hP1 := h1.below hB
  have HP2 : Hid (SlP w aW W) := h2
  have HB : Hid (Below w.heap.size w W0) := hB
  clear h1 h2
  go_enter Try.func37, Try.ntmps37
  go_wp2_with fail
  clear hW0
  refine (clone_any W0 aK cK K (by omega) hP1).mono ?_
  rintro e w1 ⟨v1, rfl, hO1, hb1⟩
  have hX1 := hX.keep hb1
  have hR1 := hR.keep hb1
  have HB1 : Hid (Below w.heap.size w w1) := HB.out.trans (hb1.mono HB.out.size)
  clear hX hR hB hP1 HB x0
  go_wp2_with fail
  refine (delete_any w1 W0.heap.size v1 K 45 (.pointer (some ⟨w.heap.size, 0, none⟩)) (fun p => inPl W p.1) (by omega) hO1 hb1.size (Go.Proofs.enters_of Try.func45 (by kernel_rfl) rfl) ?_).mono ?_
  · intro V p hV
    exact together1_any V p w.heap.size _ aW cW W (by unfold maxLen; omega) (HP2.out.below (HB1.out.trans (hV.mono (by omega)))) (hX1.below hV (by omega))
  rintro e w2 ⟨v2, rfl, hO2, hb2⟩
  have hX2 := hX1.below hb2 (by omega)
  have hR2 := hR1.below hb2 (by omega)
  have HB2 : Hid (Below w.heap.size w w2) := HB1.out.trans (hb2.mono (by omega))
  have hsz2 : W0.heap.size ≤ w2.heap.size := Nat.le_trans hb1.size hb2.size
  have hO2r := hO2.row
  have hP2 := HP2.out.below HB2.out
  generalize hM : (K.filter fun p => !inPl W p.1) = M at *
  have hMl : M.length ≤ 15 := by rw [← hM]; exact Nat.le_trans (List.length_filter_le _ _) hKl
  have HU : Hid (∀ l', l'.Perm (M ++ W) → (l'.Pairwise fun p q => p.1 ≤ q.1) → l' = togL K W) := fun l' h1 h2 => Orangery.tog_unique K W l' hK hW (by rw [hM]; exact h1) h2
  clear hO1 hb1 hX1 hR1 HB1 hb2 hM hK
  have y1 := hX2.at 1 rfl
  have HX2 : Hid (Blk w2 w.heap.size [Value.slice aK K.length cK, Value.slice aW W.length cW]) := hX2
  have HR2 : Hid (Blk w2 (w.heap.size + 1) [Value.slice none 0 0]) := hR2
  clear hX2 hR2
  have FIN : Hid (∀ (v3 : Value) (w3 : World), OwnS w3 W0.heap.size v3 (M ++ W) → Blk w3 (w.heap.size + 1) [Value.slice none 0 0] → W0.heap.size ≤ w3.heap.size → Below w.heap.size w w3 →
      Calls Try.prog 47 #[v3, .func (.func 48) #[] #[]] w3 fun e w' => e = .returned (.tuple #[]) ∧ OwnS w' W0.heap.size v3 (togL K W) ∧ Blk w' (w.heap.size + 1) [Value.slice none 0 0] ∧ Below w.heap.size w w') := by
    intro v3 w3 h1 h2 h3 h4
    refine (sort_tog w3 W0.heap.size v3 (M ++ W) (by simp; omega) h3 h1).mono ?_
    rintro e w4 ⟨he, l', hp, hs, hO, hb, _⟩
    have := HU.out l' hp hs
    subst this
    exact ⟨he, hO, h2.below hb (by omega), h4.trans (hb.mono (by omega))⟩
  clear HU
  have END : Hid (∀ (v3 : Value) (w4 : World), OwnS w4 W0.heap.size v3 (togL K W) → Below w.heap.size w w4 → ∃ a3 c3, v3 = .slice a3 (togL K W).length c3 ∧ OwnS (w4.setCell ⟨w.heap.size + 1, 0, none⟩ (.slice a3 (togL K W).length c3)) w.heap.size (.slice a3 (togL K W).length c3) (togL K W) ∧ Below w.heap.size w (w4.setCell ⟨w.heap.size + 1, 0, none⟩ (.slice a3 (togL K W).length c3))) := by
    intro v3 w4 h1 h2
    obtain ⟨a3, c3, rfl⟩ := h1.val
    exact ⟨a3, c3, rfl, (h1.other _ (by omega) _ _).mono (by omega), h2.setCell (by show _ ≤ w.heap.size + 1; omega) _⟩
  cases aW with
  | none =>
    have e1 := hP2.none_nil
    have e2 := hc rfl
    have y1' : w2.cell? ⟨w.heap.size, 1, none⟩ = some (.slice none 0 0) := by rw [y1, e1, e2]; rfl
    have E3 : Hid (M ++ W = M) := by show _ = _; rw [e1, List.append_nil]
    clear y1 e1 e2
    go_wp2_with (at_builtin; refine wpList_append_own_none rfl _ _ 28 rfl W0.heap.size 56 i0 3 Try.underlying28 hi _ M.length (M.flatMap encPl) rfl hO2r rfl ?_)
    refine (FIN.out v2 w2 (by rw [E3.out]; exact hO2) HR2.out hsz2 HB2.out).mono ?_
    rintro e w4 ⟨rfl, hO4, hR4, hb4⟩
    obtain ⟨a3, c3, rfl, hOf, hBf⟩ := END.out _ _ hO4 hb4
    have HOf : Hid (OwnS (w4.setCell ⟨w.heap.size + 1, 0, none⟩ (.slice a3 (togL K W).length c3)) w.heap.size (.slice a3 (togL K W).length c3) (togL K W)) := hOf
    have HBf : Hid (Below w.heap.size w (w4.setCell ⟨w.heap.size + 1, 0, none⟩ (.slice a3 (togL K W).length c3))) := hBf
    have HRf : Hid (Blk (w4.setCell ⟨w.heap.size + 1, 0, none⟩ (.slice a3 (togL K W).length c3)) (w.heap.size + 1) [.slice a3 (togL K W).length c3]) := hR4.set 0 (by simp) _
    have r0 := hR4.at 0 rfl
    have rf := hR4.frz
    clear hO4 hOf hBf hR4 hb4 FIN END
    go_wp2
    exact ret_cell Try.results37 rfl HRf.out.tree ⟨_, rfl, HOf.out, HBf.out⟩
  | some ad =>
    have HN : Hid (∀ j u, (W.flatMap encPl)[j]? = some u → w2.cell? (ad.add j) = some u) := hP2.news
    clear hP2
    go_wp2_with (at_builtin; refine wpList_append_own _ rfl _ _ 28 rfl W0.heap.size 56 i0 _ 3 24 Try.underlying28 hi hz0 hz1 hz2 rfl (by decide) _ _ _ rfl hO2r ad W.length cW (W.flatMap encPl) rfl (flatE_len encPl_len W) ?c1 ?c2 ?c3 ?c4 ?c5 ?_)
    case c1 => exact HN.out
    case c2 => exact flat_one W
    case c3 => unfold maxLen; omega
    case c4 => omega
    case c5 => exact hsz2
    intro v3 w3 hown' hgrow _
    have hlo : ∀ g, v2.ownBlock = some g → W0.heap.size ≤ g := fun g hg => (World.ownsRow.lt hO2r g hg).1
    have hO3 : OwnS w3 W0.heap.size v3 (M ++ W) := own_pls (by rw [List.length_append, List.flatMap_append]; exact hown')
    have hR3 := HR2.out.grown hgrow (fun e => by have := hlo _ e.symm; omega)
    have hb3 : Below W0.heap.size w2 w3 := (Below.refl _ w2).grown hgrow hsz2 hlo
    have hB3 : Below w.heap.size w w3 := HB2.out.trans (hb3.mono (by omega))
    have hsz3 : W0.heap.size ≤ w3.heap.size := Nat.le_trans hsz2 hb3.size
    clear hown' hgrow hlo hb3 hO2r HN HX2 HR2 HB2 y1 hO2
    go_wp2_with fail
    refine (FIN.out v3 w3 hO3 hR3 hsz3 hB3).mono ?_
    clear hO3 hR3 hsz3 hB3
    rintro e w4 ⟨rfl, hO4, hR4, hb4⟩
    obtain ⟨a3, c3, rfl, hOf, hBf⟩ := END.out _ _ hO4 hb4
    have HOf : Hid (OwnS (w4.setCell ⟨w.heap.size + 1, 0, none⟩ (.slice a3 (togL K W).length c3)) w.heap.size (.slice a3 (togL K W).length c3) (togL K W)) := hOf
    have HBf : Hid (Below w.heap.size w (w4.setCell ⟨w.heap.size + 1, 0, none⟩ (.slice a3 (togL K W).length c3))) := hBf
    have HRf : Hid (Blk (w4.setCell ⟨w.heap.size + 1, 0, none⟩ (.slice a3 (togL K W).length c3)) (w.heap.size + 1) [.slice a3 (togL K W).length c3]) := hR4.set 0 (by simp) _
    have r0 := hR4.at 0 rfl
    have rf := hR4.frz
    clear hO4 hOf hBf hR4 hb4 FIN END
    go_wp2
    exact ret_cell Try.results37 rfl HRf.out.tree ⟨_, rfl, HOf.out, HBf.out⟩

set_option maxHeartbeats 1000000 in
theorem vsame_any (w : World) (aR aK aV bR bK bV : Option Addr) (cR cK cV dR dK dV : Nat) (R R' : List Int) (K K' V V' : List Pl) (hR : R.length ≤ maxLen) (hK : K.length ≤ maxLen) (hV : V.length ≤ maxLen)
    (h1 : SlI w aR R) (h2 : SlP w aK K) (h3 : SlP w aV V) (h4 : SlI w bR R') (h5 : SlP w bK K') (h6 : SlP w bV V') :
    Calls Try.prog 21 #[viV (.slice aR R.length cR) (.slice aK K.length cK) (.slice aV V.length cV), viV (.slice bR R'.length dR) (.slice bK K'.length dK) (.slice bV V'.length dV)] w
      fun e w' => e = .returned (.bool (sameV R R' K K' V V')) ∧ Below w.heap.size w w' := by
  have HS : Hid (sameV R R' K K' V V' = (eqIs R R' && eqPls K K' && eqPls V V')) := rfl
  obtain ⟨W0, hW, hA, hC, hB, _⟩ := laid2 w [Value.slice aR R.length cR, Value.slice aK K.length cK, Value.slice aV V.length cV] 30 [Value.slice bR R'.length dR, Value.slice bK K'.length dK, Value.slice bV V'.length dV] 30
  have x0 := hA.at 0 rfl
  have y0 := hC.at 0 rfl
  have g1 := h1.below hB
  have g2 := h2.below hB
  have g3 := h3.below hB
  have g4 := h4.below hB
  have g5 := h5.below hB
  have g6 := h6.below hB
  have HB : Hid (Below w.heap.size w W0) := hB
  clear h1 h2 h3 h4 h5 h6 hB
  go_enter Try.func21, Try.ntmps21
  go_wp2_with fail
  clear hW
  refine (equal_is W0 aR bR cR dR R R' hR g1 g4).mono ?_
  rintro e w1 ⟨rfl, n, rfl⟩
  have hb1 : Below W0.heap.size W0 (W0.drewN n) := ⟨rfl, rfl, rfl, Nat.le_refl _, fun _ _ => rfl⟩
  have hA1 := hA.keep hb1
  have hC1 := hC.keep hb1
  have k2 := g2.below hb1
  have k3 := g3.below hb1
  have k5 := g5.below hb1
  have k6 := g6.below hb1
  have HB1 : Hid (Below w.heap.size w (W0.drewN n)) := HB.out.trans (hb1.mono HB.out.size)
  clear hA hC HB hb1 g1 g2 g3 g4 g5 g6 x0 y0
  generalize W0.drewN n = W1 at *
  have x1 := hA1.at 1 rfl
  have y1 := hC1.at 1 rfl
  cases hq : eqIs R R'
  · go_wp2
    go_ret
    exact ⟨ret_bool (by rw [HS.out, hq]; rfl), HB1.out⟩
  · go_wp2_with fail
    refine (equal_pls W1 aK bK cK dK K K' hK k2 k5).mono ?_
    rintro e w2 ⟨rfl, n2, rfl⟩
    have hb2 : Below W1.heap.size W1 (W1.drewN n2) := ⟨rfl, rfl, rfl, Nat.le_refl _, fun _ _ => rfl⟩
    have hA2 := hA1.keep hb2
    have hC2 := hC1.keep hb2
    have m3 := k3.below hb2
    have m6 := k6.below hb2
    have HB2 : Hid (Below w.heap.size w (W1.drewN n2)) := HB1.out.trans (hb2.mono HB1.out.size)
    clear hA1 hC1 HB1 hb2 k2 k3 k5 k6 x1 y1
    generalize W1.drewN n2 = W2 at *
    have x2 := hA2.at 2 rfl
    have y2 := hC2.at 2 rfl
    cases hq2 : eqPls K K'
    · go_wp2
      go_ret
      exact ⟨ret_bool (by rw [HS.out, hq, hq2]; rfl), HB2.out⟩
    · go_wp2_with fail
      refine (equal_pls W2 aV bV cV dV V V' hV m3 m6).mono ?_
      rintro e w3 ⟨rfl, n3, rfl⟩
      have HB3 : Hid (Below w.heap.size w (W2.drewN n3)) := HB2.out.trans ⟨rfl, rfl, rfl, Nat.le_refl _, fun _ _ => rfl⟩
      generalize W2.drewN n3 = W3 at *
      clear m3 m6 x2 y2
      go_wp2
      go_ret
      exact ⟨ret_bool (by rw [HS.out, hq, hq2]; rfl), HB3.out⟩

end Go.Proofs.Ytljbchkmoekpmae

/- slices.Index, slices.Contains, slices.ContainsFunc at places. -/
namespace Go.Proofs.Ytljbchkmoekpmae
open Go.ChangeShapes Go.WideShapes Go.ChangeAt Go.RowKit
open Orangery (Pl idxF)

def hasP (p : Pl) (l : List Pl) : Bool := decide (p ∈ l)

end Go.Proofs.Ytljbchkmoekpmae

/- delta.has, delta.inRange, delta.checkGone, delta.partsOf, delta.changesOf. -/
namespace Go.Proofs.Ytljbchkmoekpmae
open Go.ChangeShapes Go.WideShapes Go.ChangeAt Go.RowKit
open Orangery (Pl hasN check inRangeB goneE prevI)

theorem pls1 {w : World} {b : Nat} {p : Pl} (h : Blk w b [.int .i64 p.1, .int .i64 p.2.1, .int .i64 p.2.2]) : SlP w (some ⟨b, 0, none⟩) [p] :=
  Or.inr ⟨b, 0, rfl, h.lt, fun i hi => by
    have : i = 0 := by simp at hi; exact hi
    subst this
    exact ⟨h.at 0 rfl, h.at 1 rfl, h.at 2 rfl⟩⟩

set_option maxHeartbeats 1000000 in
theorem inRangeD_any (w : World) (p : Pl) :
    Calls Try.prog 63 #[plV p] w fun e w' => e = .returned (.bool (inRangeB p)) ∧ Below w.heap.size w w' := by
  obtain ⟨p0, p1, p2⟩ := p
  obtain ⟨W0, hW, _, hN, hB, hS⟩ := laid2 w [Value.int IntKind.i64 p0, Value.int IntKind.i64 p1, Value.int IntKind.i64 p2] 56 [Value.int IntKind.i64 p0, Value.int IntKind.i64 p1, Value.int IntKind.i64 p2] 56
  have HP : Hid (SlP W0 (some ⟨w.heap.size + 1, 0, none⟩) [(p0, p1, p2)]) := pls1 (p := (p0, p1, p2)) hN
  have HB : Hid (Below w.heap.size w W0) := hB
  clear hN hB hS
  go_enter Try.func63, Try.ntmps63
  go_wp2_with fail
  clear hW
  refine (check_any W0 (some ⟨w.heap.size + 1, 0, none⟩) 1 [(p0, p1, p2)] (by unfold maxLen; simp) HP.out).mono ?_
  rintro e w1 ⟨rfl, hb1⟩
  have HB1 : Hid (Below w.heap.size w w1) := HB.out.trans (hb1.mono HB.out.size)
  have hq := Orangery.check_one (p0, p1, p2)
  generalize check [(p0, p1, p2)] = E at *
  clear hb1
  cases hr : inRangeB (p0, p1, p2)
  · have hE : E = 3 := hq.2 hr
    subst hE
    clear hq
    go_wp2
    go_ret
    exact ⟨ret_bool hr.symm, HB1.out⟩
  · have hE : (E != 3) = true := by
      have : ¬ E = 3 := fun h => by have := hq.1 h; rw [hr] at this; simp at this
      simpa using this
    clear hq
    go_wp2
    go_ret
    exact ⟨ret_bool hr.symm, HB1.out⟩

set_option maxHeartbeats 1000000 in
theorem checkGone_any (w : World) (a : Option Addr) (c : Nat) (l : List Int) (hl : l.length ≤ maxLen) (h : SlI w a l) :
    Calls Try.prog 50 #[.slice a l.length c] w fun e w' => e = .returned (.int .i64 (goneE 0 l)) ∧ w' = w := by
  have hl' : l.length ≤ 9223372036854775807 := hl
  go_enter Try.func50, Try.ntmps50
  go_wp2
  go_loop [7] (fun i => ∃ (k : Nat) (m : Int), k ≤ l.length ∧ i = .int .i64 k ∧ goneE m (l.drop k) = goneE 0 l ∧ (k = 0 → m = 0) ∧ (∀ j, (hj : j < l.length) → k = j + 1 → m = l[j])) (fun i => l.length - (intOf i).toNat)
  case atStart => exact ⟨0, 0, Nat.zero_le _, rfl, rfl, fun _ => rfl, fun j _ e => by omega⟩
  case round =>
    obtain ⟨k, m, hk, rfl, hf, hm0, hm1⟩ := hrel
    by_cases hlt : k < l.length
    · obtain ⟨s1, s2, s3⟩ := Orangery.goneE_step l k _ hlt hf
      have H1 : Hid (¬ (1 ≤ l[k] ∧ l[k] ≤ 15) → goneE 0 l = 5) := s1
      have H2 : Hid (1 ≤ l[k] ∧ l[k] ≤ 15 → l[k] ≤ m → goneE 0 l = 6) := s2
      have H3 : Hid (1 ≤ l[k] ∧ l[k] ≤ 15 → ¬ l[k] ≤ m → goneE l[k] (l.drop (k + 1)) = goneE 0 l) := s3
      have HL : Hid (∀ j, (hj : j < l.length) → k = j → l[k] = l[j]) := fun j hj e => by subst e; rfl
      clear s1 s2 s3 hf
      obtain ⟨b, off, rfl, hbl, g0⟩ := h.at k hlt
      by_cases hn : 1 ≤ l[k] ∧ l[k] ≤ 15
      · cases k with
        | zero =>
          rw [Nat.add_zero] at g0
          obtain rfl : m = 0 := hm0 rfl
          have HF : Hid (goneE l[0] (l.drop (0 + 1)) = goneE 0 l) := H3.out hn (by omega)
          clear H1 H2 H3 hm0 hm1
          generalize l[0] = x at *
          have x1 : decide (x < 1) = false := by simp; omega
          have x2 : decide (x ≥ 16) = false := by simp; omega
          clear hn
          go_wp2
          go_round
          case rel => exact ⟨1, x, hlt, by go_num, HF.out, by omega, fun j hj e => HL.out j hj (by omega)⟩
          case measure => simp [intOf]; omega
        | succ j =>
          obtain ⟨b', off', e', _, g1⟩ := h.at j (by omega)
          obtain ⟨rfl, rfl⟩ : b = b' ∧ off = off' := by simpa using e'
          obtain rfl : m = l[j] := hm1 j (by omega) rfl
          clear hm0 hm1
          generalize l[j + 1] = x at *
          generalize l[j] = y at *
          have x1 : decide (x < 1) = false := by simp; omega
          have x2 : decide (x ≥ 16) = false := by simp; omega
          have x3 : decide (((j + 1 : Nat) : Int) > 0) = true := by simp <;> omega
          have x4 : ((j + 1 : Nat) : Int) - 1 = (j : Int) := by omega
          clear e'
          by_cases hq : x ≤ y
          · have HF : Hid (goneE 0 l = 6) := H2.out hn hq
            have x5 : decide (x ≤ y) = true := by simpa using hq
            clear H1 H2 H3 hn hq
            go_wp2
            go_ret
            exact ⟨ret_int (by rw [HF.out]), rfl⟩
          · have HF : Hid (goneE x (l.drop (j + 1 + 1)) = goneE 0 l) := H3.out hn hq
            have x5 : decide (x ≤ y) = false := by simpa using hq
            clear H1 H2 H3 hn hq
            go_wp2
            go_round
            case rel => exact ⟨j + 2, x, hlt, by go_num, HF.out, by omega, fun i hi e => HL.out i hi (by omega)⟩
            case measure => simp [intOf]; omega
      · have HF : Hid (goneE 0 l = 5) := H1.out hn
        clear H1 H2 H3 hm0 hm1 HL
        generalize l[k] = x at *
        by_cases h0 : x < 1
        · have x1 : decide (x < 1) = true := by simpa using h0
          clear h0 hn
          go_wp2
          go_ret
          exact ⟨ret_int (by rw [HF.out]), rfl⟩
        · have x1 : decide (x < 1) = false := by simpa using h0
          have x2 : decide (x ≥ 16) = true := by simp; omega
          clear h0 hn
          go_wp2
          go_ret
          exact ⟨ret_int (by rw [HF.out]), rfl⟩
    · have hk' : l.drop k = [] := by simp; omega
      rw [hk'] at hf
      have HF : Hid (goneE 0 l = 0) := hf.symm
      clear hf hk' hm0 hm1
      go_wp2
      go_ret
      exact ⟨ret_int (by rw [HF.out]), rfl⟩

theorem sizeDChange : (Try.prog.info? 83).map (·.size) = some 2 := by kernel_rfl
theorem sizeDChanges : (Try.prog.info? 85).map (·.size) = some 4 := by kernel_rfl
theorem sizeDelta : (Try.prog.info? 32).map (·.size) = some 4 := by kernel_rfl

set_option maxHeartbeats 1000000 in
theorem changesOf_any (w : World) (aG aH aX aY : Option Addr) (nG nH nX nY cG cH cX cY : Nat) :
    Calls Try.prog 38 #[.agg #[.slice aG nG cG, .slice aH nH cH, .slice aX nX cX, .slice aY nY cY]] w fun e w' => e = .returned (.agg #[.slice aG nG cG, .slice aH nH cH, .slice aX nX cX, .slice aY nY cY]) ∧ Below w.heap.size w w' := by
  obtain ⟨W0, hW, hX, hN, hB, hS⟩ := laid2 w [Value.slice aG nG cG, Value.slice aH nH cH, Value.slice aX nX cX, Value.slice aY nY cY] 32 [Value.slice none 0 0, Value.slice none 0 0, Value.slice none 0 0, Value.slice none 0 0] 85
  have x0 := hX.at 0 rfl
  have x1 := hX.at 1 rfl
  have x2 := hX.at 2 rfl
  have x3 := hX.at 3 rfl
  have y0 := hN.at 0 rfl
  have y1 := hN.at 1 rfl
  have y2 := hN.at 2 rfl
  have y3 := hN.at 3 rfl
  have yf := hN.frz
  have HN : Hid (Blk (W0.setCells (w.heap.size + 1) 0 [Value.slice aG nG cG, Value.slice aH nH cH, Value.slice aX nX cX, Value.slice aY nY cY]) (w.heap.size + 1) [Value.slice aG nG cG, Value.slice aH nH cH, Value.slice aX nX cX, Value.slice aY nY cY]) := hN.sets _ rfl
  have HB : Hid (Below w.heap.size w (W0.setCells (w.heap.size + 1) 0 [Value.slice aG nG cG, Value.slice aH nH cH, Value.slice aX nX cX, Value.slice aY nY cY])) := below_sets hB _ (by omega) _ 0
  clear hX hN hB hS
  go_enter Try.func38, Try.ntmps38
  go_wp2
  exact ret_cell Try.results38 rfl (HN.out.load Try.underlying85 rfl sizeDChanges) ⟨rfl, HB.out⟩
end Go.Proofs.Ytljbchkmoekpmae

/- slices.Contains at ints. -/
namespace Go.Proofs.Ytljbchkmoekpmae
open Go.ChangeShapes Go.WideShapes Go.ChangeAt Go.RowKit
open Orangery (hasB)

theorem indexI_nil (w : World) (a : Option Addr) (c : Nat) (x : Int) :
    Calls Try.prog 77 #[.slice a 0 c, .int .i64 x] w fun e w' => e = .returned (.int .i64 (-1)) ∧ w' = w := by
  go_enter Try.func77, Try.ntmps77
  go_wp2
  go_loop [8] (fun i => i = .int .i64 0) (fun _ => 0)
  case atStart => rfl
  case round =>
    subst hrel
    go_wp2
    go_ret
    exact ⟨rfl, rfl⟩

theorem containsI_any (w : World) (a : Option Addr) (c : Nat) (x : Int) (l : List Int) (hl : l.length ≤ maxLen) (h : SlI w a l) :
    Calls Try.prog 64 #[.slice a l.length c, .int .i64 x] w fun e w' => e = .returned (.bool (hasB x l)) ∧ w' = w := by
  rcases h with rfl | ⟨b, off, rfl, _, hp⟩
  · go_enter Try.func64, Try.ntmps64
    go_wp2_with fail
    refine (indexI_nil w a c x).mono ?_
    rintro e w1 ⟨rfl, rfl⟩
    go_wp2
    go_ret
    exact ⟨rfl, rfl⟩
  · exact contains_ints w b off c l.length x l rfl hl hp
end Go.Proofs.Ytljbchkmoekpmae

/- Regions that draw their order, walked step by step: an operation that is not wanted is taken too. -/
namespace Go.Proofs.Ytljbchkmoekpmae
open Go.ChangeShapes Go.WideShapes Go.ChangeAt Go.RowKit

/-- a wanted operation is taken first -/
theorem take_yes {P : Program} {md : Region.Mode} {ops : Array Oper} {Q : Exit → Act → World → Prop} {S : World → Prop} (i : Nat) (d : Nat) {oi : Oper} {v : Value} {fuel : Nat} {listed : Array Bool} {a : Act} {w : World} (hi : ops[i]? = some oi) (hd : oi.dst = some d)
    (hs : Region.noSelect ops = true) (hf : Region.free md ops listed i = true) (hr : (Region.ready md ops listed).contains i = true)
    (hQ : ∀ c a w, Q (.panic c) (a.put oi.dst v) w → Q (.panic c) a w) (hw : Region.wanted oi (yielded ops a.tmps) = true) (hy : ∀ w, S w → (execOp a.eval oi).run P w = .ok (.value v) w) (hS : S w)
    (h : wpAnyH P md ops Q S fuel (listed.setIfInBounds i true) (a.put (some d) v) w) : wpAnyH P md ops Q S (fuel + 1) listed a w :=
  wpAnyH_take hi hs hf hr hQ (Or.inl ⟨hw, hy⟩) hS (by rw [hd]; exact h)

/-- an operation that is not wanted is passed by -/
theorem take_no {P : Program} {md : Region.Mode} {ops : Array Oper} {Q : Exit → Act → World → Prop} {S : World → Prop} (i : Nat) (d : Nat) {oi : Oper} {fuel : Nat} {listed : Array Bool} {a : Act} {w : World} (hi : ops[i]? = some oi) (hd : oi.dst = some d)
    (hs : Region.noSelect ops = true) (hf : Region.free md ops listed i = true) (hr : (Region.ready md ops listed).contains i = true)
    (hQ : ∀ c a w, Q (.panic c) (a.put oi.dst undef) w → Q (.panic c) a w) (hw : Region.wanted oi (yielded ops a.tmps) = false) (hS : S w)
    (h : wpAnyH P md ops Q S fuel (listed.setIfInBounds i true) (a.put (some d) undef) w) : wpAnyH P md ops Q S (fuel + 1) listed a w :=
  wpAnyH_take hi hs hf hr hQ (Or.inr ⟨hw, rfl⟩) hS (by rw [hd]; exact h)
/-- a load of a whole row or struct is taken first -/
theorem take_load {P : Program} {md : Region.Mode} {ops : Array Oper} {Q : Exit → Act → World → Prop} {S : World → Prop} (i : Nat) (d : Nat) {oi : Oper} (ty : TypeId) {x : Operand} (b : Nat) (cs : List Value) {dd : TypeDesc} {fuel : Nat} {listed : Array Bool} {a : Act} {w : World} (hi : ops[i]? = some oi) (hd : oi.dst = some d)
    (hs : Region.noSelect ops = true) (hf : Region.free md ops listed i = true) (hr : (Region.ready md ops listed).contains i = true)
    (hQ : ∀ c a w, Q (.panic c) (a.put oi.dst (.agg cs.toArray)) w → Q (.panic c) a w) (hw : Region.wanted oi (yielded ops a.tmps) = true)
    (ho : oi.op = .load ty x) (hx : a.eval x = .pointer (some ⟨b, 0, none⟩)) (hc : ∀ w, S w → w.rangeAt b 0 cs)
    (hu : P.underlying ty = some dd) (hdd : dd.isRow = true) (hz : (P.info? ty).map (·.size) = some cs.length) (hS : S w)
    (h : wpAnyH P md ops Q S fuel (listed.setIfInBounds i true) (a.put (some d) (.agg cs.toArray)) w) : wpAnyH P md ops Q S (fuel + 1) listed a w :=
  wpAnyH_take hi hs hf hr hQ (yieldsIf_load_mid hw ty x ho b 0 hx cs dd hc hu hdd hz) hS (by rw [hd]; exact h)
/-- a store of a whole row or struct, the only one that may come up -/
theorem step_store {P : Program} {md : Region.Mode} {ops : Array Oper} {Q : Exit → Act → World → Prop} {S : World → Prop} (i : Nat) {oi : Oper} (ty : TypeId) {x y : Operand} (b : Nat) (cs : List Value) {fuel : Nat} {listed : Array Bool} {a : Act} {w : World} (hr : Region.ready md ops listed = [i]) (hi : ops[i]? = some oi) (hd : oi.dst = none)
    (hw : Region.wanted oi (yielded ops a.tmps) = true) (ho : oi.op = .store ty x y) (hx : a.eval x = .pointer (some ⟨b, 0, none⟩)) (hy : a.eval y = .agg cs.toArray)
    (ht : w.there b 0 cs.length) (hz : (P.info? ty).map (·.size) = some cs.length) (h1 : ∀ v ∈ cs, v.oneCell' = true) (hS : S (w.setCells b 0 cs))
    (h : wpAnyH P md ops Q S fuel (listed.setIfInBounds i true) a (w.setCells b 0 cs)) : wpAnyH P md ops Q S (fuel + 1) listed a w := by
  refine wpAnyH_ready hr (by simp) (AllReadyH.cons hi (fun K hK => ?_) AllReadyH.nil)
  rw [if_pos hw]
  refine wp_store_mid ty x y ho b 0 cs.toArray hx hy (by simpa using ht) (by simpa using hz) (all_oneCell_toArray h1) ?_
  rw [hd]
  have e : cs.toArray.toList = cs := rfl
  rw [e]
  exact hK.out _ _ hS (fun _ => h)
/-- a store of a whole struct anywhere in a block, the only operation that may come up -/
theorem step_store_at {P : Program} {md : Region.Mode} {ops : Array Oper} {Q : Exit → Act → World → Prop} {S : World → Prop} (i : Nat) {oi : Oper} (ty : TypeId) {x y : Operand} (b o : Nat) (cs : List Value) {fuel : Nat} {listed : Array Bool} {a : Act} {w : World} (hr : Region.ready md ops listed = [i]) (hi : ops[i]? = some oi) (hd : oi.dst = none)
    (hw : Region.wanted oi (yielded ops a.tmps) = true) (ho : oi.op = .store ty x y) (hx : a.eval x = .pointer (some ⟨b, o, none⟩)) (hy : a.eval y = .agg cs.toArray)
    (ht : w.there b o cs.length) (hz : (P.info? ty).map (·.size) = some cs.length) (h1 : ∀ v ∈ cs, v.oneCell' = true) (hS : S (w.setCells b o cs))
    (h : wpAnyH P md ops Q S fuel (listed.setIfInBounds i true) a (w.setCells b o cs)) : wpAnyH P md ops Q S (fuel + 1) listed a w := by
  refine wpAnyH_ready hr (by simp) (AllReadyH.cons hi (fun K hK => ?_) AllReadyH.nil)
  rw [if_pos hw]
  refine wp_store_mid ty x y ho b o cs.toArray hx hy (by simpa using ht) (by simpa using hz) (all_oneCell_toArray h1) ?_
  rw [hd]
  have e : cs.toArray.toList = cs := rfl
  rw [e]
  exact hK.out _ _ hS (fun _ => h)
end Go.Proofs.Ytljbchkmoekpmae

/- delta.checkHere, delta.checkChange, delta.Check. -/
namespace Go.Proofs.Ytljbchkmoekpmae
open Go.ChangeShapes Go.WideShapes Go.ChangeAt Go.RowKit
open Orangery (Pl hasB inRangeB goneE hereE halfE deltaE orI)

set_option maxHeartbeats 4000000 in
set_option maxRecDepth 100000 in
theorem checkHere_any (w : World) (aG aH : Option Addr) (cG cH : Nat) (G : List Int) (H : List Pl) (hG : G.length ≤ maxLen) (hH : H.length ≤ maxLen) (h1 : SlI w aG G) (h2 : SlP w aH H) :
    Calls Try.prog 51 #[.agg #[.slice aG G.length cG, .slice aH H.length cH]] w fun e w' => e = .returned (.int .i64 (hereE G 0 H)) ∧ Below w.heap.size w w' := by
  have hl' : H.length ≤ 9223372036854775807 := hH
  have HM : Hid (G.length ≤ maxLen ∧ H.length ≤ maxLen) := ⟨hG, hH⟩
  obtain ⟨W0, hW, hX, hB, hS⟩ := laid1 w [Value.slice aG G.length cG, Value.slice aH H.length cH] 83
  have HX : Hid (Blk W0 w.heap.size [Value.slice aG G.length cG, Value.slice aH H.length cH]) := hX
  have HG : Hid (SlI W0 aG G) := h1.below hB
  have HH : Hid (SlP W0 aH H) := h2.below hB
  have HB : Hid (Below w.heap.size w W0) := hB
  have x1 := hX.at 1 rfl
  clear hX h1 h2 hB hS hG hH
  go_enter Try.func51, Try.ntmps51
  go_wp2
  clear hW x1
  go_loopw [8] (fun i W => ∃ (k : Nat) (m : Int), k ≤ H.length ∧ i = .int .i64 k ∧ hereE G m (H.drop k) = hereE G 0 H ∧ (k = 0 → m = 0) ∧ (∀ j, (hj : j < H.length) → k = j + 1 → m = H[j].1) ∧ Below W0.heap.size W0 W) (fun i _ => H.length - (intOf i).toNat)
  case atStart => exact ⟨0, 0, Nat.zero_le _, rfl, rfl, fun _ => rfl, fun j _ e => by omega, Below.refl _ _⟩
  case round =>
    obtain ⟨k, m, hk, rfl, hf, hm0, hm1, hb⟩ := hrel
    by_cases hlt : k < H.length
    · obtain ⟨s1, s2, s3⟩ := Orangery.hereE_step G H k _ hlt hf
      have HS1 : Hid (inRangeB H[k] = false → hereE G 0 H = 3) := s1
      have HS2 : Hid (inRangeB H[k] = true → H[k].1 ≤ m ∨ hasB H[k].1 G = true → hereE G 0 H = 6) := s2
      have HS3 : Hid (inRangeB H[k] = true → ¬ H[k].1 ≤ m → hasB H[k].1 G = false → hereE G H[k].1 (H.drop (k + 1)) = hereE G 0 H) := s3
      have HL : Hid (∀ j, (hj : j < H.length) → k = j → H[k].1 = H[j].1) := fun j hj e => by subst e; rfl
      have HM0 : Hid (k = 0 → m = 0) := hm0
      have HM1 : Hid (∀ j, (hj : j < H.length) → k = j + 1 → m = H[j].1) := hm1
      clear s1 s2 s3 hf hm0 hm1
      have hP := HH.out.below hb
      rcases hP with hP | ⟨b, off, rfl, hbl, hp⟩
      · exact absurd hlt (by simp [hP])
      obtain ⟨g0, g1, g2⟩ := hp k hlt
      have HPP : Hid (b < wr.heap.size ∧ PlsAt wr b off H) := ⟨hbl, hp⟩
      clear hp
      generalize hq : H[k] = q at *
      obtain ⟨q0, q1, q2⟩ := q
      clear hq
      dsimp only at g0 g1 g2 HS2 HS3 HL
      obtain ⟨W1, hW1, hN, hB1, _⟩ := laid1 wr [Value.int IntKind.i64 q0, Value.int IntKind.i64 q1, Value.int IntKind.i64 q2] 56
      have HB1 : Hid (Below W0.heap.size W0 W1) := hb.trans (hB1.mono hb.size)
      have HB1' : Hid (Below wr.heap.size wr W1) := hB1
      have n0 := hN.at 0 rfl
      have n1 := hN.at 1 rfl
      have n2 := hN.at 2 rfl
      have HN : Hid (Blk W1 wr.heap.size [Value.int IntKind.i64 q0, Value.int IntKind.i64 q1, Value.int IntKind.i64 q2]) := hN
      clear hN hB1 hb hbl
      go_wp2_with fail
      clear hW1 n0 n1 n2 g0 g1 g2
      refine (inRangeD_any W1 (q0, q1, q2)).mono ?_
      rintro e w2 ⟨rfl, hb2⟩
      have HB2 : Hid (Below W0.heap.size W0 w2) := HB1.out.trans (hb2.mono HB1.out.size)
      have HBr : Hid (Below wr.heap.size wr w2) := HB1'.out.trans (hb2.mono HB1'.out.size)
      have hN2 := HN.out.keep hb2
      have hX2 := HX.out.keep HB2.out
      have HG2 : Hid (SlI w2.drew aG G) := HG.out.below (HB2.out.trans ((Below.refl _ w2).drew.mono HB2.out.size))
      have n0 := hN2.at 0 rfl
      have y0 := hX2.at 0 rfl
      have y1 := hX2.at 1 rfl
      have HPP2 : Hid (PlsAt w2 b off H) := by
        intro i hi
        obtain ⟨u0, u1, u2⟩ := HPP.out.2 i hi
        exact ⟨by rw [HBr.out.cell (by exact HPP.out.1)]; exact u0, by rw [HBr.out.cell (by exact HPP.out.1)]; exact u1, by rw [HBr.out.cell (by exact HPP.out.1)]; exact u2⟩
      clear HN hb2 hN2 hX2 HPP HB1 HB1'
      cases hr : inRangeB (q0, q1, q2)
      · have HF : Hid (hereE G 0 H = 3) := HS1.out hr
        clear HS1 HS2 HS3 n0 y0 y1
        go_wp2
        go_ret
        exact ⟨ret_int (by rw [HF.out]), HB.out.trans (HB2.out.mono HB.out.size)⟩
      · cases k with
        | zero =>
          have HZ : Hid (m = 0) := HM0.out rfl
          have hq0 : Hid (¬ q0 ≤ 0) := by
            show ¬ q0 ≤ 0
            have := (Orangery.inRangeB_iff (q0, q1, q2)).1 hr
            simp only at this
            omega
          have HF6 : Hid (hasB q0 G = true → hereE G 0 H = 6) := fun h => HS2.out hr (Or.inr h)
          have HF0 : Hid (hasB q0 G = false → hereE G q0 (H.drop (0 + 1)) = hereE G 0 H) := fun h => HS3.out hr (by have := hq0.out; rw [HZ.out]; omega) h
          clear HS1 HS2 HS3 HM0 HM1 HZ hq0
          go_upto_region 6 with fail
          refine wp_region_held_drew (S := fun w' => w' = w2.drew) (by kernel_rfl) rfl (fun hHeld => ?_)
          refine take_yes 0 16 (v := ?_) rfl rfl (by kernel_rfl) (by kernel_rfl) (by kernel_rfl) (fun _ _ _ h => h) (by rfl) ?_ hHeld ?_
          rotate_left 1
          · (intro w hSw; subst hSw; go_simp; try with_reducible rfl)
          simp only [Act.put, List.setIfInBounds_toArray, List.set_cons_succ, List.set_cons_zero]
          refine take_yes 1 17 (v := ?_) rfl rfl (by kernel_rfl) (by kernel_rfl) (by kernel_rfl) (fun _ _ _ h => h) (by rfl) ?_ hHeld ?_
          rotate_left 1
          · (intro w hSw; subst hSw; go_simp; try with_reducible rfl)
          simp only [Act.put, List.setIfInBounds_toArray, List.set_cons_succ, List.set_cons_zero]
          refine take_yes 2 18 (v := ?_) rfl rfl (by kernel_rfl) (by kernel_rfl) (by kernel_rfl) (fun _ _ _ h => h) (by rfl) ?_ hHeld ?_
          rotate_left 1
          · (intro w hSw; subst hSw; go_simp; try with_reducible rfl)
          simp only [Act.put, List.setIfInBounds_toArray, List.set_cons_succ, List.set_cons_zero]
          refine take_no 3 19 rfl rfl (by kernel_rfl) (by kernel_rfl) (by kernel_rfl) (fun _ _ _ h => h) (by rfl) hHeld ?_
          simp only [Act.put, List.setIfInBounds_toArray, List.set_cons_succ, List.set_cons_zero]
          refine take_no 4 20 rfl rfl (by kernel_rfl) (by kernel_rfl) (by kernel_rfl) (fun _ _ _ h => h) (by rfl) hHeld ?_
          simp only [Act.put, List.setIfInBounds_toArray, List.set_cons_succ, List.set_cons_zero]
          refine take_no 5 21 rfl rfl (by kernel_rfl) (by kernel_rfl) (by kernel_rfl) (fun _ _ _ h => h) (by rfl) hHeld ?_
          simp only [Act.put, List.setIfInBounds_toArray, List.set_cons_succ, List.set_cons_zero]
          refine take_no 6 22 rfl rfl (by kernel_rfl) (by kernel_rfl) (by kernel_rfl) (fun _ _ _ h => h) (by rfl) hHeld ?_
          simp only [Act.put, List.setIfInBounds_toArray, List.set_cons_succ, List.set_cons_zero]
          refine take_no 7 23 rfl rfl (by kernel_rfl) (by kernel_rfl) (by kernel_rfl) (fun _ _ _ h => h) (by rfl) hHeld ?_
          simp only [Act.put, List.setIfInBounds_toArray, List.set_cons_succ, List.set_cons_zero]
          refine take_no 8 24 rfl rfl (by kernel_rfl) (by kernel_rfl) (by kernel_rfl) (fun _ _ _ h => h) (by rfl) hHeld ?_
          simp only [Act.put, List.setIfInBounds_toArray, List.set_cons_succ, List.set_cons_zero]
          refine take_no 9 25 rfl rfl (by kernel_rfl) (by kernel_rfl) (by kernel_rfl) (fun _ _ _ h => h) (by rfl) hHeld ?_
          simp only [Act.put, List.setIfInBounds_toArray, List.set_cons_succ, List.set_cons_zero]
          refine take_no 10 26 rfl rfl (by kernel_rfl) (by kernel_rfl) (by kernel_rfl) (fun _ _ _ h => h) (by rfl) hHeld ?_
          simp only [Act.put, List.setIfInBounds_toArray, List.set_cons_succ, List.set_cons_zero]
          refine take_no 11 27 rfl rfl (by kernel_rfl) (by kernel_rfl) (by kernel_rfl) (fun _ _ _ h => h) (by rfl) hHeld ?_
          simp only [Act.put, List.setIfInBounds_toArray, List.set_cons_succ, List.set_cons_zero]
          refine take_no 12 28 rfl rfl (by kernel_rfl) (by kernel_rfl) (by kernel_rfl) (fun _ _ _ h => h) (by rfl) hHeld ?_
          simp only [Act.put, List.setIfInBounds_toArray, List.set_cons_succ, List.set_cons_zero]
          refine take_yes 13 29 (v := ?_) rfl rfl (by kernel_rfl) (by kernel_rfl) (by kernel_rfl) (fun _ _ _ h => h) (by rfl) ?_ hHeld ?_
          rotate_left 1
          · (intro w hSw; subst hSw; go_simp; try with_reducible rfl)
          simp only [Act.put, List.setIfInBounds_toArray, List.set_cons_succ, List.set_cons_zero]
          refine take_yes 14 30 (v := ?_) rfl rfl (by kernel_rfl) (by kernel_rfl) (by kernel_rfl) (fun _ _ _ h => h) (by rfl) ?_ hHeld ?_
          rotate_left 1
          · (intro w hSw; subst hSw; go_simp; try with_reducible rfl)
          simp only [Act.put, List.setIfInBounds_toArray, List.set_cons_succ, List.set_cons_zero]
          refine take_yes 15 31 (v := ?_) rfl rfl (by kernel_rfl) (by kernel_rfl) (by kernel_rfl) (fun _ _ _ h => h) (by rfl) ?_ hHeld ?_
          rotate_left 1
          · (intro w hSw; subst hSw; go_simp; try with_reducible rfl)
          simp only [Act.put, List.setIfInBounds_toArray, List.set_cons_succ, List.set_cons_zero]
          refine take_yes 16 32 (v := ?_) rfl rfl (by kernel_rfl) (by kernel_rfl) (by kernel_rfl) (fun _ _ _ h => h) (by rfl) ?_ hHeld ?_
          rotate_left 1
          · (intro w hSw; subst hSw; go_simp; try with_reducible rfl)
          simp only [Act.put, List.setIfInBounds_toArray, List.set_cons_succ, List.set_cons_zero]
          refine take_yes 17 33 (v := ?_) rfl rfl (by kernel_rfl) (by kernel_rfl) (by kernel_rfl) (fun _ _ _ h => h) (by rfl) ?_ hHeld ?_
          rotate_left 1
          · (intro w hSw; subst hSw; go_simp; try with_reducible rfl)
          simp only [Act.put, List.setIfInBounds_toArray, List.set_cons_succ, List.set_cons_zero]
          refine take_yes 18 34 (v := ?_) rfl rfl (by kernel_rfl) (by kernel_rfl) (by kernel_rfl) (fun _ _ _ h => h) (by rfl) ?_ hHeld ?_
          rotate_left 1
          · (intro w hSw; subst hSw; go_simp; try with_reducible rfl)
          simp only [Act.put, List.setIfInBounds_toArray, List.set_cons_succ, List.set_cons_zero]
          refine wpAnyH_ready (rs := [19]) (by kernel_rfl) (by simp) ?_
          refine AllReadyH.cons rfl (fun K hK => ?_) AllReadyH.nil
          go_simp
          refine (containsI_any w2.drew aG cG q0 G HM.out.1 HG2.out).mono ?_
          rintro e _ ⟨rfl, rfl⟩
          go_wp2_with fail
          refine hK.out _ _ rfl (fun hHeld => ?_)
          clear hK K
          refine take_yes 20 36 (v := ?_) rfl rfl (by kernel_rfl) (by kernel_rfl) (by kernel_rfl) (fun _ _ _ h => h) (by rfl) ?_ hHeld ?_
          rotate_left 1
          · (intro w hSw; subst hSw; go_simp; try with_reducible rfl)
          simp only [Act.put, List.setIfInBounds_toArray, List.set_cons_succ, List.set_cons_zero]
          refine wpAnyH_done (by kernel_rfl) ?_ _
          cases hg : hasB q0 G
          · have HF : Hid (hereE G q0 (H.drop (0 + 1)) = hereE G 0 H) := HF0.out hg
            clear HF0 HF6 n0 y0 y1
            go_wp2
            go_roundw
            case rel => exact ⟨1, q0, hlt, by go_num, HF.out, by omega, fun j hj e => HL.out j hj (by omega), HB2.out.drew⟩
            case measure => simp [intOf]; omega
          · have HF : Hid (hereE G 0 H = 6) := HF6.out hg
            clear HF0 HF6 n0 y0 y1
            go_wp2
            go_ret
            exact ⟨ret_int (by rw [HF.out]), HB.out.trans (HB2.out.drew.mono HB.out.size)⟩
        | succ j =>
          have HE : Hid (m = H[j].1) := HM1.out j (by omega) rfl
          have u0 := (HPP2.out j (by omega)).1
          generalize H[j].1 = y at *
          have HSa : Hid (q0 ≤ y → hereE G 0 H = 6) := fun h => HS2.out hr (Or.inl (by rw [HE.out]; exact h))
          have HSb : Hid (hasB q0 G = true → hereE G 0 H = 6) := fun h => HS2.out hr (Or.inr h)
          have HSc : Hid (¬ q0 ≤ y → hasB q0 G = false → hereE G q0 (H.drop (j + 1 + 1)) = hereE G 0 H) := fun h h' => HS3.out hr (by rw [HE.out]; omega) h'
          have x3 : decide (((j + 1 : Nat) : Int) > 0) = true := by simp <;> omega
          have x4 : ((j + 1 : Nat) : Int) - 1 = (j : Int) := by omega
          have x6 : (j : Int) < (H.length : Int) := by omega
          have x7 : IntKind.i64.wrap (j : Int) = (j : Int) := by simp [IntKind.wrap, IntKind.bits, IntKind.signed]; omega
          clear HS1 HS2 HS3 HM0 HM1 HE
          by_cases hq : q0 ≤ y
          · have x5 : decide (q0 ≤ y) = true := by simpa using hq
            have HF : Hid (hereE G 0 H = 6) := HSa.out hq
            clear HSa HSb HSc hq
            go_upto_region 6 with fail
            refine wp_region_held_drew (S := fun w' => w' = w2.drew) (by kernel_rfl) rfl (fun hHeld => ?_)
            refine take_yes 0 16 (v := ?_) rfl rfl (by kernel_rfl) (by kernel_rfl) (by kernel_rfl) (fun _ _ _ h => h) (by rfl) ?_ hHeld ?_
            rotate_left 1
            · (intro w hSw; subst hSw; go_simp; try with_reducible rfl)
            simp only [Act.put, List.setIfInBounds_toArray, List.set_cons_succ, List.set_cons_zero]
            refine take_yes 1 17 (v := ?_) rfl rfl (by kernel_rfl) (by kernel_rfl) (by kernel_rfl) (fun _ _ _ h => h) (by rfl) ?_ hHeld ?_
            rotate_left 1
            · (intro w hSw; subst hSw; go_simp; try with_reducible rfl)
            simp only [Act.put, List.setIfInBounds_toArray, List.set_cons_succ, List.set_cons_zero]
            refine take_yes 2 18 (v := ?_) rfl rfl (by kernel_rfl) (by kernel_rfl) (by kernel_rfl) (fun _ _ _ h => h) (by rfl) ?_ hHeld ?_
            rotate_left 1
            · (intro w hSw; subst hSw; go_simp; try with_reducible rfl)
            simp only [Act.put, List.setIfInBounds_toArray, List.set_cons_succ, List.set_cons_zero]
            refine take_yes 3 19 (v := ?_) rfl rfl (by kernel_rfl) (by kernel_rfl) (by kernel_rfl) (fun _ _ _ h => h) (by rfl) ?_ hHeld ?_
            rotate_left 1
            · (intro w hSw; subst hSw; go_simp; try with_reducible rfl)
            simp only [Act.put, List.setIfInBounds_toArray, List.set_cons_succ, List.set_cons_zero]
            refine take_yes 4 20 (v := ?_) rfl rfl (by kernel_rfl) (by kernel_rfl) (by kernel_rfl) (fun _ _ _ h => h) (by rfl) ?_ hHeld ?_
            rotate_left 1
            · (intro w hSw; subst hSw; go_simp; try with_reducible rfl)
            simp only [Act.put, List.setIfInBounds_toArray, List.set_cons_succ, List.set_cons_zero]
            refine take_yes 5 21 (v := ?_) rfl rfl (by kernel_rfl) (by kernel_rfl) (by kernel_rfl) (fun _ _ _ h => h) (by rfl) ?_ hHeld ?_
            rotate_left 1
            · (intro w hSw; subst hSw; go_simp; try with_reducible rfl)
            simp only [Act.put, List.setIfInBounds_toArray, List.set_cons_succ, List.set_cons_zero]
            refine take_yes 6 22 (v := ?_) rfl rfl (by kernel_rfl) (by kernel_rfl) (by kernel_rfl) (fun _ _ _ h => h) (by rfl) ?_ hHeld ?_
            rotate_left 1
            · (intro w hSw; subst hSw; go_simp; try with_reducible rfl)
            simp only [Act.put, List.setIfInBounds_toArray, List.set_cons_succ, List.set_cons_zero]
            refine take_yes 7 23 (v := ?_) rfl rfl (by kernel_rfl) (by kernel_rfl) (by kernel_rfl) (fun _ _ _ h => h) (by rfl) ?_ hHeld ?_
            rotate_left 1
            · (intro w hSw; subst hSw; go_simp; try with_reducible rfl)
            simp only [Act.put, List.setIfInBounds_toArray, List.set_cons_succ, List.set_cons_zero]
            refine take_yes 8 24 (v := ?_) rfl rfl (by kernel_rfl) (by kernel_rfl) (by kernel_rfl) (fun _ _ _ h => h) (by rfl) ?_ hHeld ?_
            rotate_left 1
            · (intro w hSw; subst hSw; go_simp; try with_reducible rfl)
            simp only [Act.put, List.setIfInBounds_toArray, List.set_cons_succ, List.set_cons_zero]
            refine take_yes 9 25 (v := ?_) rfl rfl (by kernel_rfl) (by kernel_rfl) (by kernel_rfl) (fun _ _ _ h => h) (by rfl) ?_ hHeld ?_
            rotate_left 1
            · (intro w hSw; subst hSw; go_simp; try with_reducible rfl)
            simp only [Act.put, List.setIfInBounds_toArray, List.set_cons_succ, List.set_cons_zero]
            refine take_yes 10 26 (v := ?_) rfl rfl (by kernel_rfl) (by kernel_rfl) (by kernel_rfl) (fun _ _ _ h => h) (by rfl) ?_ hHeld ?_
            rotate_left 1
            · (intro w hSw; subst hSw; go_simp; try with_reducible rfl)
            simp only [Act.put, List.setIfInBounds_toArray, List.set_cons_succ, List.set_cons_zero]
            refine take_yes 11 27 (v := ?_) rfl rfl (by kernel_rfl) (by kernel_rfl) (by kernel_rfl) (fun _ _ _ h => h) (by rfl) ?_ hHeld ?_
            rotate_left 1
            · (intro w hSw; subst hSw; go_simp; try with_reducible rfl)
            simp only [Act.put, List.setIfInBounds_toArray, List.set_cons_succ, List.set_cons_zero]
            refine take_yes 12 28 (v := ?_) rfl rfl (by kernel_rfl) (by kernel_rfl) (by kernel_rfl) (fun _ _ _ h => h) (by rfl) ?_ hHeld ?_
            rotate_left 1
            · (intro w hSw; subst hSw; go_simp; try with_reducible rfl)
            simp only [Act.put, List.setIfInBounds_toArray, List.set_cons_succ, List.set_cons_zero]
            refine take_yes 13 29 (v := ?_) rfl rfl (by kernel_rfl) (by kernel_rfl) (by kernel_rfl) (fun _ _ _ h => h) (by rfl) ?_ hHeld ?_
            rotate_left 1
            · (intro w hSw; subst hSw; go_simp; try with_reducible rfl)
            simp only [Act.put, List.setIfInBounds_toArray, List.set_cons_succ, List.set_cons_zero]
            refine take_yes 14 30 (v := ?_) rfl rfl (by kernel_rfl) (by kernel_rfl) (by kernel_rfl) (fun _ _ _ h => h) (by rfl) ?_ hHeld ?_
            rotate_left 1
            · (intro w hSw; subst hSw; go_simp; try with_reducible rfl)
            simp only [Act.put, List.setIfInBounds_toArray, List.set_cons_succ, List.set_cons_zero]
            refine take_no 15 31 rfl rfl (by kernel_rfl) (by kernel_rfl) (by kernel_rfl) (fun _ _ _ h => h) (by rfl) hHeld ?_
            simp only [Act.put, List.setIfInBounds_toArray, List.set_cons_succ, List.set_cons_zero]
            refine take_no 16 32 rfl rfl (by kernel_rfl) (by kernel_rfl) (by kernel_rfl) (fun _ _ _ h => h) (by rfl) hHeld ?_
            simp only [Act.put, List.setIfInBounds_toArray, List.set_cons_succ, List.set_cons_zero]
            refine take_no 17 33 rfl rfl (by kernel_rfl) (by kernel_rfl) (by kernel_rfl) (fun _ _ _ h => h) (by rfl) hHeld ?_
            simp only [Act.put, List.setIfInBounds_toArray, List.set_cons_succ, List.set_cons_zero]
            refine take_no 18 34 rfl rfl (by kernel_rfl) (by kernel_rfl) (by kernel_rfl) (fun _ _ _ h => h) (by rfl) hHeld ?_
            simp only [Act.put, List.setIfInBounds_toArray, List.set_cons_succ, List.set_cons_zero]
            refine take_no 19 35 rfl rfl (by kernel_rfl) (by kernel_rfl) (by kernel_rfl) (fun _ _ _ h => h) (by rfl) hHeld ?_
            simp only [Act.put, List.setIfInBounds_toArray, List.set_cons_succ, List.set_cons_zero]
            refine take_yes 20 36 (v := ?_) rfl rfl (by kernel_rfl) (by kernel_rfl) (by kernel_rfl) (fun _ _ _ h => h) (by rfl) ?_ hHeld ?_
            rotate_left 1
            · (intro w hSw; subst hSw; go_simp; try with_reducible rfl)
            simp only [Act.put, List.setIfInBounds_toArray, List.set_cons_succ, List.set_cons_zero]
            refine wpAnyH_done (by kernel_rfl) ?_ _
            clear n0 y0 y1 u0
            go_wp2
            go_ret
            exact ⟨ret_int (by rw [HF.out]), HB.out.trans (HB2.out.drew.mono HB.out.size)⟩
          · have x5 : decide (q0 ≤ y) = false := by simpa using hq
            have HF0 : Hid (hasB q0 G = false → hereE G q0 (H.drop (j + 1 + 1)) = hereE G 0 H) := HSc.out hq
            clear HSa HSc hq
            go_upto_region 6 with fail
            refine wp_region_held_drew (S := fun w' => w' = w2.drew) (by kernel_rfl) rfl (fun hHeld => ?_)
            refine take_yes 0 16 (v := ?_) rfl rfl (by kernel_rfl) (by kernel_rfl) (by kernel_rfl) (fun _ _ _ h => h) (by rfl) ?_ hHeld ?_
            rotate_left 1
            · (intro w hSw; subst hSw; go_simp; try with_reducible rfl)
            simp only [Act.put, List.setIfInBounds_toArray, List.set_cons_succ, List.set_cons_zero]
            refine take_yes 1 17 (v := ?_) rfl rfl (by kernel_rfl) (by kernel_rfl) (by kernel_rfl) (fun _ _ _ h => h) (by rfl) ?_ hHeld ?_
            rotate_left 1
            · (intro w hSw; subst hSw; go_simp; try with_reducible rfl)
            simp only [Act.put, List.setIfInBounds_toArray, List.set_cons_succ, List.set_cons_zero]
            refine take_yes 2 18 (v := ?_) rfl rfl (by kernel_rfl) (by kernel_rfl) (by kernel_rfl) (fun _ _ _ h => h) (by rfl) ?_ hHeld ?_
            rotate_left 1
            · (intro w hSw; subst hSw; go_simp; try with_reducible rfl)
            simp only [Act.put, List.setIfInBounds_toArray, List.set_cons_succ, List.set_cons_zero]
            refine take_yes 3 19 (v := ?_) rfl rfl (by kernel_rfl) (by kernel_rfl) (by kernel_rfl) (fun _ _ _ h => h) (by rfl) ?_ hHeld ?_
            rotate_left 1
            · (intro w hSw; subst hSw; go_simp; try with_reducible rfl)
            simp only [Act.put, List.setIfInBounds_toArray, List.set_cons_succ, List.set_cons_zero]
            refine take_yes 4 20 (v := ?_) rfl rfl (by kernel_rfl) (by kernel_rfl) (by kernel_rfl) (fun _ _ _ h => h) (by rfl) ?_ hHeld ?_
            rotate_left 1
            · (intro w hSw; subst hSw; go_simp; try with_reducible rfl)
            simp only [Act.put, List.setIfInBounds_toArray, List.set_cons_succ, List.set_cons_zero]
            refine take_yes 5 21 (v := ?_) rfl rfl (by kernel_rfl) (by kernel_rfl) (by kernel_rfl) (fun _ _ _ h => h) (by rfl) ?_ hHeld ?_
            rotate_left 1
            · (intro w hSw; subst hSw; go_simp; try with_reducible rfl)
            simp only [Act.put, List.setIfInBounds_toArray, List.set_cons_succ, List.set_cons_zero]
            refine take_yes 6 22 (v := ?_) rfl rfl (by kernel_rfl) (by kernel_rfl) (by kernel_rfl) (fun _ _ _ h => h) (by rfl) ?_ hHeld ?_
            rotate_left 1
            · (intro w hSw; subst hSw; go_simp; try with_reducible rfl)
            simp only [Act.put, List.setIfInBounds_toArray, List.set_cons_succ, List.set_cons_zero]
            refine take_yes 7 23 (v := ?_) rfl rfl (by kernel_rfl) (by kernel_rfl) (by kernel_rfl) (fun _ _ _ h => h) (by rfl) ?_ hHeld ?_
            rotate_left 1
            · (intro w hSw; subst hSw; go_simp; try with_reducible rfl)
            simp only [Act.put, List.setIfInBounds_toArray, List.set_cons_succ, List.set_cons_zero]
            refine take_yes 8 24 (v := ?_) rfl rfl (by kernel_rfl) (by kernel_rfl) (by kernel_rfl) (fun _ _ _ h => h) (by rfl) ?_ hHeld ?_
            rotate_left 1
            · (intro w hSw; subst hSw; go_simp; try with_reducible rfl)
            simp only [Act.put, List.setIfInBounds_toArray, List.set_cons_succ, List.set_cons_zero]
            refine take_yes 9 25 (v := ?_) rfl rfl (by kernel_rfl) (by kernel_rfl) (by kernel_rfl) (fun _ _ _ h => h) (by rfl) ?_ hHeld ?_
            rotate_left 1
            · (intro w hSw; subst hSw; go_simp; try with_reducible rfl)
            simp only [Act.put, List.setIfInBounds_toArray, List.set_cons_succ, List.set_cons_zero]
            refine take_yes 10 26 (v := ?_) rfl rfl (by kernel_rfl) (by kernel_rfl) (by kernel_rfl) (fun _ _ _ h => h) (by rfl) ?_ hHeld ?_
            rotate_left 1
            · (intro w hSw; subst hSw; go_simp; try with_reducible rfl)
            simp only [Act.put, List.setIfInBounds_toArray, List.set_cons_succ, List.set_cons_zero]
            refine take_yes 11 27 (v := ?_) rfl rfl (by kernel_rfl) (by kernel_rfl) (by kernel_rfl) (fun _ _ _ h => h) (by rfl) ?_ hHeld ?_
            rotate_left 1
            · (intro w hSw; subst hSw; go_simp; try with_reducible rfl)
            simp only [Act.put, List.setIfInBounds_toArray, List.set_cons_succ, List.set_cons_zero]
            refine take_yes 12 28 (v := ?_) rfl rfl (by kernel_rfl) (by kernel_rfl) (by kernel_rfl) (fun _ _ _ h => h) (by rfl) ?_ hHeld ?_
            rotate_left 1
            · (intro w hSw; subst hSw; go_simp; try with_reducible rfl)
            simp only [Act.put, List.setIfInBounds_toArray, List.set_cons_succ, List.set_cons_zero]
            refine take_yes 13 29 (v := ?_) rfl rfl (by kernel_rfl) (by kernel_rfl) (by kernel_rfl) (fun _ _ _ h => h) (by rfl) ?_ hHeld ?_
            rotate_left 1
            · (intro w hSw; subst hSw; go_simp; try with_reducible rfl)
            simp only [Act.put, List.setIfInBounds_toArray, List.set_cons_succ, List.set_cons_zero]
            refine take_yes 14 30 (v := ?_) rfl rfl (by kernel_rfl) (by kernel_rfl) (by kernel_rfl) (fun _ _ _ h => h) (by rfl) ?_ hHeld ?_
            rotate_left 1
            · (intro w hSw; subst hSw; go_simp; try with_reducible rfl)
            simp only [Act.put, List.setIfInBounds_toArray, List.set_cons_succ, List.set_cons_zero]
            refine take_yes 15 31 (v := ?_) rfl rfl (by kernel_rfl) (by kernel_rfl) (by kernel_rfl) (fun _ _ _ h => h) (by rfl) ?_ hHeld ?_
            rotate_left 1
            · (intro w hSw; subst hSw; go_simp; try with_reducible rfl)
            simp only [Act.put, List.setIfInBounds_toArray, List.set_cons_succ, List.set_cons_zero]
            refine take_yes 16 32 (v := ?_) rfl rfl (by kernel_rfl) (by kernel_rfl) (by kernel_rfl) (fun _ _ _ h => h) (by rfl) ?_ hHeld ?_
            rotate_left 1
            · (intro w hSw; subst hSw; go_simp; try with_reducible rfl)
            simp only [Act.put, List.setIfInBounds_toArray, List.set_cons_succ, List.set_cons_zero]
            refine take_yes 17 33 (v := ?_) rfl rfl (by kernel_rfl) (by kernel_rfl) (by kernel_rfl) (fun _ _ _ h => h) (by rfl) ?_ hHeld ?_
            rotate_left 1
            · (intro w hSw; subst hSw; go_simp; try with_reducible rfl)
            simp only [Act.put, List.setIfInBounds_toArray, List.set_cons_succ, List.set_cons_zero]
            refine take_yes 18 34 (v := ?_) rfl rfl (by kernel_rfl) (by kernel_rfl) (by kernel_rfl) (fun _ _ _ h => h) (by rfl) ?_ hHeld ?_
            rotate_left 1
            · (intro w hSw; subst hSw; go_simp; try with_reducible rfl)
            simp only [Act.put, List.setIfInBounds_toArray, List.set_cons_succ, List.set_cons_zero]
            refine wpAnyH_ready (rs := [19]) (by kernel_rfl) (by simp) ?_
            refine AllReadyH.cons rfl (fun K hK => ?_) AllReadyH.nil
            go_simp
            refine (containsI_any w2.drew aG cG q0 G HM.out.1 HG2.out).mono ?_
            rintro e _ ⟨rfl, rfl⟩
            go_wp2_with fail
            refine hK.out _ _ rfl (fun hHeld => ?_)
            clear hK K
            refine take_yes 20 36 (v := ?_) rfl rfl (by kernel_rfl) (by kernel_rfl) (by kernel_rfl) (fun _ _ _ h => h) (by rfl) ?_ hHeld ?_
            rotate_left 1
            · (intro w hSw; subst hSw; go_simp; try with_reducible rfl)
            simp only [Act.put, List.setIfInBounds_toArray, List.set_cons_succ, List.set_cons_zero]
            refine wpAnyH_done (by kernel_rfl) ?_ _
            cases hg : hasB q0 G
            · have HF : Hid (hereE G q0 (H.drop (j + 1 + 1)) = hereE G 0 H) := HF0.out hg
              clear HF0 HSb n0 y0 y1 u0
              go_wp2
              go_roundw
              case rel => exact ⟨j + 2, q0, hlt, by go_num, HF.out, by omega, fun i hi e => HL.out i hi (by omega), HB2.out.drew⟩
              case measure => simp [intOf]; omega
            · have HF : Hid (hereE G 0 H = 6) := HSb.out hg
              clear HF0 HSb n0 y0 y1 u0
              go_wp2
              go_ret
              exact ⟨ret_int (by rw [HF.out]), HB.out.trans (HB2.out.drew.mono HB.out.size)⟩
    · have hk' : H.drop k = [] := by simp; omega
      rw [hk'] at hf
      have HF : Hid (hereE G 0 H = 0) := hf.symm
      clear hf hk' hm0 hm1
      go_wp2
      go_ret
      exact ⟨ret_int (by rw [HF.out]), HB.out.trans (hb.mono HB.out.size)⟩
end Go.Proofs.Ytljbchkmoekpmae

