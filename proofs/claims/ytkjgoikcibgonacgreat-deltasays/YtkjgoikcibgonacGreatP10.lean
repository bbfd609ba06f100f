/- 1 texts of the proof: delta.Of. -/
import Derived.Test.YtkjgoikcibgonacGreatP06
import Derived.Test.YtkjgoikcibgonacGreatP07
import Derived.Test.YtkjgoikcibgonacGreatP09
/- delta.Of. -/
namespace Go.Proofs.YtkjgoikcibgonacGreat
open Go.ChangeShapes Go.WideShapes Go.ChangeAt Go.RowKit
open Orangery (Pl viewE orI dfE dfG dfH goneL hereL goneP hereP)

/-- a delta's value -/
abbrev deV (g h x y : Value) : Value := .agg #[g, h, x, y]

/-- what a call leaves that answers a delta and an error -/
def Deltas (w : World) (G : List Int) (H : List Pl) (X : List Int) (Y : List Pl) (E : Int) (e : Ending) (w' : World) : Prop :=
  ∃ aG aH aX aY cG cH cX cY, e = .returned (.tuple #[deV (.slice aG G.length cG) (.slice aH H.length cH) (.slice aX X.length cX) (.slice aY Y.length cY), .int .i64 E]) ∧ ((aH = none → cH = 0) ∧ (aY = none → cY = 0)) ∧ (Fresh w.heap.size aG ∧ Fresh w.heap.size aH ∧ Fresh w.heap.size aX ∧ Fresh w.heap.size aY) ∧ SlI w' aG G ∧ SlP w' aH H ∧ SlI w' aX X ∧ SlP w' aY Y ∧ Below w.heap.size w w'

set_option maxHeartbeats 4000000 in
set_option maxRecDepth 100000 in
theorem dof_any (w : World) (aR aK aV bR bK bV : Option Addr) (cR cK cV dR dK dV : Nat) (R R' : List Int) (K K' V V' : List Pl) (hm : (R.length ≤ maxLen ∧ K.length ≤ maxLen ∧ V.length ≤ maxLen) ∧ R'.length ≤ maxLen ∧ K'.length ≤ maxLen ∧ V'.length ≤ maxLen)
    (hc : (aV = none → cV = 0) ∧ (bV = none → dV = 0)) (h1 : SlI w aR R) (h2 : SlP w aK K) (h3 : SlP w aV V) (h4 : SlI w bR R') (h5 : SlP w bK K') (h6 : SlP w bV V') :
    Calls Tryz.prog 4 #[viV (.slice aR R.length cR) (.slice aK K.length cK) (.slice aV V.length cV), viV (.slice bR R'.length dR) (.slice bK K'.length dK) (.slice bV V'.length dV)] w
      (Deltas w (dfG (dfE R K V R' K' V') K K') (dfH (dfE R K V R' K' V') K K') (dfG (dfE R K V R' K' V') V V') (dfH (dfE R K V R' K' V') V V') (dfE R K V R' K' V')) := by
  obtain ⟨W0, hW, hF, hT, hR, hB, hS⟩ := laid3 w [Value.slice aR R.length cR, Value.slice aK K.length cK, Value.slice aV V.length cV] 25 [Value.slice bR R'.length dR, Value.slice bK K'.length dK, Value.slice bV V'.length dV] 25 [Value.slice none 0 0, Value.slice none 0 0, Value.slice none 0 0, Value.slice none 0 0] 27
  have HM : Hid ((R.length ≤ maxLen ∧ K.length ≤ maxLen ∧ V.length ≤ maxLen) ∧ R'.length ≤ maxLen ∧ K'.length ≤ maxLen ∧ V'.length ≤ maxLen) := hm
  have HC : Hid ((aV = none → cV = 0) ∧ (bV = none → dV = 0)) := hc
  have HPF : Hid (SlI w aR R ∧ SlP w aK K ∧ SlP w aV V) := ⟨h1, h2, h3⟩
  have HPT : Hid (SlI w bR R' ∧ SlP w bK K' ∧ SlP w bV V') := ⟨h4, h5, h6⟩
  have HB : Hid (Below w.heap.size w W0) := hB
  have CF : Hid (∀ W, Below w.heap.size w W → Calls Tryz.prog 15 #[viV (.slice aR R.length cR) (.slice aK K.length cK) (.slice aV V.length cV)] W fun e w' => e = .returned (.int .i64 (viewE R K V)) ∧ Below W.heap.size W w') :=
    fun W hb => vcheck_any W aR aK aV cR cK cV R K V HM.out.1.1 HM.out.1.2.1 HM.out.1.2.2 HC.out.1 (HPF.out.1.below hb) (HPF.out.2.1.below hb) (HPF.out.2.2.below hb)
  have CT : Hid (∀ W, Below w.heap.size w W → Calls Tryz.prog 15 #[viV (.slice bR R'.length dR) (.slice bK K'.length dK) (.slice bV V'.length dV)] W fun e w' => e = .returned (.int .i64 (viewE R' K' V')) ∧ Below W.heap.size W w') :=
    fun W hb => vcheck_any W bR bK bV dR dK dV R' K' V' HM.out.2.1 HM.out.2.2.1 HM.out.2.2.2 HC.out.2 (HPT.out.1.below hb) (HPT.out.2.1.below hb) (HPT.out.2.2.below hb)
  have HE : Hid (dfE R K V R' K' V' = if orI (viewE R K V) (viewE R' K' V') ≠ 0 then orI (viewE R K V) (viewE R' K' V') else if R = R' then 0 else 4) := rfl
  have HZ : Hid (orI (viewE R K V) (viewE R' K' V') = 0 → (Orangery.scan 0 K = 0 ∧ Orangery.scan 0 V = 0) ∧ Orangery.scan 0 K' = 0 ∧ Orangery.scan 0 V' = 0) := fun h => ⟨Orangery.view_scan (Orangery.orI_zero h).1, Orangery.view_scan (Orangery.orI_zero h).2⟩
  generalize viewE R K V = E1 at *
  generalize viewE R' K' V' = E2 at *
  clear h1 h2 h3 h4 h5 h6 hm hc hB
  go_enter Tryz.func4, Tryz.ntmps4
  go_upto_region 1 with fail
  clear hW
  refine wp_region_held_drew (S := fun w' => Below W0.heap.size W0 w') (by kernel_rfl) ((Below.refl _ W0).drew) (fun hHeld => ?_)
  refine take_load 0 11 25 w.heap.size [Value.slice aR R.length cR, Value.slice aK K.length cK, Value.slice aV V.length cV] rfl rfl (by kernel_rfl) (by kernel_rfl) (by kernel_rfl) (fun _ _ _ h => h) (by rfl) (by rfl) (by rfl) (fun w hw => (hF.keep hw).range) Tryz.underlying25 rfl sizeView hHeld ?_
  simp only [Act.put, List.setIfInBounds_toArray, List.set_cons_succ, List.set_cons_zero]
  refine take_load 2 13 25 (w.heap.size + 1) [Value.slice bR R'.length dR, Value.slice bK K'.length dK, Value.slice bV V'.length dV] rfl rfl (by kernel_rfl) (by kernel_rfl) (by kernel_rfl) (fun _ _ _ h => h) (by rfl) (by rfl) (by rfl) (fun w hw => (hT.keep hw).range) Tryz.underlying25 rfl sizeView hHeld ?_
  simp only [Act.put, List.setIfInBounds_toArray, List.set_cons_succ, List.set_cons_zero]
  refine wpAnyH_ready (rs := [1]) (by kernel_rfl) (by simp) ?_
  refine AllReadyH.cons rfl (fun KK hKK => ?_) AllReadyH.nil
  go_simp
  refine (CF.out _ (HB.out.trans (hHeld.mono HB.out.size))).mono ?_
  rintro e w1 ⟨rfl, hb1⟩
  have hS1 : Below W0.heap.size W0 w1 := hHeld.trans (hb1.mono hHeld.size)
  go_wp2_with fail
  refine hKK.out _ _ (hS1) (fun hHeld => ?_)
  clear hKK KK
  refine wpAnyH_ready (rs := [3]) (by kernel_rfl) (by simp) ?_
  refine AllReadyH.cons rfl (fun KK hKK => ?_) AllReadyH.nil
  go_simp
  refine (CT.out _ (HB.out.trans (hHeld.mono HB.out.size))).mono ?_
  rintro e w2 ⟨rfl, hb2⟩
  have hS2 : Below W0.heap.size W0 w2 := hHeld.trans (hb2.mono hHeld.size)
  go_wp2_with fail
  refine hKK.out _ _ (hS2) (fun hHeld => ?_)
  clear hKK KK
  refine wpAnyH_ready (rs := [4]) (by kernel_rfl) (by simp) ?_
  refine AllReadyH.cons rfl (fun KK hKK => ?_) AllReadyH.nil
  go_simp
  have hN2 := Blk.new w2 [Value.int IntKind.i64 E1, Value.int IntKind.i64 E2] 28
  refine hKK.out _ _ (hHeld.alloc hHeld.size _) (fun hHeld => ?_)
  clear hKK KK
  refine wpAnyH_ready (rs := [5]) (by kernel_rfl) (by simp) ?_
  refine AllReadyH.cons rfl (fun KK hKK => ?_) AllReadyH.nil
  go_simp
  refine (orE_any _ w2.heap.size 2 E1 E2 (hN2.at 0 rfl) (hN2.at 1 rfl)).mono ?_
  rintro e _ ⟨rfl, rfl⟩
  go_wp2_with fail
  refine hKK.out _ _ (hHeld) (fun hHeld => ?_)
  clear hKK KK
  refine take_yes 6 6 (v := ?_) rfl rfl (by kernel_rfl) (by kernel_rfl) (by kernel_rfl) (fun _ _ _ h => h) (by rfl) ?_ hHeld ?_
  rotate_left 1
  · (intro w hSw; go_simp; try with_reducible rfl)
  simp only [Act.put, List.setIfInBounds_toArray, List.set_cons_succ, List.set_cons_zero]
  refine wpAnyH_done (by kernel_rfl) ?_ _
  have hb3 : Below W0.heap.size W0 (w2.alloc (Obj.cells #[Value.int IntKind.i64 E1, Value.int IntKind.i64 E2] 28)) := hHeld
  clear hS1 hS2 hb1 hb2 hN2 hHeld
  generalize w2.alloc (Obj.cells #[Value.int IntKind.i64 E1, Value.int IntKind.i64 E2] 28) = w3 at *
  have hF3 := hF.keep hb3
  have hT3 := hT.keep hb3
  have hR3 := hR.keep hb3
  have HB3 : Hid (Below w.heap.size w w3) := HB.out.trans (hb3.mono HB.out.size)
  have hlt3 : w.heap.size + 3 ≤ w3.heap.size := by have := hb3.size; omega
  clear hF hT hR hb3 CF CT HB
  have BAD : Hid (∀ (E : Int) (W : World), Below w.heap.size w W → E ≠ 0 → dfE R K V R' K' V' = E → ∀ W', W' = W.setCells (w.heap.size + 1 + 1) 0 [Value.slice none 0 0, Value.slice none 0 0, Value.slice none 0 0, Value.slice none 0 0] → Deltas w (dfG (dfE R K V R' K' V') K K') (dfH (dfE R K V R' K' V') K K') (dfG (dfE R K V R' K' V') V V') (dfH (dfE R K V R' K' V') V V') (dfE R K V R' K' V') (.returned (.tuple #[deV (.slice none 0 0) (.slice none 0 0) (.slice none 0 0) (.slice none 0 0), .int .i64 E])) W') := by
    rintro E W hb h1 h2 W' rfl
    rw [h2]
    obtain ⟨e1, e2⟩ := Orangery.df_bad K K' h1
    obtain ⟨e3, e4⟩ := Orangery.df_bad V V' h1
    rw [e1, e2, e3, e4]
    exact ⟨none, none, none, none, 0, 0, 0, 0, rfl, ⟨fun _ => rfl, fun _ => rfl⟩, ⟨Fresh.none, Fresh.none, Fresh.none, Fresh.none⟩, Or.inl rfl, Or.inl rfl, Or.inl rfl, Or.inl rfl, below_sets hb _ (by omega) _ 0⟩
  by_cases hz : orI E1 E2 = 0
  · have HSC : Hid ((Orangery.scan 0 K = 0 ∧ Orangery.scan 0 V = 0) ∧ Orangery.scan 0 K' = 0 ∧ Orangery.scan 0 V' = 0) := HZ.out hz
    have HE2 : Hid (dfE R K V R' K' V' = if R = R' then 0 else 4) := by show _ = _; rw [HE.out, if_neg (by simp [hz])]
    rw [hz]
    clear hz HZ HE
    have f0 := hF3.at 0 rfl
    have t0 := hT3.at 0 rfl
    go_wp2_with fail
    refine (equal_is w3 aR bR cR dR R R' HM.out.1.1 (HPF.out.1.below HB3.out) (HPT.out.1.below HB3.out)).mono ?_
    rintro e w4 ⟨rfl, n, rfl⟩
    have hb4 : Below w3.heap.size w3 (w3.drewN n) := ⟨rfl, rfl, rfl, Nat.le_refl _, fun _ _ => rfl⟩
    have hlt4 : w.heap.size + 3 ≤ (w3.drewN n).heap.size := hlt3
    generalize w3.drewN n = w4 at *
    have hF4 := hF3.keep hb4
    have hT4 := hT3.keep hb4
    have hR4 := hR3.keep hb4
    have HB4 : Hid (Below w.heap.size w w4) := HB3.out.trans (hb4.mono HB3.out.size)
    clear f0 t0 hF3 hT3 hR3 HB3 hb4
    cases hq : eqIs R R'
    · have HF : Hid (dfE R K V R' K' V' = 4) := by
        show _ = _
        rw [HE2.out, if_neg]
        intro e
        rw [eqIs_yes e] at hq
        simp at hq
      have HRZ : Hid (Blk (w4.setCells (w.heap.size + 1 + 1) 0 [Value.slice none 0 0, Value.slice none 0 0, Value.slice none 0 0, Value.slice none 0 0]) (w.heap.size + 1 + 1) [Value.slice none 0 0, Value.slice none 0 0, Value.slice none 0 0, Value.slice none 0 0]) := hR4.sets _ rfl
      have y0 := hR4.at 0 rfl
      have y1 := hR4.at 1 rfl
      have y2 := hR4.at 2 rfl
      have y3 := hR4.at 3 rfl
      have yf := hR4.frz
      clear hF4 hT4 hR4 HE2
      go_wp2
      exact ret_cell_tmp Tryz.results4 rfl rfl (HRZ.out.load Tryz.underlying27 rfl sizeDelta) (BAD.out 4 w4 HB4.out (by omega) HF.out _ rfl)
    · have HF : Hid (dfE R K V R' K' V' = 0) := by
        show _ = _
        rw [HE2.out, if_pos]
        simpa [eqIs] using hq
      have HCALL0 : Hid (∀ W, Below w.heap.size w W → Calls Tryz.prog 18 #[.slice aK K.length cK, .slice bK K'.length dK] W fun e w' => ∃ u v, e = .returned (.agg #[u, v]) ∧ Pair w' W.heap.size u v (goneP K K') (hereP K K') ∧ Below W.heap.size W w') :=
        fun W hb => between_any W aK bK cK dK K K' (by have := Orangery.scan_small HSC.out.1.1; omega) (by have := Orangery.scan_small HSC.out.2.1; omega) (HPF.out.2.1.below hb) (HPT.out.2.1.below hb)
      have HCALL1 : Hid (∀ W, Below w.heap.size w W → Calls Tryz.prog 18 #[.slice aV V.length cV, .slice bV V'.length dV] W fun e w' => ∃ u v, e = .returned (.agg #[u, v]) ∧ Pair w' W.heap.size u v (goneP V V') (hereP V V') ∧ Below W.heap.size W w') :=
        fun W hb => between_any W aV bV cV dV V V' (by have := Orangery.scan_small HSC.out.1.2; omega) (by have := Orangery.scan_small HSC.out.2.2; omega) (HPF.out.2.2.below hb) (HPT.out.2.2.below hb)
      have HL0 : Hid (dfG 0 K K' = goneP K K' ∧ dfH 0 K K' = hereP K K') := by
        obtain ⟨e1, e2⟩ := Orangery.df_ok (E := 0) K K' rfl
        exact ⟨by rw [e1, Orangery.gone_same K K' HSC.out.2.1], by rw [e2, Orangery.here_same K K' HSC.out.1.1 HSC.out.2.1]⟩
      have HL1 : Hid (dfG 0 V V' = goneP V V' ∧ dfH 0 V V' = hereP V V') := by
        obtain ⟨e1, e2⟩ := Orangery.df_ok (E := 0) V V' rfl
        exact ⟨by rw [e1, Orangery.gone_same V V' HSC.out.2.2], by rw [e2, Orangery.here_same V V' HSC.out.1.2 HSC.out.2.2]⟩
      clear HE2 hq BAD HSC HPF HPT HM HC
      go_upto_region 6 with fail
      go_cut [7, 8] from 28 to 31 (fun r7 r8 wc => ∃ b7 b8, r7 = .pointer (some ⟨b7, 0, none⟩) ∧ r8 = .pointer (some ⟨b8, 0, none⟩) ∧ b7 ≠ b8 ∧ Blk wc b7 [Value.slice aK K.length cK, Value.slice aV V.length cV] ∧ Blk wc b8 [Value.slice bK K'.length dK, Value.slice bV V'.length dV] ∧ Below w4.heap.size w4 wc)
      case first =>
        refine wp_region_held_drew (S := fun w' => Below w4.heap.size w4 w') (by kernel_rfl) ((Below.refl _ w4).drew) (fun hHeld => ?_)
        refine take_load 0 28 25 w.heap.size [Value.slice aR R.length cR, Value.slice aK K.length cK, Value.slice aV V.length cV] rfl rfl (by kernel_rfl) (by kernel_rfl) (by kernel_rfl) (fun _ _ _ h => h) (by rfl) (by rfl) (by rfl) (fun w hw => (hF4.keep hw).range) Tryz.underlying25 rfl sizeView hHeld ?_
        simp only [Act.put, List.setIfInBounds_toArray, List.set_cons_succ, List.set_cons_zero]
        refine take_load 2 30 25 (w.heap.size + 1) [Value.slice bR R'.length dR, Value.slice bK K'.length dK, Value.slice bV V'.length dV] rfl rfl (by kernel_rfl) (by kernel_rfl) (by kernel_rfl) (fun _ _ _ h => h) (by rfl) (by rfl) (by rfl) (fun w hw => (hT4.keep hw).range) Tryz.underlying25 rfl sizeView hHeld ?_
        simp only [Act.put, List.setIfInBounds_toArray, List.set_cons_succ, List.set_cons_zero]
        refine wpAnyH_ready (rs := [1, 4, 5]) (by kernel_rfl) (by simp) ?_
        refine AllReadyH.cons rfl (fun KK hKK => ?_) (AllReadyH.cons rfl (fun KK hKK => ?_) (AllReadyH.cons rfl (fun KK hKK => ?_) AllReadyH.nil))
        · skip
          go_simp
          refine (partsOf_any _ (.slice aR R.length cR) aK aV K.length V.length cK cV).mono ?_
          rintro e wa1 ⟨rfl, hb11⟩
          have hS11 : Below w4.heap.size w4 wa1 := hHeld.trans (hb11.mono hHeld.size)
          go_wp2_with fail
          have hlo1 : w4.heap.size ≤ w4.drew.heap.size := hHeld.size
          refine hKK.out _ _ (hS11) (fun hHeld => ?_)
          clear hKK KK
          refine wpAnyH_ready (rs := [3, 4, 5]) (by kernel_rfl) (by simp) ?_
          refine AllReadyH.cons rfl (fun KK hKK => ?_) (AllReadyH.cons rfl (fun KK hKK => ?_) (AllReadyH.cons rfl (fun KK hKK => ?_) AllReadyH.nil))
          · skip
            go_simp
            refine (partsOf_any _ (.slice bR R'.length dR) bK bV K'.length V'.length dK dV).mono ?_
            rintro e wa2 ⟨rfl, hb12⟩
            have hS12 : Below w4.heap.size w4 wa2 := hHeld.trans (hb12.mono hHeld.size)
            go_wp2_with fail
            have hlo2 : w4.heap.size ≤ wa1.heap.size := hHeld.size
            refine hKK.out _ _ (hS12) (fun hHeld => ?_)
            clear hKK KK
            refine wpAnyH_ready (rs := [4, 5]) (by kernel_rfl) (by simp) ?_
            refine AllReadyH.cons rfl (fun KK hKK => ?_) (AllReadyH.cons rfl (fun KK hKK => ?_) AllReadyH.nil)
            · skip
              go_simp
              obtain ⟨wa3, hWa3, hNa3, hb13, hsz_⟩ := laid1 wa2 [Value.slice none 0 0, Value.slice none 0 0] 42
              have hS13 : Below w4.heap.size w4 wa3 := hHeld.trans (hb13.mono hHeld.size)
              rw [hWa3]
              clear hsz_ hWa3
              have hlo3 : w4.heap.size ≤ wa2.heap.size := hHeld.size
              have h4_3 : Blk wa3 wa2.heap.size [Value.slice none 0 0, Value.slice none 0 0] := hNa3
              refine hKK.out _ _ (hS13) (fun hHeld => ?_)
              clear hKK KK
              refine wpAnyH_ready (rs := [5]) (by kernel_rfl) (by simp) ?_
              refine AllReadyH.cons rfl (fun KK hKK => ?_) AllReadyH.nil
              go_simp
              obtain ⟨wa4, hWa4, hNa4, hb14, hsz_⟩ := laid1 wa3 [Value.slice none 0 0, Value.slice none 0 0] 42
              have hS14 : Below w4.heap.size w4 wa4 := hHeld.trans (hb14.mono hHeld.size)
              rw [hWa4]
              clear hsz_ hWa4
              have hlo4 : w4.heap.size ≤ wa3.heap.size := hHeld.size
              have h4_4 := h4_3.keep hb14
              have h5_4 : Blk wa4 wa3.heap.size [Value.slice none 0 0, Value.slice none 0 0] := hNa4
              refine hKK.out _ _ (hS14) (fun hHeld => ?_)
              clear hKK KK
              have ne : wa2.heap.size ≠ wa3.heap.size := by have := h4_3.lt; have : w4.drew.heap.size = w4.heap.size := rfl; omega
              refine step_store 6 42 wa2.heap.size [Value.slice aK K.length cK, Value.slice aV V.length cV] (by kernel_rfl) rfl rfl (by rfl) (by rfl) (by rfl) (by rfl) h4_4.there sizeDParts ?_ ?_ ?_
              · intro v hv; simp at hv; rcases hv with rfl | rfl <;> rfl
              · exact below_sets hHeld (wa2.heap.size) (by first | omega | exact hlo3) [Value.slice aK K.length cK, Value.slice aV V.length cV] 0
              have hHeld := below_sets hHeld (wa2.heap.size) (by first | omega | exact hlo3) [Value.slice aK K.length cK, Value.slice aV V.length cV] 0
              refine step_store 7 42 wa3.heap.size [Value.slice bK K'.length dK, Value.slice bV V'.length dV] (by kernel_rfl) rfl rfl (by rfl) (by rfl) (by rfl) (by rfl) (h5_4.others (Ne.symm ne) [Value.slice aK K.length cK, Value.slice aV V.length cV] 0).there sizeDParts ?_ ?_ ?_
              · intro v hv; simp at hv; rcases hv with rfl | rfl <;> rfl
              · exact below_sets hHeld (wa3.heap.size) (by first | omega | exact hlo4) [Value.slice bK K'.length dK, Value.slice bV V'.length dV] 0
              have hHeld := below_sets hHeld (wa3.heap.size) (by first | omega | exact hlo4) [Value.slice bK K'.length dK, Value.slice bV V'.length dV] 0
              refine wpAnyH_done (by kernel_rfl) ?_ _
              have HHeld : Hid (Below w4.heap.size w4 ((wa4.setCells wa2.heap.size 0 [Value.slice aK K.length cK, Value.slice aV V.length cV]).setCells wa3.heap.size 0 [Value.slice bK K'.length dK, Value.slice bV V'.length dV])) := hHeld
              clear hHeld
              go_wp2
              go_meet
              case rel => exact ⟨_, _, rfl, rfl, ne, (h4_4.sets [Value.slice aK K.length cK, Value.slice aV V.length cV] rfl).others ne [Value.slice bK K'.length dK, Value.slice bV V'.length dV] 0, (h5_4.others (Ne.symm ne) [Value.slice aK K.length cK, Value.slice aV V.length cV] 0).sets [Value.slice bK K'.length dK, Value.slice bV V'.length dV] rfl, HHeld.out⟩
            · skip
              go_simp
              obtain ⟨wa3, hWa3, hNa3, hb13, hsz_⟩ := laid1 wa2 [Value.slice none 0 0, Value.slice none 0 0] 42
              have hS13 : Below w4.heap.size w4 wa3 := hHeld.trans (hb13.mono hHeld.size)
              rw [hWa3]
              clear hsz_ hWa3
              have hlo3 : w4.heap.size ≤ wa2.heap.size := hHeld.size
              have h5_3 : Blk wa3 wa2.heap.size [Value.slice none 0 0, Value.slice none 0 0] := hNa3
              refine hKK.out _ _ (hS13) (fun hHeld => ?_)
              clear hKK KK
              refine wpAnyH_ready (rs := [4]) (by kernel_rfl) (by simp) ?_
              refine AllReadyH.cons rfl (fun KK hKK => ?_) AllReadyH.nil
              go_simp
              obtain ⟨wa4, hWa4, hNa4, hb14, hsz_⟩ := laid1 wa3 [Value.slice none 0 0, Value.slice none 0 0] 42
              have hS14 : Below w4.heap.size w4 wa4 := hHeld.trans (hb14.mono hHeld.size)
              rw [hWa4]
              clear hsz_ hWa4
              have hlo4 : w4.heap.size ≤ wa3.heap.size := hHeld.size
              have h5_4 := h5_3.keep hb14
              have h4_4 : Blk wa4 wa3.heap.size [Value.slice none 0 0, Value.slice none 0 0] := hNa4
              refine hKK.out _ _ (hS14) (fun hHeld => ?_)
              clear hKK KK
              have ne : wa3.heap.size ≠ wa2.heap.size := by have := h5_3.lt; have : w4.drew.heap.size = w4.heap.size := rfl; omega
              refine step_store 6 42 wa3.heap.size [Value.slice aK K.length cK, Value.slice aV V.length cV] (by kernel_rfl) rfl rfl (by rfl) (by rfl) (by rfl) (by rfl) h4_4.there sizeDParts ?_ ?_ ?_
              · intro v hv; simp at hv; rcases hv with rfl | rfl <;> rfl
              · exact below_sets hHeld (wa3.heap.size) (by first | omega | exact hlo4) [Value.slice aK K.length cK, Value.slice aV V.length cV] 0
              have hHeld := below_sets hHeld (wa3.heap.size) (by first | omega | exact hlo4) [Value.slice aK K.length cK, Value.slice aV V.length cV] 0
              refine step_store 7 42 wa2.heap.size [Value.slice bK K'.length dK, Value.slice bV V'.length dV] (by kernel_rfl) rfl rfl (by rfl) (by rfl) (by rfl) (by rfl) (h5_4.others (Ne.symm ne) [Value.slice aK K.length cK, Value.slice aV V.length cV] 0).there sizeDParts ?_ ?_ ?_
              · intro v hv; simp at hv; rcases hv with rfl | rfl <;> rfl
              · exact below_sets hHeld (wa2.heap.size) (by first | omega | exact hlo3) [Value.slice bK K'.length dK, Value.slice bV V'.length dV] 0
              have hHeld := below_sets hHeld (wa2.heap.size) (by first | omega | exact hlo3) [Value.slice bK K'.length dK, Value.slice bV V'.length dV] 0
              refine wpAnyH_done (by kernel_rfl) ?_ _
              have HHeld : Hid (Below w4.heap.size w4 ((wa4.setCells wa3.heap.size 0 [Value.slice aK K.length cK, Value.slice aV V.length cV]).setCells wa2.heap.size 0 [Value.slice bK K'.length dK, Value.slice bV V'.length dV])) := hHeld
              clear hHeld
              go_wp2
              go_meet
              case rel => exact ⟨_, _, rfl, rfl, ne, (h4_4.sets [Value.slice aK K.length cK, Value.slice aV V.length cV] rfl).others ne [Value.slice bK K'.length dK, Value.slice bV V'.length dV] 0, (h5_4.others (Ne.symm ne) [Value.slice aK K.length cK, Value.slice aV V.length cV] 0).sets [Value.slice bK K'.length dK, Value.slice bV V'.length dV] rfl, HHeld.out⟩
          · skip
            go_simp
            obtain ⟨wa2, hWa2, hNa2, hb12, hsz_⟩ := laid1 wa1 [Value.slice none 0 0, Value.slice none 0 0] 42
            have hS12 : Below w4.heap.size w4 wa2 := hHeld.trans (hb12.mono hHeld.size)
            rw [hWa2]
            clear hsz_ hWa2
            have hlo2 : w4.heap.size ≤ wa1.heap.size := hHeld.size
            have h4_2 : Blk wa2 wa1.heap.size [Value.slice none 0 0, Value.slice none 0 0] := hNa2
            refine hKK.out _ _ (hS12) (fun hHeld => ?_)
            clear hKK KK
            refine wpAnyH_ready (rs := [3, 5]) (by kernel_rfl) (by simp) ?_
            refine AllReadyH.cons rfl (fun KK hKK => ?_) (AllReadyH.cons rfl (fun KK hKK => ?_) AllReadyH.nil)
            · skip
              go_simp
              refine (partsOf_any _ (.slice bR R'.length dR) bK bV K'.length V'.length dK dV).mono ?_
              rintro e wa3 ⟨rfl, hb13⟩
              have hS13 : Below w4.heap.size w4 wa3 := hHeld.trans (hb13.mono hHeld.size)
              go_wp2_with fail
              have hlo3 : w4.heap.size ≤ wa2.heap.size := hHeld.size
              have h4_3 := h4_2.keep hb13
              refine hKK.out _ _ (hS13) (fun hHeld => ?_)
              clear hKK KK
              refine wpAnyH_ready (rs := [5]) (by kernel_rfl) (by simp) ?_
              refine AllReadyH.cons rfl (fun KK hKK => ?_) AllReadyH.nil
              go_simp
              obtain ⟨wa4, hWa4, hNa4, hb14, hsz_⟩ := laid1 wa3 [Value.slice none 0 0, Value.slice none 0 0] 42
              have hS14 : Below w4.heap.size w4 wa4 := hHeld.trans (hb14.mono hHeld.size)
              rw [hWa4]
              clear hsz_ hWa4
              have hlo4 : w4.heap.size ≤ wa3.heap.size := hHeld.size
              have h4_4 := h4_3.keep hb14
              have h5_4 : Blk wa4 wa3.heap.size [Value.slice none 0 0, Value.slice none 0 0] := hNa4
              refine hKK.out _ _ (hS14) (fun hHeld => ?_)
              clear hKK KK
              have ne : wa1.heap.size ≠ wa3.heap.size := by have := h4_3.lt; have : w4.drew.heap.size = w4.heap.size := rfl; omega
              refine step_store 6 42 wa1.heap.size [Value.slice aK K.length cK, Value.slice aV V.length cV] (by kernel_rfl) rfl rfl (by rfl) (by rfl) (by rfl) (by rfl) h4_4.there sizeDParts ?_ ?_ ?_
              · intro v hv; simp at hv; rcases hv with rfl | rfl <;> rfl
              · exact below_sets hHeld (wa1.heap.size) (by first | omega | exact hlo2) [Value.slice aK K.length cK, Value.slice aV V.length cV] 0
              have hHeld := below_sets hHeld (wa1.heap.size) (by first | omega | exact hlo2) [Value.slice aK K.length cK, Value.slice aV V.length cV] 0
              refine step_store 7 42 wa3.heap.size [Value.slice bK K'.length dK, Value.slice bV V'.length dV] (by kernel_rfl) rfl rfl (by rfl) (by rfl) (by rfl) (by rfl) (h5_4.others (Ne.symm ne) [Value.slice aK K.length cK, Value.slice aV V.length cV] 0).there sizeDParts ?_ ?_ ?_
              · intro v hv; simp at hv; rcases hv with rfl | rfl <;> rfl
              · exact below_sets hHeld (wa3.heap.size) (by first | omega | exact hlo4) [Value.slice bK K'.length dK, Value.slice bV V'.length dV] 0
              have hHeld := below_sets hHeld (wa3.heap.size) (by first | omega | exact hlo4) [Value.slice bK K'.length dK, Value.slice bV V'.length dV] 0
              refine wpAnyH_done (by kernel_rfl) ?_ _
              have HHeld : Hid (Below w4.heap.size w4 ((wa4.setCells wa1.heap.size 0 [Value.slice aK K.length cK, Value.slice aV V.length cV]).setCells wa3.heap.size 0 [Value.slice bK K'.length dK, Value.slice bV V'.length dV])) := hHeld
              clear hHeld
              go_wp2
              go_meet
              case rel => exact ⟨_, _, rfl, rfl, ne, (h4_4.sets [Value.slice aK K.length cK, Value.slice aV V.length cV] rfl).others ne [Value.slice bK K'.length dK, Value.slice bV V'.length dV] 0, (h5_4.others (Ne.symm ne) [Value.slice aK K.length cK, Value.slice aV V.length cV] 0).sets [Value.slice bK K'.length dK, Value.slice bV V'.length dV] rfl, HHeld.out⟩
            · skip
              go_simp
              obtain ⟨wa3, hWa3, hNa3, hb13, hsz_⟩ := laid1 wa2 [Value.slice none 0 0, Value.slice none 0 0] 42
              have hS13 : Below w4.heap.size w4 wa3 := hHeld.trans (hb13.mono hHeld.size)
              rw [hWa3]
              clear hsz_ hWa3
              have hlo3 : w4.heap.size ≤ wa2.heap.size := hHeld.size
              have h4_3 := h4_2.keep hb13
              have h5_3 : Blk wa3 wa2.heap.size [Value.slice none 0 0, Value.slice none 0 0] := hNa3
              refine hKK.out _ _ (hS13) (fun hHeld => ?_)
              clear hKK KK
              refine wpAnyH_ready (rs := [3]) (by kernel_rfl) (by simp) ?_
              refine AllReadyH.cons rfl (fun KK hKK => ?_) AllReadyH.nil
              go_simp
              refine (partsOf_any _ (.slice bR R'.length dR) bK bV K'.length V'.length dK dV).mono ?_
              rintro e wa4 ⟨rfl, hb14⟩
              have hS14 : Below w4.heap.size w4 wa4 := hHeld.trans (hb14.mono hHeld.size)
              go_wp2_with fail
              have hlo4 : w4.heap.size ≤ wa3.heap.size := hHeld.size
              have h4_4 := h4_3.keep hb14
              have h5_4 := h5_3.keep hb14
              refine hKK.out _ _ (hS14) (fun hHeld => ?_)
              clear hKK KK
              have ne : wa1.heap.size ≠ wa2.heap.size := by have := h4_2.lt; have : w4.drew.heap.size = w4.heap.size := rfl; omega
              refine step_store 6 42 wa1.heap.size [Value.slice aK K.length cK, Value.slice aV V.length cV] (by kernel_rfl) rfl rfl (by rfl) (by rfl) (by rfl) (by rfl) h4_4.there sizeDParts ?_ ?_ ?_
              · intro v hv; simp at hv; rcases hv with rfl | rfl <;> rfl
              · exact below_sets hHeld (wa1.heap.size) (by first | omega | exact hlo2) [Value.slice aK K.length cK, Value.slice aV V.length cV] 0
              have hHeld := below_sets hHeld (wa1.heap.size) (by first | omega | exact hlo2) [Value.slice aK K.length cK, Value.slice aV V.length cV] 0
              refine step_store 7 42 wa2.heap.size [Value.slice bK K'.length dK, Value.slice bV V'.length dV] (by kernel_rfl) rfl rfl (by rfl) (by rfl) (by rfl) (by rfl) (h5_4.others (Ne.symm ne) [Value.slice aK K.length cK, Value.slice aV V.length cV] 0).there sizeDParts ?_ ?_ ?_
              · intro v hv; simp at hv; rcases hv with rfl | rfl <;> rfl
              · exact below_sets hHeld (wa2.heap.size) (by first | omega | exact hlo3) [Value.slice bK K'.length dK, Value.slice bV V'.length dV] 0
              have hHeld := below_sets hHeld (wa2.heap.size) (by first | omega | exact hlo3) [Value.slice bK K'.length dK, Value.slice bV V'.length dV] 0
              refine wpAnyH_done (by kernel_rfl) ?_ _
              have HHeld : Hid (Below w4.heap.size w4 ((wa4.setCells wa1.heap.size 0 [Value.slice aK K.length cK, Value.slice aV V.length cV]).setCells wa2.heap.size 0 [Value.slice bK K'.length dK, Value.slice bV V'.length dV])) := hHeld
              clear hHeld
              go_wp2
              go_meet
              case rel => exact ⟨_, _, rfl, rfl, ne, (h4_4.sets [Value.slice aK K.length cK, Value.slice aV V.length cV] rfl).others ne [Value.slice bK K'.length dK, Value.slice bV V'.length dV] 0, (h5_4.others (Ne.symm ne) [Value.slice aK K.length cK, Value.slice aV V.length cV] 0).sets [Value.slice bK K'.length dK, Value.slice bV V'.length dV] rfl, HHeld.out⟩
          · skip
            go_simp
            obtain ⟨wa2, hWa2, hNa2, hb12, hsz_⟩ := laid1 wa1 [Value.slice none 0 0, Value.slice none 0 0] 42
            have hS12 : Below w4.heap.size w4 wa2 := hHeld.trans (hb12.mono hHeld.size)
            rw [hWa2]
            clear hsz_ hWa2
            have hlo2 : w4.heap.size ≤ wa1.heap.size := hHeld.size
            have h5_2 : Blk wa2 wa1.heap.size [Value.slice none 0 0, Value.slice none 0 0] := hNa2
            refine hKK.out _ _ (hS12) (fun hHeld => ?_)
            clear hKK KK
            refine wpAnyH_ready (rs := [3, 4]) (by kernel_rfl) (by simp) ?_
            refine AllReadyH.cons rfl (fun KK hKK => ?_) (AllReadyH.cons rfl (fun KK hKK => ?_) AllReadyH.nil)
            · skip
              go_simp
              refine (partsOf_any _ (.slice bR R'.length dR) bK bV K'.length V'.length dK dV).mono ?_
              rintro e wa3 ⟨rfl, hb13⟩
              have hS13 : Below w4.heap.size w4 wa3 := hHeld.trans (hb13.mono hHeld.size)
              go_wp2_with fail
              have hlo3 : w4.heap.size ≤ wa2.heap.size := hHeld.size
              have h5_3 := h5_2.keep hb13
              refine hKK.out _ _ (hS13) (fun hHeld => ?_)
              clear hKK KK
              refine wpAnyH_ready (rs := [4]) (by kernel_rfl) (by simp) ?_
              refine AllReadyH.cons rfl (fun KK hKK => ?_) AllReadyH.nil
              go_simp
              obtain ⟨wa4, hWa4, hNa4, hb14, hsz_⟩ := laid1 wa3 [Value.slice none 0 0, Value.slice none 0 0] 42
              have hS14 : Below w4.heap.size w4 wa4 := hHeld.trans (hb14.mono hHeld.size)
              rw [hWa4]
              clear hsz_ hWa4
              have hlo4 : w4.heap.size ≤ wa3.heap.size := hHeld.size
              have h5_4 := h5_3.keep hb14
              have h4_4 : Blk wa4 wa3.heap.size [Value.slice none 0 0, Value.slice none 0 0] := hNa4
              refine hKK.out _ _ (hS14) (fun hHeld => ?_)
              clear hKK KK
              have ne : wa3.heap.size ≠ wa1.heap.size := by have := h5_3.lt; have : w4.drew.heap.size = w4.heap.size := rfl; omega
              refine step_store 6 42 wa3.heap.size [Value.slice aK K.length cK, Value.slice aV V.length cV] (by kernel_rfl) rfl rfl (by rfl) (by rfl) (by rfl) (by rfl) h4_4.there sizeDParts ?_ ?_ ?_
              · intro v hv; simp at hv; rcases hv with rfl | rfl <;> rfl
              · exact below_sets hHeld (wa3.heap.size) (by first | omega | exact hlo4) [Value.slice aK K.length cK, Value.slice aV V.length cV] 0
              have hHeld := below_sets hHeld (wa3.heap.size) (by first | omega | exact hlo4) [Value.slice aK K.length cK, Value.slice aV V.length cV] 0
              refine step_store 7 42 wa1.heap.size [Value.slice bK K'.length dK, Value.slice bV V'.length dV] (by kernel_rfl) rfl rfl (by rfl) (by rfl) (by rfl) (by rfl) (h5_4.others (Ne.symm ne) [Value.slice aK K.length cK, Value.slice aV V.length cV] 0).there sizeDParts ?_ ?_ ?_
              · intro v hv; simp at hv; rcases hv with rfl | rfl <;> rfl
              · exact below_sets hHeld (wa1.heap.size) (by first | omega | exact hlo2) [Value.slice bK K'.length dK, Value.slice bV V'.length dV] 0
              have hHeld := below_sets hHeld (wa1.heap.size) (by first | omega | exact hlo2) [Value.slice bK K'.length dK, Value.slice bV V'.length dV] 0
              refine wpAnyH_done (by kernel_rfl) ?_ _
              have HHeld : Hid (Below w4.heap.size w4 ((wa4.setCells wa3.heap.size 0 [Value.slice aK K.length cK, Value.slice aV V.length cV]).setCells wa1.heap.size 0 [Value.slice bK K'.length dK, Value.slice bV V'.length dV])) := hHeld
              clear hHeld
              go_wp2
              go_meet
              case rel => exact ⟨_, _, rfl, rfl, ne, (h4_4.sets [Value.slice aK K.length cK, Value.slice aV V.length cV] rfl).others ne [Value.slice bK K'.length dK, Value.slice bV V'.length dV] 0, (h5_4.others (Ne.symm ne) [Value.slice aK K.length cK, Value.slice aV V.length cV] 0).sets [Value.slice bK K'.length dK, Value.slice bV V'.length dV] rfl, HHeld.out⟩
            · skip
              go_simp
              obtain ⟨wa3, hWa3, hNa3, hb13, hsz_⟩ := laid1 wa2 [Value.slice none 0 0, Value.slice none 0 0] 42
              have hS13 : Below w4.heap.size w4 wa3 := hHeld.trans (hb13.mono hHeld.size)
              rw [hWa3]
              clear hsz_ hWa3
              have hlo3 : w4.heap.size ≤ wa2.heap.size := hHeld.size
              have h5_3 := h5_2.keep hb13
              have h4_3 : Blk wa3 wa2.heap.size [Value.slice none 0 0, Value.slice none 0 0] := hNa3
              refine hKK.out _ _ (hS13) (fun hHeld => ?_)
              clear hKK KK
              refine wpAnyH_ready (rs := [3]) (by kernel_rfl) (by simp) ?_
              refine AllReadyH.cons rfl (fun KK hKK => ?_) AllReadyH.nil
              go_simp
              refine (partsOf_any _ (.slice bR R'.length dR) bK bV K'.length V'.length dK dV).mono ?_
              rintro e wa4 ⟨rfl, hb14⟩
              have hS14 : Below w4.heap.size w4 wa4 := hHeld.trans (hb14.mono hHeld.size)
              go_wp2_with fail
              have hlo4 : w4.heap.size ≤ wa3.heap.size := hHeld.size
              have h4_4 := h4_3.keep hb14
              have h5_4 := h5_3.keep hb14
              refine hKK.out _ _ (hS14) (fun hHeld => ?_)
              clear hKK KK
              have ne : wa2.heap.size ≠ wa1.heap.size := by have := h5_2.lt; have : w4.drew.heap.size = w4.heap.size := rfl; omega
              refine step_store 6 42 wa2.heap.size [Value.slice aK K.length cK, Value.slice aV V.length cV] (by kernel_rfl) rfl rfl (by rfl) (by rfl) (by rfl) (by rfl) h4_4.there sizeDParts ?_ ?_ ?_
              · intro v hv; simp at hv; rcases hv with rfl | rfl <;> rfl
              · exact below_sets hHeld (wa2.heap.size) (by first | omega | exact hlo3) [Value.slice aK K.length cK, Value.slice aV V.length cV] 0
              have hHeld := below_sets hHeld (wa2.heap.size) (by first | omega | exact hlo3) [Value.slice aK K.length cK, Value.slice aV V.length cV] 0
              refine step_store 7 42 wa1.heap.size [Value.slice bK K'.length dK, Value.slice bV V'.length dV] (by kernel_rfl) rfl rfl (by rfl) (by rfl) (by rfl) (by rfl) (h5_4.others (Ne.symm ne) [Value.slice aK K.length cK, Value.slice aV V.length cV] 0).there sizeDParts ?_ ?_ ?_
              · intro v hv; simp at hv; rcases hv with rfl | rfl <;> rfl
              · exact below_sets hHeld (wa1.heap.size) (by first | omega | exact hlo2) [Value.slice bK K'.length dK, Value.slice bV V'.length dV] 0
              have hHeld := below_sets hHeld (wa1.heap.size) (by first | omega | exact hlo2) [Value.slice bK K'.length dK, Value.slice bV V'.length dV] 0
              refine wpAnyH_done (by kernel_rfl) ?_ _
              have HHeld : Hid (Below w4.heap.size w4 ((wa4.setCells wa2.heap.size 0 [Value.slice aK K.length cK, Value.slice aV V.length cV]).setCells wa1.heap.size 0 [Value.slice bK K'.length dK, Value.slice bV V'.length dV])) := hHeld
              clear hHeld
              go_wp2
              go_meet
              case rel => exact ⟨_, _, rfl, rfl, ne, (h4_4.sets [Value.slice aK K.length cK, Value.slice aV V.length cV] rfl).others ne [Value.slice bK K'.length dK, Value.slice bV V'.length dV] 0, (h5_4.others (Ne.symm ne) [Value.slice aK K.length cK, Value.slice aV V.length cV] 0).sets [Value.slice bK K'.length dK, Value.slice bV V'.length dV] rfl, HHeld.out⟩
        · skip
          go_simp
          obtain ⟨WA, hWa1, hNa, hba, hsz_⟩ := laid1 w4 [Value.slice none 0 0, Value.slice none 0 0] 42
          rw [hWa1]
          have hS11 : Below w4.heap.size w4 WA.drew := hba.drew
          have hNa1 : Blk WA.drew w4.heap.size [Value.slice none 0 0, Value.slice none 0 0] := hNa.drew
          clear hNa hba hsz_ hWa1
          generalize WA.drew = wa1 at *
          have hlo1 : w4.heap.size ≤ w4.drew.heap.size := hHeld.size
          have h4_1 : Blk wa1 w4.heap.size [Value.slice none 0 0, Value.slice none 0 0] := hNa1
          refine hKK.out _ _ (hS11) (fun hHeld => ?_)
          clear hKK KK
          refine wpAnyH_ready (rs := [1, 5]) (by kernel_rfl) (by simp) ?_
          refine AllReadyH.cons rfl (fun KK hKK => ?_) (AllReadyH.cons rfl (fun KK hKK => ?_) AllReadyH.nil)
          · skip
            go_simp
            refine (partsOf_any _ (.slice aR R.length cR) aK aV K.length V.length cK cV).mono ?_
            rintro e wa2 ⟨rfl, hb12⟩
            have hS12 : Below w4.heap.size w4 wa2 := hHeld.trans (hb12.mono hHeld.size)
            go_wp2_with fail
            have hlo2 : w4.heap.size ≤ wa1.heap.size := hHeld.size
            have h4_2 := h4_1.keep hb12
            refine hKK.out _ _ (hS12) (fun hHeld => ?_)
            clear hKK KK
            refine wpAnyH_ready (rs := [3, 5]) (by kernel_rfl) (by simp) ?_
            refine AllReadyH.cons rfl (fun KK hKK => ?_) (AllReadyH.cons rfl (fun KK hKK => ?_) AllReadyH.nil)
            · skip
              go_simp
              refine (partsOf_any _ (.slice bR R'.length dR) bK bV K'.length V'.length dK dV).mono ?_
              rintro e wa3 ⟨rfl, hb13⟩
              have hS13 : Below w4.heap.size w4 wa3 := hHeld.trans (hb13.mono hHeld.size)
              go_wp2_with fail
              have hlo3 : w4.heap.size ≤ wa2.heap.size := hHeld.size
              have h4_3 := h4_2.keep hb13
              refine hKK.out _ _ (hS13) (fun hHeld => ?_)
              clear hKK KK
              refine wpAnyH_ready (rs := [5]) (by kernel_rfl) (by simp) ?_
              refine AllReadyH.cons rfl (fun KK hKK => ?_) AllReadyH.nil
              go_simp
              obtain ⟨wa4, hWa4, hNa4, hb14, hsz_⟩ := laid1 wa3 [Value.slice none 0 0, Value.slice none 0 0] 42
              have hS14 : Below w4.heap.size w4 wa4 := hHeld.trans (hb14.mono hHeld.size)
              rw [hWa4]
              clear hsz_ hWa4
              have hlo4 : w4.heap.size ≤ wa3.heap.size := hHeld.size
              have h4_4 := h4_3.keep hb14
              have h5_4 : Blk wa4 wa3.heap.size [Value.slice none 0 0, Value.slice none 0 0] := hNa4
              refine hKK.out _ _ (hS14) (fun hHeld => ?_)
              clear hKK KK
              have ne : w4.heap.size ≠ wa3.heap.size := by have := h4_3.lt; have : w4.drew.heap.size = w4.heap.size := rfl; omega
              refine step_store 6 42 w4.heap.size [Value.slice aK K.length cK, Value.slice aV V.length cV] (by kernel_rfl) rfl rfl (by rfl) (by rfl) (by rfl) (by rfl) h4_4.there sizeDParts ?_ ?_ ?_
              · intro v hv; simp at hv; rcases hv with rfl | rfl <;> rfl
              · exact below_sets hHeld (w4.heap.size) (by first | omega | exact hlo1) [Value.slice aK K.length cK, Value.slice aV V.length cV] 0
              have hHeld := below_sets hHeld (w4.heap.size) (by first | omega | exact hlo1) [Value.slice aK K.length cK, Value.slice aV V.length cV] 0
              refine step_store 7 42 wa3.heap.size [Value.slice bK K'.length dK, Value.slice bV V'.length dV] (by kernel_rfl) rfl rfl (by rfl) (by rfl) (by rfl) (by rfl) (h5_4.others (Ne.symm ne) [Value.slice aK K.length cK, Value.slice aV V.length cV] 0).there sizeDParts ?_ ?_ ?_
              · intro v hv; simp at hv; rcases hv with rfl | rfl <;> rfl
              · exact below_sets hHeld (wa3.heap.size) (by first | omega | exact hlo4) [Value.slice bK K'.length dK, Value.slice bV V'.length dV] 0
              have hHeld := below_sets hHeld (wa3.heap.size) (by first | omega | exact hlo4) [Value.slice bK K'.length dK, Value.slice bV V'.length dV] 0
              refine wpAnyH_done (by kernel_rfl) ?_ _
              have HHeld : Hid (Below w4.heap.size w4 ((wa4.setCells w4.heap.size 0 [Value.slice aK K.length cK, Value.slice aV V.length cV]).setCells wa3.heap.size 0 [Value.slice bK K'.length dK, Value.slice bV V'.length dV])) := hHeld
              clear hHeld
              go_wp2
              go_meet
              case rel => exact ⟨_, _, rfl, rfl, ne, (h4_4.sets [Value.slice aK K.length cK, Value.slice aV V.length cV] rfl).others ne [Value.slice bK K'.length dK, Value.slice bV V'.length dV] 0, (h5_4.others (Ne.symm ne) [Value.slice aK K.length cK, Value.slice aV V.length cV] 0).sets [Value.slice bK K'.length dK, Value.slice bV V'.length dV] rfl, HHeld.out⟩
            · skip
              go_simp
              obtain ⟨wa3, hWa3, hNa3, hb13, hsz_⟩ := laid1 wa2 [Value.slice none 0 0, Value.slice none 0 0] 42
              have hS13 : Below w4.heap.size w4 wa3 := hHeld.trans (hb13.mono hHeld.size)
              rw [hWa3]
              clear hsz_ hWa3
              have hlo3 : w4.heap.size ≤ wa2.heap.size := hHeld.size
              have h4_3 := h4_2.keep hb13
              have h5_3 : Blk wa3 wa2.heap.size [Value.slice none 0 0, Value.slice none 0 0] := hNa3
              refine hKK.out _ _ (hS13) (fun hHeld => ?_)
              clear hKK KK
              refine wpAnyH_ready (rs := [3]) (by kernel_rfl) (by simp) ?_
              refine AllReadyH.cons rfl (fun KK hKK => ?_) AllReadyH.nil
              go_simp
              refine (partsOf_any _ (.slice bR R'.length dR) bK bV K'.length V'.length dK dV).mono ?_
              rintro e wa4 ⟨rfl, hb14⟩
              have hS14 : Below w4.heap.size w4 wa4 := hHeld.trans (hb14.mono hHeld.size)
              go_wp2_with fail
              have hlo4 : w4.heap.size ≤ wa3.heap.size := hHeld.size
              have h4_4 := h4_3.keep hb14
              have h5_4 := h5_3.keep hb14
              refine hKK.out _ _ (hS14) (fun hHeld => ?_)
              clear hKK KK
              have ne : w4.heap.size ≠ wa2.heap.size := by have := h4_2.lt; have : w4.drew.heap.size = w4.heap.size := rfl; omega
              refine step_store 6 42 w4.heap.size [Value.slice aK K.length cK, Value.slice aV V.length cV] (by kernel_rfl) rfl rfl (by rfl) (by rfl) (by rfl) (by rfl) h4_4.there sizeDParts ?_ ?_ ?_
              · intro v hv; simp at hv; rcases hv with rfl | rfl <;> rfl
              · exact below_sets hHeld (w4.heap.size) (by first | omega | exact hlo1) [Value.slice aK K.length cK, Value.slice aV V.length cV] 0
              have hHeld := below_sets hHeld (w4.heap.size) (by first | omega | exact hlo1) [Value.slice aK K.length cK, Value.slice aV V.length cV] 0
              refine step_store 7 42 wa2.heap.size [Value.slice bK K'.length dK, Value.slice bV V'.length dV] (by kernel_rfl) rfl rfl (by rfl) (by rfl) (by rfl) (by rfl) (h5_4.others (Ne.symm ne) [Value.slice aK K.length cK, Value.slice aV V.length cV] 0).there sizeDParts ?_ ?_ ?_
              · intro v hv; simp at hv; rcases hv with rfl | rfl <;> rfl
              · exact below_sets hHeld (wa2.heap.size) (by first | omega | exact hlo3) [Value.slice bK K'.length dK, Value.slice bV V'.length dV] 0
              have hHeld := below_sets hHeld (wa2.heap.size) (by first | omega | exact hlo3) [Value.slice bK K'.length dK, Value.slice bV V'.length dV] 0
              refine wpAnyH_done (by kernel_rfl) ?_ _
              have HHeld : Hid (Below w4.heap.size w4 ((wa4.setCells w4.heap.size 0 [Value.slice aK K.length cK, Value.slice aV V.length cV]).setCells wa2.heap.size 0 [Value.slice bK K'.length dK, Value.slice bV V'.length dV])) := hHeld
              clear hHeld
              go_wp2
              go_meet
              case rel => exact ⟨_, _, rfl, rfl, ne, (h4_4.sets [Value.slice aK K.length cK, Value.slice aV V.length cV] rfl).others ne [Value.slice bK K'.length dK, Value.slice bV V'.length dV] 0, (h5_4.others (Ne.symm ne) [Value.slice aK K.length cK, Value.slice aV V.length cV] 0).sets [Value.slice bK K'.length dK, Value.slice bV V'.length dV] rfl, HHeld.out⟩
          · skip
            go_simp
            obtain ⟨wa2, hWa2, hNa2, hb12, hsz_⟩ := laid1 wa1 [Value.slice none 0 0, Value.slice none 0 0] 42
            have hS12 : Below w4.heap.size w4 wa2 := hHeld.trans (hb12.mono hHeld.size)
            rw [hWa2]
            clear hsz_ hWa2
            have hlo2 : w4.heap.size ≤ wa1.heap.size := hHeld.size
            have h4_2 := h4_1.keep hb12
            have h5_2 : Blk wa2 wa1.heap.size [Value.slice none 0 0, Value.slice none 0 0] := hNa2
            refine hKK.out _ _ (hS12) (fun hHeld => ?_)
            clear hKK KK
            refine wpAnyH_ready (rs := [1]) (by kernel_rfl) (by simp) ?_
            refine AllReadyH.cons rfl (fun KK hKK => ?_) AllReadyH.nil
            go_simp
            refine (partsOf_any _ (.slice aR R.length cR) aK aV K.length V.length cK cV).mono ?_
            rintro e wa3 ⟨rfl, hb13⟩
            have hS13 : Below w4.heap.size w4 wa3 := hHeld.trans (hb13.mono hHeld.size)
            go_wp2_with fail
            have hlo3 : w4.heap.size ≤ wa2.heap.size := hHeld.size
            have h4_3 := h4_2.keep hb13
            have h5_3 := h5_2.keep hb13
            refine hKK.out _ _ (hS13) (fun hHeld => ?_)
            clear hKK KK
            refine wpAnyH_ready (rs := [3]) (by kernel_rfl) (by simp) ?_
            refine AllReadyH.cons rfl (fun KK hKK => ?_) AllReadyH.nil
            go_simp
            refine (partsOf_any _ (.slice bR R'.length dR) bK bV K'.length V'.length dK dV).mono ?_
            rintro e wa4 ⟨rfl, hb14⟩
            have hS14 : Below w4.heap.size w4 wa4 := hHeld.trans (hb14.mono hHeld.size)
            go_wp2_with fail
            have hlo4 : w4.heap.size ≤ wa3.heap.size := hHeld.size
            have h4_4 := h4_3.keep hb14
            have h5_4 := h5_3.keep hb14
            refine hKK.out _ _ (hS14) (fun hHeld => ?_)
            clear hKK KK
            have ne : w4.heap.size ≠ wa1.heap.size := by have := h4_1.lt; have : w4.drew.heap.size = w4.heap.size := rfl; omega
            refine step_store 6 42 w4.heap.size [Value.slice aK K.length cK, Value.slice aV V.length cV] (by kernel_rfl) rfl rfl (by rfl) (by rfl) (by rfl) (by rfl) h4_4.there sizeDParts ?_ ?_ ?_
            · intro v hv; simp at hv; rcases hv with rfl | rfl <;> rfl
            · exact below_sets hHeld (w4.heap.size) (by first | omega | exact hlo1) [Value.slice aK K.length cK, Value.slice aV V.length cV] 0
            have hHeld := below_sets hHeld (w4.heap.size) (by first | omega | exact hlo1) [Value.slice aK K.length cK, Value.slice aV V.length cV] 0
            refine step_store 7 42 wa1.heap.size [Value.slice bK K'.length dK, Value.slice bV V'.length dV] (by kernel_rfl) rfl rfl (by rfl) (by rfl) (by rfl) (by rfl) (h5_4.others (Ne.symm ne) [Value.slice aK K.length cK, Value.slice aV V.length cV] 0).there sizeDParts ?_ ?_ ?_
            · intro v hv; simp at hv; rcases hv with rfl | rfl <;> rfl
            · exact below_sets hHeld (wa1.heap.size) (by first | omega | exact hlo2) [Value.slice bK K'.length dK, Value.slice bV V'.length dV] 0
            have hHeld := below_sets hHeld (wa1.heap.size) (by first | omega | exact hlo2) [Value.slice bK K'.length dK, Value.slice bV V'.length dV] 0
            refine wpAnyH_done (by kernel_rfl) ?_ _
            have HHeld : Hid (Below w4.heap.size w4 ((wa4.setCells w4.heap.size 0 [Value.slice aK K.length cK, Value.slice aV V.length cV]).setCells wa1.heap.size 0 [Value.slice bK K'.length dK, Value.slice bV V'.length dV])) := hHeld
            clear hHeld
            go_wp2
            go_meet
            case rel => exact ⟨_, _, rfl, rfl, ne, (h4_4.sets [Value.slice aK K.length cK, Value.slice aV V.length cV] rfl).others ne [Value.slice bK K'.length dK, Value.slice bV V'.length dV] 0, (h5_4.others (Ne.symm ne) [Value.slice aK K.length cK, Value.slice aV V.length cV] 0).sets [Value.slice bK K'.length dK, Value.slice bV V'.length dV] rfl, HHeld.out⟩
        · skip
          go_simp
          obtain ⟨WA, hWa1, hNa, hba, hsz_⟩ := laid1 w4 [Value.slice none 0 0, Value.slice none 0 0] 42
          rw [hWa1]
          have hS11 : Below w4.heap.size w4 WA.drew := hba.drew
          have hNa1 : Blk WA.drew w4.heap.size [Value.slice none 0 0, Value.slice none 0 0] := hNa.drew
          clear hNa hba hsz_ hWa1
          generalize WA.drew = wa1 at *
          have hlo1 : w4.heap.size ≤ w4.drew.heap.size := hHeld.size
          have h5_1 : Blk wa1 w4.heap.size [Value.slice none 0 0, Value.slice none 0 0] := hNa1
          refine hKK.out _ _ (hS11) (fun hHeld => ?_)
          clear hKK KK
          refine wpAnyH_ready (rs := [1, 4]) (by kernel_rfl) (by simp) ?_
          refine AllReadyH.cons rfl (fun KK hKK => ?_) (AllReadyH.cons rfl (fun KK hKK => ?_) AllReadyH.nil)
          · skip
            go_simp
            refine (partsOf_any _ (.slice aR R.length cR) aK aV K.length V.length cK cV).mono ?_
            rintro e wa2 ⟨rfl, hb12⟩
            have hS12 : Below w4.heap.size w4 wa2 := hHeld.trans (hb12.mono hHeld.size)
            go_wp2_with fail
            have hlo2 : w4.heap.size ≤ wa1.heap.size := hHeld.size
            have h5_2 := h5_1.keep hb12
            refine hKK.out _ _ (hS12) (fun hHeld => ?_)
            clear hKK KK
            refine wpAnyH_ready (rs := [3, 4]) (by kernel_rfl) (by simp) ?_
            refine AllReadyH.cons rfl (fun KK hKK => ?_) (AllReadyH.cons rfl (fun KK hKK => ?_) AllReadyH.nil)
            · skip
              go_simp
              refine (partsOf_any _ (.slice bR R'.length dR) bK bV K'.length V'.length dK dV).mono ?_
              rintro e wa3 ⟨rfl, hb13⟩
              have hS13 : Below w4.heap.size w4 wa3 := hHeld.trans (hb13.mono hHeld.size)
              go_wp2_with fail
              have hlo3 : w4.heap.size ≤ wa2.heap.size := hHeld.size
              have h5_3 := h5_2.keep hb13
              refine hKK.out _ _ (hS13) (fun hHeld => ?_)
              clear hKK KK
              refine wpAnyH_ready (rs := [4]) (by kernel_rfl) (by simp) ?_
              refine AllReadyH.cons rfl (fun KK hKK => ?_) AllReadyH.nil
              go_simp
              obtain ⟨wa4, hWa4, hNa4, hb14, hsz_⟩ := laid1 wa3 [Value.slice none 0 0, Value.slice none 0 0] 42
              have hS14 : Below w4.heap.size w4 wa4 := hHeld.trans (hb14.mono hHeld.size)
              rw [hWa4]
              clear hsz_ hWa4
              have hlo4 : w4.heap.size ≤ wa3.heap.size := hHeld.size
              have h5_4 := h5_3.keep hb14
              have h4_4 : Blk wa4 wa3.heap.size [Value.slice none 0 0, Value.slice none 0 0] := hNa4
              refine hKK.out _ _ (hS14) (fun hHeld => ?_)
              clear hKK KK
              have ne : wa3.heap.size ≠ w4.heap.size := by have := h5_3.lt; have : w4.drew.heap.size = w4.heap.size := rfl; omega
              refine step_store 6 42 wa3.heap.size [Value.slice aK K.length cK, Value.slice aV V.length cV] (by kernel_rfl) rfl rfl (by rfl) (by rfl) (by rfl) (by rfl) h4_4.there sizeDParts ?_ ?_ ?_
              · intro v hv; simp at hv; rcases hv with rfl | rfl <;> rfl
              · exact below_sets hHeld (wa3.heap.size) (by first | omega | exact hlo4) [Value.slice aK K.length cK, Value.slice aV V.length cV] 0
              have hHeld := below_sets hHeld (wa3.heap.size) (by first | omega | exact hlo4) [Value.slice aK K.length cK, Value.slice aV V.length cV] 0
              refine step_store 7 42 w4.heap.size [Value.slice bK K'.length dK, Value.slice bV V'.length dV] (by kernel_rfl) rfl rfl (by rfl) (by rfl) (by rfl) (by rfl) (h5_4.others (Ne.symm ne) [Value.slice aK K.length cK, Value.slice aV V.length cV] 0).there sizeDParts ?_ ?_ ?_
              · intro v hv; simp at hv; rcases hv with rfl | rfl <;> rfl
              · exact below_sets hHeld (w4.heap.size) (by first | omega | exact hlo1) [Value.slice bK K'.length dK, Value.slice bV V'.length dV] 0
              have hHeld := below_sets hHeld (w4.heap.size) (by first | omega | exact hlo1) [Value.slice bK K'.length dK, Value.slice bV V'.length dV] 0
              refine wpAnyH_done (by kernel_rfl) ?_ _
              have HHeld : Hid (Below w4.heap.size w4 ((wa4.setCells wa3.heap.size 0 [Value.slice aK K.length cK, Value.slice aV V.length cV]).setCells w4.heap.size 0 [Value.slice bK K'.length dK, Value.slice bV V'.length dV])) := hHeld
              clear hHeld
              go_wp2
              go_meet
              case rel => exact ⟨_, _, rfl, rfl, ne, (h4_4.sets [Value.slice aK K.length cK, Value.slice aV V.length cV] rfl).others ne [Value.slice bK K'.length dK, Value.slice bV V'.length dV] 0, (h5_4.others (Ne.symm ne) [Value.slice aK K.length cK, Value.slice aV V.length cV] 0).sets [Value.slice bK K'.length dK, Value.slice bV V'.length dV] rfl, HHeld.out⟩
            · skip
              go_simp
              obtain ⟨wa3, hWa3, hNa3, hb13, hsz_⟩ := laid1 wa2 [Value.slice none 0 0, Value.slice none 0 0] 42
              have hS13 : Below w4.heap.size w4 wa3 := hHeld.trans (hb13.mono hHeld.size)
              rw [hWa3]
              clear hsz_ hWa3
              have hlo3 : w4.heap.size ≤ wa2.heap.size := hHeld.size
              have h5_3 := h5_2.keep hb13
              have h4_3 : Blk wa3 wa2.heap.size [Value.slice none 0 0, Value.slice none 0 0] := hNa3
              refine hKK.out _ _ (hS13) (fun hHeld => ?_)
              clear hKK KK
              refine wpAnyH_ready (rs := [3]) (by kernel_rfl) (by simp) ?_
              refine AllReadyH.cons rfl (fun KK hKK => ?_) AllReadyH.nil
              go_simp
              refine (partsOf_any _ (.slice bR R'.length dR) bK bV K'.length V'.length dK dV).mono ?_
              rintro e wa4 ⟨rfl, hb14⟩
              have hS14 : Below w4.heap.size w4 wa4 := hHeld.trans (hb14.mono hHeld.size)
              go_wp2_with fail
              have hlo4 : w4.heap.size ≤ wa3.heap.size := hHeld.size
              have h4_4 := h4_3.keep hb14
              have h5_4 := h5_3.keep hb14
              refine hKK.out _ _ (hS14) (fun hHeld => ?_)
              clear hKK KK
              have ne : wa2.heap.size ≠ w4.heap.size := by have := h5_2.lt; have : w4.drew.heap.size = w4.heap.size := rfl; omega
              refine step_store 6 42 wa2.heap.size [Value.slice aK K.length cK, Value.slice aV V.length cV] (by kernel_rfl) rfl rfl (by rfl) (by rfl) (by rfl) (by rfl) h4_4.there sizeDParts ?_ ?_ ?_
              · intro v hv; simp at hv; rcases hv with rfl | rfl <;> rfl
              · exact below_sets hHeld (wa2.heap.size) (by first | omega | exact hlo3) [Value.slice aK K.length cK, Value.slice aV V.length cV] 0
              have hHeld := below_sets hHeld (wa2.heap.size) (by first | omega | exact hlo3) [Value.slice aK K.length cK, Value.slice aV V.length cV] 0
              refine step_store 7 42 w4.heap.size [Value.slice bK K'.length dK, Value.slice bV V'.length dV] (by kernel_rfl) rfl rfl (by rfl) (by rfl) (by rfl) (by rfl) (h5_4.others (Ne.symm ne) [Value.slice aK K.length cK, Value.slice aV V.length cV] 0).there sizeDParts ?_ ?_ ?_
              · intro v hv; simp at hv; rcases hv with rfl | rfl <;> rfl
              · exact below_sets hHeld (w4.heap.size) (by first | omega | exact hlo1) [Value.slice bK K'.length dK, Value.slice bV V'.length dV] 0
              have hHeld := below_sets hHeld (w4.heap.size) (by first | omega | exact hlo1) [Value.slice bK K'.length dK, Value.slice bV V'.length dV] 0
              refine wpAnyH_done (by kernel_rfl) ?_ _
              have HHeld : Hid (Below w4.heap.size w4 ((wa4.setCells wa2.heap.size 0 [Value.slice aK K.length cK, Value.slice aV V.length cV]).setCells w4.heap.size 0 [Value.slice bK K'.length dK, Value.slice bV V'.length dV])) := hHeld
              clear hHeld
              go_wp2
              go_meet
              case rel => exact ⟨_, _, rfl, rfl, ne, (h4_4.sets [Value.slice aK K.length cK, Value.slice aV V.length cV] rfl).others ne [Value.slice bK K'.length dK, Value.slice bV V'.length dV] 0, (h5_4.others (Ne.symm ne) [Value.slice aK K.length cK, Value.slice aV V.length cV] 0).sets [Value.slice bK K'.length dK, Value.slice bV V'.length dV] rfl, HHeld.out⟩
          · skip
            go_simp
            obtain ⟨wa2, hWa2, hNa2, hb12, hsz_⟩ := laid1 wa1 [Value.slice none 0 0, Value.slice none 0 0] 42
            have hS12 : Below w4.heap.size w4 wa2 := hHeld.trans (hb12.mono hHeld.size)
            rw [hWa2]
            clear hsz_ hWa2
            have hlo2 : w4.heap.size ≤ wa1.heap.size := hHeld.size
            have h5_2 := h5_1.keep hb12
            have h4_2 : Blk wa2 wa1.heap.size [Value.slice none 0 0, Value.slice none 0 0] := hNa2
            refine hKK.out _ _ (hS12) (fun hHeld => ?_)
            clear hKK KK
            refine wpAnyH_ready (rs := [1]) (by kernel_rfl) (by simp) ?_
            refine AllReadyH.cons rfl (fun KK hKK => ?_) AllReadyH.nil
            go_simp
            refine (partsOf_any _ (.slice aR R.length cR) aK aV K.length V.length cK cV).mono ?_
            rintro e wa3 ⟨rfl, hb13⟩
            have hS13 : Below w4.heap.size w4 wa3 := hHeld.trans (hb13.mono hHeld.size)
            go_wp2_with fail
            have hlo3 : w4.heap.size ≤ wa2.heap.size := hHeld.size
            have h4_3 := h4_2.keep hb13
            have h5_3 := h5_2.keep hb13
            refine hKK.out _ _ (hS13) (fun hHeld => ?_)
            clear hKK KK
            refine wpAnyH_ready (rs := [3]) (by kernel_rfl) (by simp) ?_
            refine AllReadyH.cons rfl (fun KK hKK => ?_) AllReadyH.nil
            go_simp
            refine (partsOf_any _ (.slice bR R'.length dR) bK bV K'.length V'.length dK dV).mono ?_
            rintro e wa4 ⟨rfl, hb14⟩
            have hS14 : Below w4.heap.size w4 wa4 := hHeld.trans (hb14.mono hHeld.size)
            go_wp2_with fail
            have hlo4 : w4.heap.size ≤ wa3.heap.size := hHeld.size
            have h4_4 := h4_3.keep hb14
            have h5_4 := h5_3.keep hb14
            refine hKK.out _ _ (hS14) (fun hHeld => ?_)
            clear hKK KK
            have ne : wa1.heap.size ≠ w4.heap.size := by have := h5_1.lt; have : w4.drew.heap.size = w4.heap.size := rfl; omega
            refine step_store 6 42 wa1.heap.size [Value.slice aK K.length cK, Value.slice aV V.length cV] (by kernel_rfl) rfl rfl (by rfl) (by rfl) (by rfl) (by rfl) h4_4.there sizeDParts ?_ ?_ ?_
            · intro v hv; simp at hv; rcases hv with rfl | rfl <;> rfl
            · exact below_sets hHeld (wa1.heap.size) (by first | omega | exact hlo2) [Value.slice aK K.length cK, Value.slice aV V.length cV] 0
            have hHeld := below_sets hHeld (wa1.heap.size) (by first | omega | exact hlo2) [Value.slice aK K.length cK, Value.slice aV V.length cV] 0
            refine step_store 7 42 w4.heap.size [Value.slice bK K'.length dK, Value.slice bV V'.length dV] (by kernel_rfl) rfl rfl (by rfl) (by rfl) (by rfl) (by rfl) (h5_4.others (Ne.symm ne) [Value.slice aK K.length cK, Value.slice aV V.length cV] 0).there sizeDParts ?_ ?_ ?_
            · intro v hv; simp at hv; rcases hv with rfl | rfl <;> rfl
            · exact below_sets hHeld (w4.heap.size) (by first | omega | exact hlo1) [Value.slice bK K'.length dK, Value.slice bV V'.length dV] 0
            have hHeld := below_sets hHeld (w4.heap.size) (by first | omega | exact hlo1) [Value.slice bK K'.length dK, Value.slice bV V'.length dV] 0
            refine wpAnyH_done (by kernel_rfl) ?_ _
            have HHeld : Hid (Below w4.heap.size w4 ((wa4.setCells wa1.heap.size 0 [Value.slice aK K.length cK, Value.slice aV V.length cV]).setCells w4.heap.size 0 [Value.slice bK K'.length dK, Value.slice bV V'.length dV])) := hHeld
            clear hHeld
            go_wp2
            go_meet
            case rel => exact ⟨_, _, rfl, rfl, ne, (h4_4.sets [Value.slice aK K.length cK, Value.slice aV V.length cV] rfl).others ne [Value.slice bK K'.length dK, Value.slice bV V'.length dV] 0, (h5_4.others (Ne.symm ne) [Value.slice aK K.length cK, Value.slice aV V.length cV] 0).sets [Value.slice bK K'.length dK, Value.slice bV V'.length dV] rfl, HHeld.out⟩
      case rest =>
        obtain ⟨b7, b8, rfl, rfl, ne, hc7, hc8, hbc⟩ := hcut
        obtain ⟨W9, hW9, hX9, hB9, hS9⟩ := laid1 wc [Value.slice none 0 0, Value.slice none 0 0, Value.slice none 0 0, Value.slice none 0 0] 47
        have HC7 : Hid (Blk W9 b7 [Value.slice aK K.length cK, Value.slice aV V.length cV] ∧ b7 < wc.heap.size) := ⟨hc7.keep hB9, hc7.lt⟩
        have HC8 : Hid (Blk W9 b8 [Value.slice bK K'.length dK, Value.slice bV V'.length dV] ∧ b8 < wc.heap.size) := ⟨hc8.keep hB9, hc8.lt⟩
        have HR9 : Hid (Blk W9 (w.heap.size + 1 + 1) [Value.slice none 0 0, Value.slice none 0 0, Value.slice none 0 0, Value.slice none 0 0]) := (hR4.keep hbc).keep hB9
        have HX9 : Hid (Blk W9 wc.heap.size [Value.slice none 0 0, Value.slice none 0 0, Value.slice none 0 0, Value.slice none 0 0]) := hX9
        have HB9 : Hid (Below w.heap.size w W9) := (HB4.out.trans (hbc.mono HB4.out.size)).trans (hB9.mono (Nat.le_trans HB4.out.size hbc.size))
        have hlt9 : w.heap.size + 3 ≤ wc.heap.size := by have := hbc.size; omega
        clear hF4 hT4 hR4 hc7 hc8 hbc hX9 hB9 ne
        go_wp2
        clear hW9
        go_loopw [32] (fun i W => ∃ (k : Nat) (u v u' v' : Value), k ≤ 2 ∧ i = .int .i64 k ∧ Blk W wc.heap.size [u, v, u', v'] ∧ (1 ≤ k → Pair W W9.heap.size u v (goneP K K') (hereP K K')) ∧ (2 ≤ k → Pair W W9.heap.size u' v' (goneP V V') (hereP V V')) ∧ Below wc.heap.size W9 W) (fun i _ => 2 - (intOf i).toNat)
        case atStart => exact ⟨0, _, _, _, _, by omega, rfl, HX9.out, by omega, by omega, Below.refl _ _⟩
        case round =>
          obtain ⟨k, u, v, u', v', hk, rfl, hX9, hp1, hp2, hb⟩ := hrel
          have HQ1 : Hid (1 ≤ k → Pair wr W9.heap.size u v (goneP K K') (hereP K K')) := hp1
          have HQ2 : Hid (2 ≤ k → Pair wr W9.heap.size u' v' (goneP V V') (hereP V V')) := hp2
          have hcs : k = 0 ∨ k = 1 ∨ k = 2 := by omega
          have hbw : Below w.heap.size w wr := HB9.out.trans (hb.mono (by omega))
          have hX7 := HC7.out.1.below hb HC7.out.2
          have hX8 := HC8.out.1.below hb HC8.out.2
          have hszr : W9.heap.size ≤ wr.heap.size := hb.size
          clear hp1 hp2 HX9
          rcases hcs with rfl | rfl | rfl
          · go_upto_region 11 with fail
            refine wp_region_held_drew (S := fun w' => Below wc.heap.size wr w') (by kernel_rfl) ((Below.refl _ wr).drew) (fun hHeld => ?_)
            refine take_yes 0 35 (v := ?_) rfl rfl (by kernel_rfl) (by kernel_rfl) (by kernel_rfl) (fun _ _ _ h => h) (by rfl) ?_ hHeld ?_
            rotate_left 1
            · (intro w hSw; go_simp; try with_reducible rfl)
            simp only [Act.put, List.setIfInBounds_toArray, List.set_cons_succ, List.set_cons_zero]
            refine take_yes 1 36 (v := ?_) rfl rfl (by kernel_rfl) (by kernel_rfl) (by kernel_rfl) (fun _ _ _ h => h) (by rfl) ?_ hHeld ?_
            rotate_left 1
            · (intro w hSw; go_simp; try with_reducible rfl)
            simp only [Act.put, List.setIfInBounds_toArray, List.set_cons_succ, List.set_cons_zero]
            refine take_yes 2 37 (v := ?_) rfl rfl (by kernel_rfl) (by kernel_rfl) (by kernel_rfl) (fun _ _ _ h => h) (by rfl) ?_ hHeld ?_
            rotate_left 1
            · (intro w hSw; go_simp; try with_reducible rfl)
            simp only [Act.put, List.setIfInBounds_toArray, List.set_cons_succ, List.set_cons_zero]
            refine take_yes 3 38 (v := ?_) rfl rfl (by kernel_rfl) (by kernel_rfl) (by kernel_rfl) (fun _ _ _ h => h) (by rfl) ?_ hHeld ?_
            rotate_left 1
            · (intro w hSw; have cc := (hX7.below hSw HC7.out.2).at 0 rfl; go_simp; try with_reducible rfl)
            simp only [Act.put, List.setIfInBounds_toArray, List.set_cons_succ, List.set_cons_zero]
            refine take_yes 4 39 (v := ?_) rfl rfl (by kernel_rfl) (by kernel_rfl) (by kernel_rfl) (fun _ _ _ h => h) (by rfl) ?_ hHeld ?_
            rotate_left 1
            · (intro w hSw; go_simp; try with_reducible rfl)
            simp only [Act.put, List.setIfInBounds_toArray, List.set_cons_succ, List.set_cons_zero]
            refine take_yes 5 40 (v := ?_) rfl rfl (by kernel_rfl) (by kernel_rfl) (by kernel_rfl) (fun _ _ _ h => h) (by rfl) ?_ hHeld ?_
            rotate_left 1
            · (intro w hSw; go_simp; try with_reducible rfl)
            simp only [Act.put, List.setIfInBounds_toArray, List.set_cons_succ, List.set_cons_zero]
            refine take_yes 6 41 (v := ?_) rfl rfl (by kernel_rfl) (by kernel_rfl) (by kernel_rfl) (fun _ _ _ h => h) (by rfl) ?_ hHeld ?_
            rotate_left 1
            · (intro w hSw; have cc := (hX8.below hSw HC8.out.2).at 0 rfl; go_simp; try with_reducible rfl)
            simp only [Act.put, List.setIfInBounds_toArray, List.set_cons_succ, List.set_cons_zero]
            refine wpAnyH_ready (rs := [7]) (by kernel_rfl) (by simp) ?_
            refine AllReadyH.cons rfl (fun KK hKK => ?_) AllReadyH.nil
            go_simp
            refine (HCALL0.out _ hbw.drew).mono ?_
            rintro e w6 ⟨v1, v2, rfl, hpr6, hb6⟩
            have hS6 : Below wc.heap.size wr w6 := hHeld.trans (hb6.mono (by have : wr.drew.heap.size = wr.heap.size := rfl; omega))
            obtain ⟨a1, c1, rfl, _⟩ := hpr6.1.val
            obtain ⟨a2, c2, rfl, _⟩ := hpr6.2.val
            go_wp2_with fail
            refine hKK.out _ _ (hS6) (fun hHeld => ?_)
            clear hKK KK
            refine take_yes 8 43 (v := ?_) rfl rfl (by kernel_rfl) (by kernel_rfl) (by kernel_rfl) (fun _ _ _ h => h) (by rfl) ?_ hHeld ?_
            rotate_left 1
            · (intro w hSw; go_simp; try with_reducible rfl)
            simp only [Act.put, List.setIfInBounds_toArray, List.set_cons_succ, List.set_cons_zero]
            have hS6' : Below wr.heap.size wr w6 := ((Below.refl _ wr).drew).trans hb6
            have hX96 := hX9.keep hS6'
            have ht : w6.there wc.heap.size 0 2 := fun j hj => hX96.there j (by simp; omega)
            have HQ6 : Hid (Pair (w6.setCells wc.heap.size 0 [Value.slice a1 (goneP K K').length c1, Value.slice a2 (hereP K K').length c2]) W9.heap.size (.slice a1 (goneP K K').length c1) (.slice a2 (hereP K K').length c2) (goneP K K') (hereP K K')) := Pair.others wc.heap.size (by omega) _ 0 w6 (hpr6.mono (base' := W9.heap.size) hszr)
            have HB6 : Hid (Below wc.heap.size W9 (w6.setCells wc.heap.size 0 [Value.slice a1 (goneP K K').length c1, Value.slice a2 (hereP K K').length c2])) := below_sets (hb.trans (hS6'.mono (by omega))) _ (Nat.le_refl _) _ 0
            have HX6 : Hid (Blk (w6.setCells wc.heap.size 0 [Value.slice a1 (goneP K K').length c1, Value.slice a2 (hereP K K').length c2]) wc.heap.size [Value.slice a1 (goneP K K').length c1, Value.slice a2 (hereP K K').length c2, u', v']) := (hX96.set 0 (by simp) (Value.slice a1 (goneP K K').length c1)).set 1 (by simp) (Value.slice a2 (hereP K K').length c2)
            refine step_store_at 9 45 wc.heap.size 0 [Value.slice a1 (goneP K K').length c1, Value.slice a2 (hereP K K').length c2] (by kernel_rfl) rfl rfl (by rfl) (by rfl) (by rfl) (by rfl) ht sizeDChange ?_ ?_ ?_
            · intro v hv; simp at hv; rcases hv with rfl | rfl <;> rfl
            · exact below_sets hHeld _ (Nat.le_refl _) _ 0
            refine wpAnyH_done (by kernel_rfl) ?_ _
            clear hHeld hX96 ht hpr6 hb6 hS6 hS6' hX7 hX8 hX9 hb hbw
            go_wp2
            go_roundw
            case rel => exact ⟨1, _, _, u', v', by omega, by go_num, HX6.out, fun _ => HQ6.out, by omega, HB6.out⟩
            case measure => simp [intOf]
          · go_upto_region 11 with fail
            refine wp_region_held_drew (S := fun w' => Below wc.heap.size wr w') (by kernel_rfl) ((Below.refl _ wr).drew) (fun hHeld => ?_)
            refine take_yes 0 35 (v := ?_) rfl rfl (by kernel_rfl) (by kernel_rfl) (by kernel_rfl) (fun _ _ _ h => h) (by rfl) ?_ hHeld ?_
            rotate_left 1
            · (intro w hSw; go_simp; try with_reducible rfl)
            simp only [Act.put, List.setIfInBounds_toArray, List.set_cons_succ, List.set_cons_zero]
            refine take_yes 1 36 (v := ?_) rfl rfl (by kernel_rfl) (by kernel_rfl) (by kernel_rfl) (fun _ _ _ h => h) (by rfl) ?_ hHeld ?_
            rotate_left 1
            · (intro w hSw; go_simp; try with_reducible rfl)
            simp only [Act.put, List.setIfInBounds_toArray, List.set_cons_succ, List.set_cons_zero]
            refine take_yes 2 37 (v := ?_) rfl rfl (by kernel_rfl) (by kernel_rfl) (by kernel_rfl) (fun _ _ _ h => h) (by rfl) ?_ hHeld ?_
            rotate_left 1
            · (intro w hSw; go_simp; try with_reducible rfl)
            simp only [Act.put, List.setIfInBounds_toArray, List.set_cons_succ, List.set_cons_zero]
            refine take_yes 3 38 (v := ?_) rfl rfl (by kernel_rfl) (by kernel_rfl) (by kernel_rfl) (fun _ _ _ h => h) (by rfl) ?_ hHeld ?_
            rotate_left 1
            · (intro w hSw; have cc := (hX7.below hSw HC7.out.2).at 1 rfl; go_simp; try with_reducible rfl)
            simp only [Act.put, List.setIfInBounds_toArray, List.set_cons_succ, List.set_cons_zero]
            refine take_yes 4 39 (v := ?_) rfl rfl (by kernel_rfl) (by kernel_rfl) (by kernel_rfl) (fun _ _ _ h => h) (by rfl) ?_ hHeld ?_
            rotate_left 1
            · (intro w hSw; go_simp; try with_reducible rfl)
            simp only [Act.put, List.setIfInBounds_toArray, List.set_cons_succ, List.set_cons_zero]
            refine take_yes 5 40 (v := ?_) rfl rfl (by kernel_rfl) (by kernel_rfl) (by kernel_rfl) (fun _ _ _ h => h) (by rfl) ?_ hHeld ?_
            rotate_left 1
            · (intro w hSw; go_simp; try with_reducible rfl)
            simp only [Act.put, List.setIfInBounds_toArray, List.set_cons_succ, List.set_cons_zero]
            refine take_yes 6 41 (v := ?_) rfl rfl (by kernel_rfl) (by kernel_rfl) (by kernel_rfl) (fun _ _ _ h => h) (by rfl) ?_ hHeld ?_
            rotate_left 1
            · (intro w hSw; have cc := (hX8.below hSw HC8.out.2).at 1 rfl; go_simp; try with_reducible rfl)
            simp only [Act.put, List.setIfInBounds_toArray, List.set_cons_succ, List.set_cons_zero]
            refine wpAnyH_ready (rs := [7]) (by kernel_rfl) (by simp) ?_
            refine AllReadyH.cons rfl (fun KK hKK => ?_) AllReadyH.nil
            go_simp
            refine (HCALL1.out _ hbw.drew).mono ?_
            rintro e w6 ⟨v1, v2, rfl, hpr6, hb6⟩
            have hS6 : Below wc.heap.size wr w6 := hHeld.trans (hb6.mono (by have : wr.drew.heap.size = wr.heap.size := rfl; omega))
            obtain ⟨a1, c1, rfl, _⟩ := hpr6.1.val
            obtain ⟨a2, c2, rfl, _⟩ := hpr6.2.val
            go_wp2_with fail
            refine hKK.out _ _ (hS6) (fun hHeld => ?_)
            clear hKK KK
            refine take_yes 8 43 (v := ?_) rfl rfl (by kernel_rfl) (by kernel_rfl) (by kernel_rfl) (fun _ _ _ h => h) (by rfl) ?_ hHeld ?_
            rotate_left 1
            · (intro w hSw; go_simp; try with_reducible rfl)
            simp only [Act.put, List.setIfInBounds_toArray, List.set_cons_succ, List.set_cons_zero]
            have hS6' : Below wr.heap.size wr w6 := ((Below.refl _ wr).drew).trans hb6
            have hX96 := hX9.keep hS6'
            have ht : w6.there wc.heap.size 2 2 := fun j hj => by have := hX96.there (2 + j) (by simp; omega); rw [Nat.zero_add] at this; exact this
            have HQ6 : Hid (Pair (w6.setCells wc.heap.size 2 [Value.slice a1 (goneP V V').length c1, Value.slice a2 (hereP V V').length c2]) W9.heap.size (.slice a1 (goneP V V').length c1) (.slice a2 (hereP V V').length c2) (goneP V V') (hereP V V')) := Pair.others wc.heap.size (by omega) _ 2 w6 (hpr6.mono (base' := W9.heap.size) hszr)
            have HQ5 : Hid (Pair (w6.setCells wc.heap.size 2 [Value.slice a1 (goneP V V').length c1, Value.slice a2 (hereP V V').length c2]) W9.heap.size u v (goneP K K') (hereP K K')) := Pair.others wc.heap.size (by omega) _ 2 w6 ((HQ1.out (by omega)).keep hS6')
            have HB6 : Hid (Below wc.heap.size W9 (w6.setCells wc.heap.size 2 [Value.slice a1 (goneP V V').length c1, Value.slice a2 (hereP V V').length c2])) := below_sets (hb.trans (hS6'.mono (by omega))) _ (Nat.le_refl _) _ 2
            have HX6 : Hid (Blk (w6.setCells wc.heap.size 2 [Value.slice a1 (goneP V V').length c1, Value.slice a2 (hereP V V').length c2]) wc.heap.size [u, v, Value.slice a1 (goneP V V').length c1, Value.slice a2 (hereP V V').length c2]) := (hX96.set 2 (by simp) (Value.slice a1 (goneP V V').length c1)).set 3 (by simp) (Value.slice a2 (hereP V V').length c2)
            refine step_store_at 9 45 wc.heap.size 2 [Value.slice a1 (goneP V V').length c1, Value.slice a2 (hereP V V').length c2] (by kernel_rfl) rfl rfl (by rfl) (by rfl) (by rfl) (by rfl) ht sizeDChange ?_ ?_ ?_
            · intro v hv; simp at hv; rcases hv with rfl | rfl <;> rfl
            · exact below_sets hHeld _ (Nat.le_refl _) _ 2
            refine wpAnyH_done (by kernel_rfl) ?_ _
            clear hHeld hX96 ht hpr6 hb6 hS6 hS6' hX7 hX8 hX9 hb hbw
            go_wp2
            go_roundw
            case rel => exact ⟨2, u, v, _, _, by omega, by go_num, HX6.out, fun _ => HQ5.out, fun _ => HQ6.out, HB6.out⟩
            case measure => simp [intOf]
          · have hq1 := HQ1.out (by omega)
            have hq2 := HQ2.out (by omega)
            obtain ⟨g1, k1, rfl, _⟩ := hq1.1.val
            obtain ⟨g2, k2, rfl, _⟩ := hq1.2.val
            obtain ⟨g3, k3, rfl, _⟩ := hq2.1.val
            obtain ⟨g4, k4, rfl, _⟩ := hq2.2.val
            have hRr := HR9.out.below hb (by omega)
            have z0 := hX9.at 0 rfl
            have z1 := hX9.at 1 rfl
            have z2 := hX9.at 2 rfl
            have z3 := hX9.at 3 rfl
            have r0 := hRr.at 0 rfl
            have r1 := hRr.at 1 rfl
            have r2 := hRr.at 2 rfl
            have r3 := hRr.at 3 rfl
            have rf := hRr.frz
            have HRf : Hid (Blk (wr.setCells (w.heap.size + 1 + 1) 0 [Value.slice g1 (goneP K K').length k1, Value.slice g2 (hereP K K').length k2, Value.slice g3 (goneP V V').length k3, Value.slice g4 (hereP V V').length k4]) (w.heap.size + 1 + 1) [Value.slice g1 (goneP K K').length k1, Value.slice g2 (hereP K K').length k2, Value.slice g3 (goneP V V').length k3, Value.slice g4 (hereP V V').length k4]) := hRr.sets _ rfl
            have HBf : Hid (Below w.heap.size w (wr.setCells (w.heap.size + 1 + 1) 0 [Value.slice g1 (goneP K K').length k1, Value.slice g2 (hereP K K').length k2, Value.slice g3 (goneP V V').length k3, Value.slice g4 (hereP V V').length k4])) := below_sets hbw _ (by omega) _ 0
            have HPf1 : Hid (Pair (wr.setCells (w.heap.size + 1 + 1) 0 [Value.slice g1 (goneP K K').length k1, Value.slice g2 (hereP K K').length k2, Value.slice g3 (goneP V V').length k3, Value.slice g4 (hereP V V').length k4]) w.heap.size (.slice g1 (goneP K K').length k1) (.slice g2 (hereP K K').length k2) (goneP K K') (hereP K K')) := (Pair.others (w.heap.size + 1 + 1) (by omega) _ 0 wr hq1).mono (base' := w.heap.size) (by omega)
            have HPf2 : Hid (Pair (wr.setCells (w.heap.size + 1 + 1) 0 [Value.slice g1 (goneP K K').length k1, Value.slice g2 (hereP K K').length k2, Value.slice g3 (goneP V V').length k3, Value.slice g4 (hereP V V').length k4]) w.heap.size (.slice g3 (goneP V V').length k3) (.slice g4 (hereP V V').length k4) (goneP V V') (hereP V V')) := (Pair.others (w.heap.size + 1 + 1) (by omega) _ 0 wr hq2).mono (base' := w.heap.size) (by omega)
            clear hq1 hq2 hRr hX7 hX8 hX9 hb hbw HQ1 HQ2
            go_wp2
            refine ret_cell_tmp Tryz.results4 rfl rfl (HRf.out.load Tryz.underlying27 rfl sizeDelta) ?_
            unfold Deltas
            rw [HF.out, HL0.out.1, HL0.out.2, HL1.out.1, HL1.out.2]
            exact ⟨g1, g2, g3, g4, k1, k2, k3, k4, rfl, ⟨HPf1.out.2.reads.2.1, HPf2.out.2.reads.2.1⟩, ⟨HPf1.out.1.fresh, HPf1.out.2.reads.2.2, HPf2.out.1.fresh, HPf2.out.2.reads.2.2⟩, HPf1.out.1.reads, HPf1.out.2.reads.1, HPf2.out.1.reads, HPf2.out.2.reads.1, HBf.out⟩
  · have hz' : (orI E1 E2 != 0) = true := by simpa using hz
    have HF : Hid (dfE R K V R' K' V' = orI E1 E2) := by show _ = _; rw [HE.out, if_pos hz]
    have HNZ : Hid (orI E1 E2 ≠ 0) := hz
    generalize orI E1 E2 = E at *
    have HRZ : Hid (Blk (w3.setCells (w.heap.size + 1 + 1) 0 [Value.slice none 0 0, Value.slice none 0 0, Value.slice none 0 0, Value.slice none 0 0]) (w.heap.size + 1 + 1) [Value.slice none 0 0, Value.slice none 0 0, Value.slice none 0 0, Value.slice none 0 0]) := hR3.sets _ rfl
    have y0 := hR3.at 0 rfl
    have y1 := hR3.at 1 rfl
    have y2 := hR3.at 2 rfl
    have y3 := hR3.at 3 rfl
    have yf := hR3.frz
    clear hz hF3 hT3 hR3 HE HZ
    go_wp2
    exact ret_cell_tmp Tryz.results4 rfl rfl (HRZ.out.load Tryz.underlying27 rfl sizeDelta) (BAD.out E w3 HB3.out HNZ.out HF.out _ rfl)
end Go.Proofs.YtkjgoikcibgonacGreat

