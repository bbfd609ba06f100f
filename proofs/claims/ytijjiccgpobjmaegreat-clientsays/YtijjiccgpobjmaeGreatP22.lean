/- 1 texts of the proof: orangeryref.Applied. -/
import Derived.Test.YtijjiccgpobjmaeGreatP10
import Derived.Test.YtijjiccgpobjmaeGreatP21
import Derived.Test.YtijjiccgpobjmaeGreatP12
/- orangeryref.Applied. -/
namespace Go.Proofs.YtijjiccgpobjmaeGreat
open Go.ChangeShapes Go.WideShapes Go.ChangeAt Go.RowKit
open Orangery (Pl viewE orI deltaE apE apR apL appL scan)

set_option maxHeartbeats 4000000 in
set_option maxRecDepth 100000 in
theorem rapplied_any (w : World) (aR aK aV aG aH aX aY : Option Addr) (cR cK cV cG cH cX cY : Nat) (R : List Int) (K V : List Pl) (G : List Int) (H : List Pl) (X : List Int) (Y : List Pl)
    (hm : (R.length ≤ maxLen ∧ K.length ≤ maxLen ∧ V.length ≤ maxLen) ∧ G.length ≤ maxLen ∧ H.length ≤ maxLen ∧ X.length ≤ maxLen ∧ Y.length ≤ maxLen)
    (hc : (aK = none → cK = 0) ∧ (aV = none → cV = 0)) (h1 : SlI w aR R) (h2 : SlP w aK K) (h3 : SlP w aV V) (h4 : SlI w aG G) (h5 : SlP w aH H) (h6 : SlI w aX X) (h7 : SlP w aY Y) :
    Calls Tryz.prog 51 #[viV (.slice aR R.length cR) (.slice aK K.length cK) (.slice aV V.length cV), deV (.slice aG G.length cG) (.slice aH H.length cH) (.slice aX X.length cX) (.slice aY Y.length cY)] w
      (Views w aR (apR (apE R K V G H X Y) R) (apL (apE R K V G H X Y) K G H) (apL (apE R K V G H X Y) V X Y) (apE R K V G H X Y)) := by
  obtain ⟨W0, hW, BF, BT, BR, hb, -⟩ := laid3 w [Value.slice aR R.length cR, Value.slice aK K.length cK, Value.slice aV V.length cV] 26 [Value.slice aG G.length cG, Value.slice aH H.length cH, Value.slice aX X.length cX, Value.slice aY Y.length cY] 50 [Value.slice none 0 0, Value.slice none 0 0, Value.slice none 0 0] 26
  have HM : Hid ((R.length ≤ maxLen ∧ K.length ≤ maxLen ∧ V.length ≤ maxLen) ∧ G.length ≤ maxLen ∧ H.length ≤ maxLen ∧ X.length ≤ maxLen ∧ Y.length ≤ maxLen) := hm
  have HPF : Hid (SlI w aR R ∧ SlP w aK K ∧ SlP w aV V) := ⟨h1, h2, h3⟩
  have HPT : Hid (SlI w aG G ∧ SlP w aH H ∧ SlI w aX X ∧ SlP w aY Y) := ⟨h4, h5, h6, h7⟩
  have HB0 : Hid (Below w.heap.size w W0) := hb
  have CF : Hid (∀ W, Below w.heap.size w W → Calls Tryz.prog 42 #[viV (.slice aR R.length cR) (.slice aK K.length cK) (.slice aV V.length cV)] W fun e w' => e = .returned (.int .i64 (viewE R K V)) ∧ Below W.heap.size W w') :=
    fun W hb => rcheckV_any W aR aK aV cR cK cV R K V HM.out.1.1 HM.out.1.2.1 HM.out.1.2.2 hc.1 hc.2 (HPF.out.1.below hb) (HPF.out.2.1.below hb) (HPF.out.2.2.below hb)
  have CT : Hid (∀ W, Below w.heap.size w W → Calls Tryz.prog 83 #[deV (.slice aG G.length cG) (.slice aH H.length cH) (.slice aX X.length cX) (.slice aY Y.length cY)] W fun e w' => e = .returned (.int .i64 (deltaE G H X Y)) ∧ Below W.heap.size W w') :=
    fun W hb => rcheckD_any W aG aH aX aY cG cH cX cY G H X Y HM.out.2 (HPT.out.1.below hb) (HPT.out.2.1.below hb) (HPT.out.2.2.1.below hb) (HPT.out.2.2.2.below hb)
  have HE : Hid (apE R K V G H X Y = if orI (viewE R K V) (deltaE G H X Y) ≠ 0 then orI (viewE R K V) (deltaE G H X Y) else viewE R (appL K G H) (appL V X Y)) := rfl
  have HZ : Hid (viewE R K V = 0 → deltaE G H X Y = 0 → ((scan 0 K = 0 ∧ scan 0 V = 0) ∧ scan 0 H = 0 ∧ scan 0 Y = 0) ∧ (G.length ≤ 1000 ∧ (∀ n ∈ G, 1 ≤ n ∧ n ≤ 15)) ∧ X.length ≤ 1000 ∧ (∀ n ∈ X, 1 ≤ n ∧ n ≤ 15)) := fun e1 e2 => by
    rw [Orangery.delta_or] at e2
    obtain ⟨e3, e4⟩ := Orangery.orI_zero e2
    have q3 := Orangery.half_zero e3
    have q4 := Orangery.half_zero e4
    exact ⟨⟨Orangery.view_scan e1, q3.2.2.2, q4.2.2.2⟩, ⟨by omega, Orangery.gone_range q3.2.2.1⟩, by omega, Orangery.gone_range q4.2.2.1⟩
  generalize viewE R K V = E1 at *
  generalize deltaE G H X Y = E2 at *
  have BAD : Hid (∀ (E : Int) (W : World), Below w.heap.size w W → E ≠ 0 → apE R K V G H X Y = E → ∀ W', W' = W.setCells (w.heap.size + 1 + 1) 0 [Value.slice none 0 0, Value.slice none 0 0, Value.slice none 0 0] → Views w aR (apR (apE R K V G H X Y) R) (apL (apE R K V G H X Y) K G H) (apL (apE R K V G H X Y) V X Y) (apE R K V G H X Y) (.returned (.tuple #[viV (.slice none 0 0) (.slice none 0 0) (.slice none 0 0), .int .i64 E])) W') := by
    rintro E W hb h1 h2 W' rfl
    rw [h2, Orangery.ap_bad h1, Orangery.al_bad h1, Orangery.al_bad h1]
    exact ⟨none, none, none, 0, 0, 0, rfl, ⟨fun _ => rfl, fun _ => rfl⟩, ⟨Fresh.none, Fresh.none, Or.inr Fresh.none⟩, Or.inl rfl, Or.inl rfl, Or.inl rfl, below_sets hb _ (by omega) _ 0⟩
  clear h1 h2 h3 h4 h5 h6 h7 hm hc hb
  have BF0 := BF
  have BT0 := BT
  have BR0 := BR
  clear BF BT BR
  have bf_0 := BF0.at 0 rfl
  have bf_1 := BF0.at 1 rfl
  have bf_2 := BF0.at 2 rfl
  go_enter Tryz.func51, Tryz.ntmps51
  go_wp2_with fail
  clear hW bf_0 bf_1 bf_2
  refine (CF.out W0 HB0.out).mono ?_
  rintro e w1 ⟨rfl, hb⟩
  have BF1 := BF0.keep hb
  have BT1 := BT0.keep hb
  have BR1 := BR0.keep hb
  have HB1 : Hid (Below w.heap.size w w1) := HB0.out.trans (hb.mono HB0.out.size)
  clear BF0 BT0 BR0 HB0
  clear hb
  by_cases hz1 : ¬ E1 = 0
  · have hz' : (E1 != 0) = true := by simpa using hz1
    have HNZ : Hid (E1 ≠ 0) := hz1
    have HF : Hid (apE R K V G H X Y = E1) := by show _ = _; rw [HE.out]; have e : orI E1 E2 = E1 := by { unfold orI; rw [if_pos hz1] }; rw [e, if_pos hz1]
    have HRZ : Hid (Blk (w1.setCells (w.heap.size + 1 + 1) 0 [Value.slice none 0 0, Value.slice none 0 0, Value.slice none 0 0]) (w.heap.size + 1 + 1) [Value.slice none 0 0, Value.slice none 0 0, Value.slice none 0 0]) := BR1.sets _ rfl
    have y0 := BR1.at 0 rfl
    have y1 := BR1.at 1 rfl
    have y2 := BR1.at 2 rfl
    have yf := BR1.frz
    clear hz1 BF1 BT1 BR1
    go_wp2
    exact ret_cell_tmp Tryz.results51 rfl rfl (HRZ.out.load Tryz.underlying26 rfl sizeView) (BAD.out E1 w1 HB1.out HNZ.out HF.out _ rfl)
  replace hz1 := Decidable.of_not_not hz1
  subst hz1
  have bt_0 := BT1.at 0 rfl
  have bt_1 := BT1.at 1 rfl
  have bt_2 := BT1.at 2 rfl
  have bt_3 := BT1.at 3 rfl
  go_wp2_with fail
  clear bt_0 bt_1 bt_2 bt_3
  refine (CT.out w1 HB1.out).mono ?_
  rintro e w2 ⟨rfl, hb⟩
  have BF2 := BF1.keep hb
  have BT2 := BT1.keep hb
  have BR2 := BR1.keep hb
  have HB2 : Hid (Below w.heap.size w w2) := HB1.out.trans (hb.mono HB1.out.size)
  clear BF1 BT1 BR1 HB1
  clear hb
  by_cases hz2 : ¬ E2 = 0
  · have hz' : (E2 != 0) = true := by simpa using hz2
    have HNZ : Hid (E2 ≠ 0) := hz2
    have HF : Hid (apE R K V G H X Y = E2) := by show _ = _; rw [HE.out]; have e : orI 0 E2 = E2 := rfl; rw [e, if_pos hz2]
    have HRZ : Hid (Blk (w2.setCells (w.heap.size + 1 + 1) 0 [Value.slice none 0 0, Value.slice none 0 0, Value.slice none 0 0]) (w.heap.size + 1 + 1) [Value.slice none 0 0, Value.slice none 0 0, Value.slice none 0 0]) := BR2.sets _ rfl
    have y0 := BR2.at 0 rfl
    have y1 := BR2.at 1 rfl
    have y2 := BR2.at 2 rfl
    have yf := BR2.frz
    clear hz2 BF2 BT2 BR2
    go_wp2
    exact ret_cell_tmp Tryz.results51 rfl rfl (HRZ.out.load Tryz.underlying26 rfl sizeView) (BAD.out E2 w2 HB2.out HNZ.out HF.out _ rfl)
  replace hz2 := Decidable.of_not_not hz2
  subst hz2
  have HSC : Hid (((scan 0 K = 0 ∧ scan 0 V = 0) ∧ scan 0 H = 0 ∧ scan 0 Y = 0) ∧ (G.length ≤ 1000 ∧ (∀ n ∈ G, 1 ≤ n ∧ n ≤ 15)) ∧ X.length ≤ 1000 ∧ (∀ n ∈ X, 1 ≤ n ∧ n ≤ 15)) := HZ.out (by trivial) (by trivial)
  have HE2 : Hid (apE R K V G H X Y = viewE R (appL K G H) (appL V X Y)) := by show _ = _; rw [HE.out]; rfl
  have HC0 : Hid (∀ W, Below w.heap.size w W → Calls Tryz.prog 84 #[.slice aK K.length cK, .slice aG G.length cG, .slice aH H.length cH] W fun e w' => ∃ v, e = .returned v ∧ OwnS w' W.heap.size v (appL K G H) ∧ Below W.heap.size W w') :=
    fun W hb => rturn_any W aK aG aH cK cG cH K G H HSC.out.1.1.1 HSC.out.2.1.1 HSC.out.2.1.2 HSC.out.1.2.1 (HPF.out.2.1.below hb) (HPT.out.1.below hb) (HPT.out.2.1.below hb)
  have HC1 : Hid (∀ W, Below w.heap.size w W → Calls Tryz.prog 84 #[.slice aV V.length cV, .slice aX X.length cX, .slice aY Y.length cY] W fun e w' => ∃ v, e = .returned v ∧ OwnS w' W.heap.size v (appL V X Y) ∧ Below W.heap.size W w') :=
    fun W hb => rturn_any W aV aX aY cV cX cY V X Y HSC.out.1.1.2 HSC.out.2.2.1 HSC.out.2.2.2 HSC.out.1.2.2 (HPF.out.2.2.below hb) (HPT.out.2.2.1.below hb) (HPT.out.2.2.2.below hb)
  have HLEN : Hid ((appL K G H).length ≤ maxLen ∧ (appL V X Y).length ≤ maxLen) := by
    have e1 := Orangery.scan_small (Orangery.scan_app K G H HSC.out.1.1.1 HSC.out.1.2.1)
    have e2 := Orangery.scan_small (Orangery.scan_app V X Y HSC.out.1.1.2 HSC.out.1.2.2)
    exact ⟨by unfold maxLen; omega, by unfold maxLen; omega⟩
  generalize hK1 : appL K G H = K1 at *
  generalize hV1 : appL V X Y = V1 at *
  have HK1 : Hid (appL K G H = K1) := hK1
  have HV1 : Hid (appL V X Y = V1) := hV1
  have HBw : Hid (Below w.heap.size w w2) := HB2
  have hsz2 : w.heap.size + 3 ≤ w2.heap.size := by have := BR2.lt; omega
  have hF := BF2
  have hT := BT2
  have hR := BR2
  clear hK1 hV1 HZ HE HPT HSC CF CT HB2 BF2 BT2 BR2
  go_upto_region 8 with fail
  go_cut [9] from 23 to 41 (fun r wc => ∃ b9 a1 c1 a2 c2, r = .pointer (some ⟨b9, 0, none⟩) ∧ Blk wc b9 [Value.slice aR R.length cR, Value.slice a1 K1.length c1, Value.slice a2 V1.length c2] ∧ SlP wc a1 K1 ∧ SlP wc a2 V1 ∧ ((a1 = none → c1 = 0) ∧ (a2 = none → c2 = 0)) ∧ (Fresh (w.heap.size + 3) a1 ∧ Fresh (w.heap.size + 3) a2) ∧ w2.heap.size ≤ b9 ∧ Below w2.heap.size w2 wc)
  case first =>
    refine wp_region_held_drew (S := fun w' => Below w2.heap.size w2 w') (by kernel_rfl) ((Below.refl _ w2).drew) (fun hHeld => ?_)
    refine take_yes 0 23 (v := ?_) rfl rfl (by kernel_rfl) (by kernel_rfl) (by kernel_rfl) (fun _ _ _ h => h) (by rfl) ?_ hHeld ?_
    rotate_left 1
    · (intro w hSw; go_simp; try with_reducible rfl)
    simp only [Act.put, List.setIfInBounds_toArray, List.set_cons_succ, List.set_cons_zero]
    refine take_yes 1 24 (v := ?_) rfl rfl (by kernel_rfl) (by kernel_rfl) (by kernel_rfl) (fun _ _ _ h => h) (by rfl) ?_ hHeld ?_
    rotate_left 1
    · (intro w hSw; have cc := (hF.keep hSw).at 0 rfl; go_simp; try with_reducible rfl)
    simp only [Act.put, List.setIfInBounds_toArray, List.set_cons_succ, List.set_cons_zero]
    refine take_yes 2 25 (v := ?_) rfl rfl (by kernel_rfl) (by kernel_rfl) (by kernel_rfl) (fun _ _ _ h => h) (by rfl) ?_ hHeld ?_
    rotate_left 1
    · (intro w hSw; go_simp; try with_reducible rfl)
    simp only [Act.put, List.setIfInBounds_toArray, List.set_cons_succ, List.set_cons_zero]
    refine take_yes 3 26 (v := ?_) rfl rfl (by kernel_rfl) (by kernel_rfl) (by kernel_rfl) (fun _ _ _ h => h) (by rfl) ?_ hHeld ?_
    rotate_left 1
    · (intro w hSw; go_simp; try with_reducible rfl)
    simp only [Act.put, List.setIfInBounds_toArray, List.set_cons_succ, List.set_cons_zero]
    refine take_yes 4 27 (v := ?_) rfl rfl (by kernel_rfl) (by kernel_rfl) (by kernel_rfl) (fun _ _ _ h => h) (by rfl) ?_ hHeld ?_
    rotate_left 1
    · (intro w hSw; have cc := (hF.keep hSw).at 1 rfl; go_simp; try with_reducible rfl)
    simp only [Act.put, List.setIfInBounds_toArray, List.set_cons_succ, List.set_cons_zero]
    refine take_yes 5 28 (v := ?_) rfl rfl (by kernel_rfl) (by kernel_rfl) (by kernel_rfl) (fun _ _ _ h => h) (by rfl) ?_ hHeld ?_
    rotate_left 1
    · (intro w hSw; go_simp; try with_reducible rfl)
    simp only [Act.put, List.setIfInBounds_toArray, List.set_cons_succ, List.set_cons_zero]
    refine take_yes 6 29 (v := ?_) rfl rfl (by kernel_rfl) (by kernel_rfl) (by kernel_rfl) (fun _ _ _ h => h) (by rfl) ?_ hHeld ?_
    rotate_left 1
    · (intro w hSw; have cc := (hT.keep hSw).at 0 rfl; go_simp; try with_reducible rfl)
    simp only [Act.put, List.setIfInBounds_toArray, List.set_cons_succ, List.set_cons_zero]
    refine take_yes 7 30 (v := ?_) rfl rfl (by kernel_rfl) (by kernel_rfl) (by kernel_rfl) (fun _ _ _ h => h) (by rfl) ?_ hHeld ?_
    rotate_left 1
    · (intro w hSw; go_simp; try with_reducible rfl)
    simp only [Act.put, List.setIfInBounds_toArray, List.set_cons_succ, List.set_cons_zero]
    refine take_yes 8 31 (v := ?_) rfl rfl (by kernel_rfl) (by kernel_rfl) (by kernel_rfl) (fun _ _ _ h => h) (by rfl) ?_ hHeld ?_
    rotate_left 1
    · (intro w hSw; have cc := (hT.keep hSw).at 1 rfl; go_simp; try with_reducible rfl)
    simp only [Act.put, List.setIfInBounds_toArray, List.set_cons_succ, List.set_cons_zero]
    refine take_yes 10 33 (v := ?_) rfl rfl (by kernel_rfl) (by kernel_rfl) (by kernel_rfl) (fun _ _ _ h => h) (by rfl) ?_ hHeld ?_
    rotate_left 1
    · (intro w hSw; go_simp; try with_reducible rfl)
    simp only [Act.put, List.setIfInBounds_toArray, List.set_cons_succ, List.set_cons_zero]
    refine take_yes 11 34 (v := ?_) rfl rfl (by kernel_rfl) (by kernel_rfl) (by kernel_rfl) (fun _ _ _ h => h) (by rfl) ?_ hHeld ?_
    rotate_left 1
    · (intro w hSw; go_simp; try with_reducible rfl)
    simp only [Act.put, List.setIfInBounds_toArray, List.set_cons_succ, List.set_cons_zero]
    refine take_yes 12 35 (v := ?_) rfl rfl (by kernel_rfl) (by kernel_rfl) (by kernel_rfl) (fun _ _ _ h => h) (by rfl) ?_ hHeld ?_
    rotate_left 1
    · (intro w hSw; have cc := (hF.keep hSw).at 2 rfl; go_simp; try with_reducible rfl)
    simp only [Act.put, List.setIfInBounds_toArray, List.set_cons_succ, List.set_cons_zero]
    refine take_yes 13 36 (v := ?_) rfl rfl (by kernel_rfl) (by kernel_rfl) (by kernel_rfl) (fun _ _ _ h => h) (by rfl) ?_ hHeld ?_
    rotate_left 1
    · (intro w hSw; go_simp; try with_reducible rfl)
    simp only [Act.put, List.setIfInBounds_toArray, List.set_cons_succ, List.set_cons_zero]
    refine take_yes 14 37 (v := ?_) rfl rfl (by kernel_rfl) (by kernel_rfl) (by kernel_rfl) (fun _ _ _ h => h) (by rfl) ?_ hHeld ?_
    rotate_left 1
    · (intro w hSw; have cc := (hT.keep hSw).at 2 rfl; go_simp; try with_reducible rfl)
    simp only [Act.put, List.setIfInBounds_toArray, List.set_cons_succ, List.set_cons_zero]
    refine take_yes 15 38 (v := ?_) rfl rfl (by kernel_rfl) (by kernel_rfl) (by kernel_rfl) (fun _ _ _ h => h) (by rfl) ?_ hHeld ?_
    rotate_left 1
    · (intro w hSw; go_simp; try with_reducible rfl)
    simp only [Act.put, List.setIfInBounds_toArray, List.set_cons_succ, List.set_cons_zero]
    refine take_yes 16 39 (v := ?_) rfl rfl (by kernel_rfl) (by kernel_rfl) (by kernel_rfl) (fun _ _ _ h => h) (by rfl) ?_ hHeld ?_
    rotate_left 1
    · (intro w hSw; have cc := (hT.keep hSw).at 3 rfl; go_simp; try with_reducible rfl)
    simp only [Act.put, List.setIfInBounds_toArray, List.set_cons_succ, List.set_cons_zero]
    refine wpAnyH_ready (rs := [9, 19]) (by kernel_rfl) (by simp) ?_
    refine AllReadyH.cons rfl (fun KK hKK => ?_) (AllReadyH.cons rfl (fun KK hKK => ?_) AllReadyH.nil)
    · skip
      go_simp
      refine (HC0.out _ (HBw.out.trans (hHeld.mono HBw.out.size))).mono ?_
      rintro e wa1 ⟨v1, rfl, hO1_1, hb1⟩
      have hS1 : Below w2.heap.size w2 wa1 := hHeld.trans (hb1.mono hHeld.size)
      obtain ⟨a1, c1, rfl⟩ := hO1_1.val
      have p1_1 := hO1_1.whole
      have nn1 := p1_1.2.1
      have ff1 := p1_1.2.2
      replace p1_1 := p1_1.1
      have lo1 : w2.heap.size ≤ w2.drew.heap.size := hHeld.size
      go_wp2_with fail
      refine hKK.out _ _ (hS1) (fun hHeld => ?_)
      clear hKK KK
      refine wpAnyH_ready (rs := [17, 19]) (by kernel_rfl) (by simp) ?_
      refine AllReadyH.cons rfl (fun KK hKK => ?_) (AllReadyH.cons rfl (fun KK hKK => ?_) AllReadyH.nil)
      · skip
        go_simp
        refine (HC1.out _ (HBw.out.trans (hHeld.mono HBw.out.size))).mono ?_
        rintro e wa2 ⟨v2, rfl, hO2_2, hb2⟩
        have hS2 : Below w2.heap.size w2 wa2 := hHeld.trans (hb2.mono hHeld.size)
        obtain ⟨a2, c2, rfl⟩ := hO2_2.val
        have p2_2 := hO2_2.whole
        have nn2 := p2_2.2.1
        have ff2 := p2_2.2.2
        replace p2_2 := p2_2.1
        have lo2 : w2.heap.size ≤ wa1.heap.size := hHeld.size
        go_wp2_with fail
        have p1_2 := p1_1.below hb2
        refine hKK.out _ _ (hS2) (fun hHeld => ?_)
        clear hKK KK
        refine take_yes 18 41 (v := ?_) rfl rfl (by kernel_rfl) (by kernel_rfl) (by kernel_rfl) (fun _ _ _ h => h) (by rfl) ?_ hHeld ?_
        rotate_left 1
        · (intro w hSw; go_simp; try with_reducible rfl)
        simp only [Act.put, List.setIfInBounds_toArray, List.set_cons_succ, List.set_cons_zero]
        refine wpAnyH_ready (rs := [19]) (by kernel_rfl) (by simp) ?_
        refine AllReadyH.cons rfl (fun KK hKK => ?_) AllReadyH.nil
        go_simp
        obtain ⟨wa3, hWa, hN_3, hb3, hsz_⟩ := laid1 wa2 [Value.slice none 0 0, Value.slice none 0 0, Value.slice none 0 0] 26
        have hS3 : Below w2.heap.size w2 wa3 := hHeld.trans (hb3.mono hHeld.size)
        rw [hWa]
        clear hWa hsz_
        have lo9 : w2.heap.size ≤ wa2.heap.size := hHeld.size
        have p1_3 := p1_2.below hb3
        have p2_3 := p2_2.below hb3
        refine hKK.out _ _ (hS3) (fun hHeld => ?_)
        clear hKK KK
        refine step_store 20 26 wa2.heap.size [Value.slice aR R.length cR, Value.slice a1 K1.length c1, Value.slice a2 V1.length c2] (by kernel_rfl) rfl rfl (by rfl) (by rfl) (by rfl) (by rfl) hN_3.there sizeView ?_ ?_ ?_
        · intro v hv; simp at hv; rcases hv with rfl | rfl | rfl <;> rfl
        · exact below_sets hHeld (wa2.heap.size) lo9 [Value.slice aR R.length cR, Value.slice a1 K1.length c1, Value.slice a2 V1.length c2] 0
        have hHeld := below_sets hHeld (wa2.heap.size) lo9 [Value.slice aR R.length cR, Value.slice a1 K1.length c1, Value.slice a2 V1.length c2] 0
        refine wpAnyH_done (by kernel_rfl) ?_ _
        have HHeld : Hid (Below w2.heap.size w2 (wa3.setCells wa2.heap.size 0 [Value.slice aR R.length cR, Value.slice a1 K1.length c1, Value.slice a2 V1.length c2])) := hHeld
        clear hHeld
        have s1 : SlP (wa3.setCells wa2.heap.size 0 [Value.slice aR R.length cR, Value.slice a1 K1.length c1, Value.slice a2 V1.length c2]) a1 K1 := SlP.elder p1_2 p1_3 (Nat.le_refl _) _ 0
        have s2 : SlP (wa3.setCells wa2.heap.size 0 [Value.slice aR R.length cR, Value.slice a1 K1.length c1, Value.slice a2 V1.length c2]) a2 V1 := SlP.elder p2_2 p2_3 (Nat.le_refl _) _ 0
        have q1 : Fresh (w.heap.size + 3) a1 := ff1.mono (Nat.le_trans hsz2 lo1)
        have q2 : Fresh (w.heap.size + 3) a2 := ff2.mono (Nat.le_trans hsz2 lo2)
        go_wp2
        go_meet
        case rel => exact ⟨_, a1, c1, a2, c2, rfl, hN_3.sets [Value.slice aR R.length cR, Value.slice a1 K1.length c1, Value.slice a2 V1.length c2] rfl, s1, s2, ⟨nn1, nn2⟩, ⟨q1, q2⟩, lo9, HHeld.out⟩
      · skip
        go_simp
        obtain ⟨wa2, hWa, hN_2, hb2, hsz_⟩ := laid1 wa1 [Value.slice none 0 0, Value.slice none 0 0, Value.slice none 0 0] 26
        have hS2 : Below w2.heap.size w2 wa2 := hHeld.trans (hb2.mono hHeld.size)
        rw [hWa]
        clear hWa hsz_
        have lo9 : w2.heap.size ≤ wa1.heap.size := hHeld.size
        have p1_2 := p1_1.below hb2
        refine hKK.out _ _ (hS2) (fun hHeld => ?_)
        clear hKK KK
        refine wpAnyH_ready (rs := [17]) (by kernel_rfl) (by simp) ?_
        refine AllReadyH.cons rfl (fun KK hKK => ?_) AllReadyH.nil
        go_simp
        refine (HC1.out _ (HBw.out.trans (hHeld.mono HBw.out.size))).mono ?_
        rintro e wa3 ⟨v2, rfl, hO2_3, hb3⟩
        have hS3 : Below w2.heap.size w2 wa3 := hHeld.trans (hb3.mono hHeld.size)
        obtain ⟨a2, c2, rfl⟩ := hO2_3.val
        have p2_3 := hO2_3.whole
        have nn2 := p2_3.2.1
        have ff2 := p2_3.2.2
        replace p2_3 := p2_3.1
        have lo2 : w2.heap.size ≤ wa2.heap.size := hHeld.size
        go_wp2_with fail
        have p1_3 := p1_2.below hb3
        have hN_3 := hN_2.keep hb3
        refine hKK.out _ _ (hS3) (fun hHeld => ?_)
        clear hKK KK
        refine take_yes 18 41 (v := ?_) rfl rfl (by kernel_rfl) (by kernel_rfl) (by kernel_rfl) (fun _ _ _ h => h) (by rfl) ?_ hHeld ?_
        rotate_left 1
        · (intro w hSw; go_simp; try with_reducible rfl)
        simp only [Act.put, List.setIfInBounds_toArray, List.set_cons_succ, List.set_cons_zero]
        refine step_store 20 26 wa1.heap.size [Value.slice aR R.length cR, Value.slice a1 K1.length c1, Value.slice a2 V1.length c2] (by kernel_rfl) rfl rfl (by rfl) (by rfl) (by rfl) (by rfl) hN_3.there sizeView ?_ ?_ ?_
        · intro v hv; simp at hv; rcases hv with rfl | rfl | rfl <;> rfl
        · exact below_sets hHeld (wa1.heap.size) lo9 [Value.slice aR R.length cR, Value.slice a1 K1.length c1, Value.slice a2 V1.length c2] 0
        have hHeld := below_sets hHeld (wa1.heap.size) lo9 [Value.slice aR R.length cR, Value.slice a1 K1.length c1, Value.slice a2 V1.length c2] 0
        refine wpAnyH_done (by kernel_rfl) ?_ _
        have HHeld : Hid (Below w2.heap.size w2 (wa3.setCells wa1.heap.size 0 [Value.slice aR R.length cR, Value.slice a1 K1.length c1, Value.slice a2 V1.length c2])) := hHeld
        clear hHeld
        have s1 : SlP (wa3.setCells wa1.heap.size 0 [Value.slice aR R.length cR, Value.slice a1 K1.length c1, Value.slice a2 V1.length c2]) a1 K1 := SlP.elder p1_1 p1_3 (Nat.le_refl _) _ 0
        have s2 : SlP (wa3.setCells wa1.heap.size 0 [Value.slice aR R.length cR, Value.slice a1 K1.length c1, Value.slice a2 V1.length c2]) a2 V1 := SlP.apart p2_3 ff2 hN_2.lt _ 0
        have q1 : Fresh (w.heap.size + 3) a1 := ff1.mono (Nat.le_trans hsz2 lo1)
        have q2 : Fresh (w.heap.size + 3) a2 := ff2.mono (Nat.le_trans hsz2 lo2)
        go_wp2
        go_meet
        case rel => exact ⟨_, a1, c1, a2, c2, rfl, hN_3.sets [Value.slice aR R.length cR, Value.slice a1 K1.length c1, Value.slice a2 V1.length c2] rfl, s1, s2, ⟨nn1, nn2⟩, ⟨q1, q2⟩, lo9, HHeld.out⟩
    · skip
      go_simp
      obtain ⟨WA, hWa, hNa, hba, hsz_⟩ := laid1 w2 [Value.slice none 0 0, Value.slice none 0 0, Value.slice none 0 0] 26
      rw [hWa]
      have hS1 : Below w2.heap.size w2 WA.drew := hba.drew
      have hN_1 : Blk WA.drew w2.heap.size [Value.slice none 0 0, Value.slice none 0 0, Value.slice none 0 0] := hNa.drew
      clear hNa hba hsz_ hWa
      generalize WA.drew = wa1 at *
      have lo9 : w2.heap.size ≤ w2.heap.size := Nat.le_refl _
      refine hKK.out _ _ (hS1) (fun hHeld => ?_)
      clear hKK KK
      refine wpAnyH_ready (rs := [9]) (by kernel_rfl) (by simp) ?_
      refine AllReadyH.cons rfl (fun KK hKK => ?_) AllReadyH.nil
      go_simp
      refine (HC0.out _ (HBw.out.trans (hHeld.mono HBw.out.size))).mono ?_
      rintro e wa2 ⟨v1, rfl, hO1_2, hb2⟩
      have hS2 : Below w2.heap.size w2 wa2 := hHeld.trans (hb2.mono hHeld.size)
      obtain ⟨a1, c1, rfl⟩ := hO1_2.val
      have p1_2 := hO1_2.whole
      have nn1 := p1_2.2.1
      have ff1 := p1_2.2.2
      replace p1_2 := p1_2.1
      have lo1 : w2.heap.size ≤ wa1.heap.size := hHeld.size
      go_wp2_with fail
      have hN_2 := hN_1.keep hb2
      refine hKK.out _ _ (hS2) (fun hHeld => ?_)
      clear hKK KK
      refine wpAnyH_ready (rs := [17]) (by kernel_rfl) (by simp) ?_
      refine AllReadyH.cons rfl (fun KK hKK => ?_) AllReadyH.nil
      go_simp
      refine (HC1.out _ (HBw.out.trans (hHeld.mono HBw.out.size))).mono ?_
      rintro e wa3 ⟨v2, rfl, hO2_3, hb3⟩
      have hS3 : Below w2.heap.size w2 wa3 := hHeld.trans (hb3.mono hHeld.size)
      obtain ⟨a2, c2, rfl⟩ := hO2_3.val
      have p2_3 := hO2_3.whole
      have nn2 := p2_3.2.1
      have ff2 := p2_3.2.2
      replace p2_3 := p2_3.1
      have lo2 : w2.heap.size ≤ wa2.heap.size := hHeld.size
      go_wp2_with fail
      have p1_3 := p1_2.below hb3
      have hN_3 := hN_2.keep hb3
      refine hKK.out _ _ (hS3) (fun hHeld => ?_)
      clear hKK KK
      refine take_yes 18 41 (v := ?_) rfl rfl (by kernel_rfl) (by kernel_rfl) (by kernel_rfl) (fun _ _ _ h => h) (by rfl) ?_ hHeld ?_
      rotate_left 1
      · (intro w hSw; go_simp; try with_reducible rfl)
      simp only [Act.put, List.setIfInBounds_toArray, List.set_cons_succ, List.set_cons_zero]
      refine step_store 20 26 w2.heap.size [Value.slice aR R.length cR, Value.slice a1 K1.length c1, Value.slice a2 V1.length c2] (by kernel_rfl) rfl rfl (by rfl) (by rfl) (by rfl) (by rfl) hN_3.there sizeView ?_ ?_ ?_
      · intro v hv; simp at hv; rcases hv with rfl | rfl | rfl <;> rfl
      · exact below_sets hHeld (w2.heap.size) lo9 [Value.slice aR R.length cR, Value.slice a1 K1.length c1, Value.slice a2 V1.length c2] 0
      have hHeld := below_sets hHeld (w2.heap.size) lo9 [Value.slice aR R.length cR, Value.slice a1 K1.length c1, Value.slice a2 V1.length c2] 0
      refine wpAnyH_done (by kernel_rfl) ?_ _
      have HHeld : Hid (Below w2.heap.size w2 (wa3.setCells w2.heap.size 0 [Value.slice aR R.length cR, Value.slice a1 K1.length c1, Value.slice a2 V1.length c2])) := hHeld
      clear hHeld
      have s1 : SlP (wa3.setCells w2.heap.size 0 [Value.slice aR R.length cR, Value.slice a1 K1.length c1, Value.slice a2 V1.length c2]) a1 K1 := SlP.apart p1_3 ff1 hN_1.lt _ 0
      have s2 : SlP (wa3.setCells w2.heap.size 0 [Value.slice aR R.length cR, Value.slice a1 K1.length c1, Value.slice a2 V1.length c2]) a2 V1 := SlP.apart p2_3 ff2 hN_2.lt _ 0
      have q1 : Fresh (w.heap.size + 3) a1 := ff1.mono (Nat.le_trans hsz2 lo1)
      have q2 : Fresh (w.heap.size + 3) a2 := ff2.mono (Nat.le_trans hsz2 lo2)
      go_wp2
      go_meet
      case rel => exact ⟨_, a1, c1, a2, c2, rfl, hN_3.sets [Value.slice aR R.length cR, Value.slice a1 K1.length c1, Value.slice a2 V1.length c2] rfl, s1, s2, ⟨nn1, nn2⟩, ⟨q1, q2⟩, lo9, HHeld.out⟩
  case rest =>
    obtain ⟨b9, a1, c1, a2, c2, rfl, hM, hs1, hs2, hnn, hff, hlo9, hbc⟩ := hcut
    have HN2 : Hid ((a1 = none → c1 = 0) ∧ (a2 = none → c2 = 0)) := hnn
    have HFR : Hid (Fresh (w.heap.size + 3) a1 ∧ Fresh (w.heap.size + 3) a2) := hff
    have HBc : Hid (Below w.heap.size w wc) := HBw.out.trans (hbc.mono HBw.out.size)
    have hRc := hR.keep hbc
    have hI := HPF.out.1.below HBc.out
    have m0 := hM.at 0 rfl
    have m1 := hM.at 1 rfl
    have m2 := hM.at 2 rfl
    clear hF hT hR hbc hnn hff HC0 HC1
    go_wp2_with fail
    refine (rcheckV_any wc aR a1 a2 cR c1 c2 R K1 V1 HM.out.1.1 HLEN.out.1 HLEN.out.2 HN2.out.1 HN2.out.2 hI hs1 hs2).mono ?_
    rintro e wd ⟨rfl, hbd⟩
    have HBd : Hid (Below w.heap.size w wd) := HBc.out.trans (hbd.mono HBc.out.size)
    have hRd := hRc.keep hbd
    have hMd := hM.keep hbd
    have hs1d := hs1.below hbd
    have hs2d := hs2.below hbd
    have hId := hI.below hbd
    clear m0 m1 m2 hM hs1 hs2 hRc hbd hI HBc
    by_cases hz : ¬ viewE R K1 V1 = 0
    · have hz' : (viewE R K1 V1 != 0) = true := by simpa using hz
      have HF : Hid (apE R K V G H X Y = viewE R K1 V1) := HE2.out
      have HNZ : Hid (viewE R K1 V1 ≠ 0) := hz
      generalize viewE R K1 V1 = E at *
      have HRZ : Hid (Blk (wd.setCells (w.heap.size + 1 + 1) 0 [Value.slice none 0 0, Value.slice none 0 0, Value.slice none 0 0]) (w.heap.size + 1 + 1) [Value.slice none 0 0, Value.slice none 0 0, Value.slice none 0 0]) := hRd.sets _ rfl
      have y0 := hRd.at 0 rfl
      have y1 := hRd.at 1 rfl
      have y2 := hRd.at 2 rfl
      have yf := hRd.frz
      clear hz hMd hRd hId hs1d hs2d HE2
      go_wp2
      exact ret_cell_tmp Tryz.results51 rfl rfl (HRZ.out.load Tryz.underlying26 rfl sizeView) (BAD.out E wd HBd.out HNZ.out HF.out _ rfl)
    replace hz := Decidable.of_not_not hz
    have HF0 : Hid (apE R K V G H X Y = 0) := by show _ = _; rw [HE2.out, hz]
    rw [hz]
    have HRf : Hid (Blk (wd.setCells (w.heap.size + 1 + 1) 0 [Value.slice aR R.length cR, Value.slice a1 K1.length c1, Value.slice a2 V1.length c2]) (w.heap.size + 1 + 1) [Value.slice aR R.length cR, Value.slice a1 K1.length c1, Value.slice a2 V1.length c2]) := hRd.sets _ rfl
    have m0 := hMd.at 0 rfl
    have m1 := hMd.at 1 rfl
    have m2 := hMd.at 2 rfl
    have y0 := hRd.at 0 rfl
    have y1 := hRd.at 1 rfl
    have y2 := hRd.at 2 rfl
    have yf := hRd.frz
    have hne : ¬ b9 = w.heap.size + 1 + 1 := by omega
    have HFIN : Hid (SlI (wd.setCells (w.heap.size + 1 + 1) 0 [Value.slice aR R.length cR, Value.slice a1 K1.length c1, Value.slice a2 V1.length c2]) aR R ∧ SlP (wd.setCells (w.heap.size + 1 + 1) 0 [Value.slice aR R.length cR, Value.slice a1 K1.length c1, Value.slice a2 V1.length c2]) a1 K1 ∧ SlP (wd.setCells (w.heap.size + 1 + 1) 0 [Value.slice aR R.length cR, Value.slice a1 K1.length c1, Value.slice a2 V1.length c2]) a2 V1) := ⟨SlI.elder HPF.out.1 hId (by omega) _ 0, SlP.apart hs1d HFR.out.1 (by omega) _ 0, SlP.apart hs2d HFR.out.2 (by omega) _ 0⟩
    clear hz hMd hRd hId hs1d hs2d HE2
    go_wp2
    refine ret_cell_tmp Tryz.results51 rfl rfl (HRf.out.load Tryz.underlying26 rfl sizeView) ?_
    unfold Views
    rw [HF0.out, Orangery.ap_ok rfl, Orangery.al_ok rfl, Orangery.al_ok rfl, HK1.out, HV1.out]
    exact ⟨aR, a1, a2, cR, c1, c2, rfl, HN2.out, ⟨HFR.out.1.mono (by omega), HFR.out.2.mono (by omega), Or.inl rfl⟩, HFIN.out.1, HFIN.out.2.1, HFIN.out.2.2, below_sets HBd.out (w.heap.size + 1 + 1) (by omega) [Value.slice aR R.length cR, Value.slice a1 K1.length c1, Value.slice a2 V1.length c2] 0⟩
end Go.Proofs.YtijjiccgpobjmaeGreat

