/- 1 texts of the proof: delta.Apply. -/
import Derived.Test.YtijjiccgpobjmaeGreatP10
import Derived.Test.YtijjiccgpobjmaeGreatP15
/- delta.Apply. -/
namespace Go.Proofs.YtijjiccgpobjmaeGreat
open Go.ChangeShapes Go.WideShapes Go.ChangeAt Go.RowKit
open Orangery (Pl viewE orI deltaE apE apR apL appL scan)

theorem OwnS.whole {W : World} {base : Nat} {a : Option Addr} {n c : Nat} {K : List Pl} (h : OwnS W base (.slice a n c) K) : SlP W a K ∧ (a = none → c = 0) ∧ Fresh base a := OwnE.reads (show OwnE encPl 3 47 W base (.slice a n c) K from h.row)

set_option maxHeartbeats 4000000 in
set_option maxRecDepth 100000 in
theorem apply_any (w : World) (aR aK aV aG aH aX aY : Option Addr) (cR cK cV cG cH cX cY : Nat) (R : List Int) (K V : List Pl) (G : List Int) (H : List Pl) (X : List Int) (Y : List Pl)
    (hm : (R.length ≤ maxLen ∧ K.length ≤ maxLen ∧ V.length ≤ maxLen) ∧ G.length ≤ maxLen ∧ H.length ≤ maxLen ∧ X.length ≤ maxLen ∧ Y.length ≤ maxLen)
    (hc : (aV = none → cV = 0) ∧ (aH = none → cH = 0) ∧ (aY = none → cY = 0)) (h1 : SlI w aR R) (h2 : SlP w aK K) (h3 : SlP w aV V) (h4 : SlI w aG G) (h5 : SlP w aH H) (h6 : SlI w aX X) (h7 : SlP w aY Y) :
    Calls Tryz.prog 81 #[viV (.slice aR R.length cR) (.slice aK K.length cK) (.slice aV V.length cV), deV (.slice aG G.length cG) (.slice aH H.length cH) (.slice aX X.length cX) (.slice aY Y.length cY)] w
      (Views w aR (apR (apE R K V G H X Y) R) (apL (apE R K V G H X Y) K G H) (apL (apE R K V G H X Y) V X Y) (apE R K V G H X Y)) := by
  obtain ⟨W0, hW, hF, hT, hR, hB, hS⟩ := laid3 w [Value.slice aR R.length cR, Value.slice aK K.length cK, Value.slice aV V.length cV] 26 [Value.slice aG G.length cG, Value.slice aH H.length cH, Value.slice aX X.length cX, Value.slice aY Y.length cY] 50 [Value.slice none 0 0, Value.slice none 0 0, Value.slice none 0 0] 26
  have HM : Hid ((R.length ≤ maxLen ∧ K.length ≤ maxLen ∧ V.length ≤ maxLen) ∧ G.length ≤ maxLen ∧ H.length ≤ maxLen ∧ X.length ≤ maxLen ∧ Y.length ≤ maxLen) := hm
  have HC : Hid ((aV = none → cV = 0) ∧ (aH = none → cH = 0) ∧ (aY = none → cY = 0)) := hc
  have HPF : Hid (SlI w aR R ∧ SlP w aK K ∧ SlP w aV V) := ⟨h1, h2, h3⟩
  have HPT : Hid (SlI w aG G ∧ SlP w aH H ∧ SlI w aX X ∧ SlP w aY Y) := ⟨h4, h5, h6, h7⟩
  have HB : Hid (Below w.heap.size w W0) := hB
  have CF : Hid (∀ W, Below w.heap.size w W → Calls Tryz.prog 39 #[viV (.slice aR R.length cR) (.slice aK K.length cK) (.slice aV V.length cV)] W fun e w' => e = .returned (.int .i64 (viewE R K V)) ∧ Below W.heap.size W w') :=
    fun W hb => vcheck_any W aR aK aV cR cK cV R K V HM.out.1.1 HM.out.1.2.1 HM.out.1.2.2 HC.out.1 (HPF.out.1.below hb) (HPF.out.2.1.below hb) (HPF.out.2.2.below hb)
  have CT : Hid (∀ W, Below w.heap.size w W → Calls Tryz.prog 109 #[deV (.slice aG G.length cG) (.slice aH H.length cH) (.slice aX X.length cX) (.slice aY Y.length cY)] W fun e w' => e = .returned (.int .i64 (deltaE G H X Y)) ∧ Below W.heap.size W w') :=
    fun W hb => dcheck_any W aG aH aX aY cG cH cX cY G H X Y HM.out.2 (HPT.out.1.below hb) (HPT.out.2.1.below hb) (HPT.out.2.2.1.below hb) (HPT.out.2.2.2.below hb)
  have HE : Hid (apE R K V G H X Y = if orI (viewE R K V) (deltaE G H X Y) ≠ 0 then orI (viewE R K V) (deltaE G H X Y) else viewE R (appL K G H) (appL V X Y)) := rfl
  have HZ : Hid (orI (viewE R K V) (deltaE G H X Y) = 0 → R.length ≤ 4 ∧ (scan 0 K = 0 ∧ scan 0 V = 0) ∧ scan 0 H = 0 ∧ scan 0 Y = 0) := fun h => by
    obtain ⟨e1, e2⟩ := Orangery.orI_zero h
    rw [Orangery.delta_or] at e2
    obtain ⟨e3, e4⟩ := Orangery.orI_zero e2
    exact ⟨Orangery.rootsOk_len (Orangery.view_parts e1).1, Orangery.view_scan e1, (Orangery.half_zero e3).2.2.2, (Orangery.half_zero e4).2.2.2⟩
  generalize viewE R K V = E1 at *
  generalize deltaE G H X Y = E2 at *
  clear h1 h2 h3 h4 h5 h6 h7 hm hc hB
  go_enter Tryz.func81, Tryz.ntmps81
  go_upto_region 1 with fail
  clear hW
  refine wp_region_held_drew (S := fun w' => Below W0.heap.size W0 w') (by kernel_rfl) ((Below.refl _ W0).drew) (fun hHeld => ?_)
  refine take_load 0 12 26 w.heap.size [Value.slice aR R.length cR, Value.slice aK K.length cK, Value.slice aV V.length cV] rfl rfl (by kernel_rfl) (by kernel_rfl) (by kernel_rfl) (fun _ _ _ h => h) (by rfl) (by rfl) (by rfl) (fun w hw => (hF.keep hw).range) Tryz.underlying26 rfl sizeView hHeld ?_
  simp only [Act.put, List.setIfInBounds_toArray, List.set_cons_succ, List.set_cons_zero]
  refine take_load 2 14 50 (w.heap.size + 1) [Value.slice aG G.length cG, Value.slice aH H.length cH, Value.slice aX X.length cX, Value.slice aY Y.length cY] rfl rfl (by kernel_rfl) (by kernel_rfl) (by kernel_rfl) (fun _ _ _ h => h) (by rfl) (by rfl) (by rfl) (fun w hw => (hT.keep hw).range) Tryz.underlying50 rfl sizeDelta hHeld ?_
  simp only [Act.put, List.setIfInBounds_toArray, List.set_cons_succ, List.set_cons_zero]
  refine wpAnyH_ready (rs := [1]) (by kernel_rfl) (by simp) ?_
  refine AllReadyH.cons rfl (fun KK hKK => ?_) AllReadyH.nil
  go_simp
  refine (CF.out _ (HB.out.trans (hHeld.mono HB.out.size))).mono ?_
  rintro e w1 ⟨rfl, hb1⟩
  have hS1 : Below W0.heap.size W0 w1 := hHeld.trans (hb1.mono hHeld.size)
  go_wp2_with fail
  refine hKK.out _ _ (hS1) (fun hHeld => ?_)
  clear hKK KK
  refine wpAnyH_ready (rs := [3]) (by kernel_rfl) (by simp) ?_
  refine AllReadyH.cons rfl (fun KK hKK => ?_) AllReadyH.nil
  go_simp
  refine (CT.out _ (HB.out.trans (hHeld.mono HB.out.size))).mono ?_
  rintro e w2 ⟨rfl, hb2⟩
  have hS2 : Below W0.heap.size W0 w2 := hHeld.trans (hb2.mono hHeld.size)
  go_wp2_with fail
  refine hKK.out _ _ (hS2) (fun hHeld => ?_)
  clear hKK KK
  refine wpAnyH_ready (rs := [4]) (by kernel_rfl) (by simp) ?_
  refine AllReadyH.cons rfl (fun KK hKK => ?_) AllReadyH.nil
  go_simp
  have hN2 := Blk.new w2 [Value.int IntKind.i64 E1, Value.int IntKind.i64 E2] 33
  refine hKK.out _ _ (hHeld.alloc hHeld.size _) (fun hHeld => ?_)
  clear hKK KK
  refine wpAnyH_ready (rs := [5]) (by kernel_rfl) (by simp) ?_
  refine AllReadyH.cons rfl (fun KK hKK => ?_) AllReadyH.nil
  go_simp
  refine (orE_any _ w2.heap.size 2 E1 E2 (hN2.at 0 rfl) (hN2.at 1 rfl)).mono ?_
  rintro e _ ⟨rfl, rfl⟩
  go_wp2_with fail
  refine hKK.out _ _ (hHeld) (fun hHeld => ?_)
  clear hKK KK
  refine take_yes 6 6 (v := ?_) rfl rfl (by kernel_rfl) (by kernel_rfl) (by kernel_rfl) (fun _ _ _ h => h) (by rfl) ?_ hHeld ?_
  rotate_left 1
  · (intro w hSw; go_simp; try with_reducible rfl)
  simp only [Act.put, List.setIfInBounds_toArray, List.set_cons_succ, List.set_cons_zero]
  refine wpAnyH_done (by kernel_rfl) ?_ _
  have hb3 : Below W0.heap.size W0 (w2.alloc (Obj.cells #[Value.int IntKind.i64 E1, Value.int IntKind.i64 E2] 33)) := hHeld
  clear hS1 hS2 hb1 hb2 hN2 hHeld
  generalize w2.alloc (Obj.cells #[Value.int IntKind.i64 E1, Value.int IntKind.i64 E2] 33) = w3 at *
  have hF3 := hF.keep hb3
  have hT3 := hT.keep hb3
  have hR3 := hR.keep hb3
  have HB3 : Hid (Below w.heap.size w w3) := HB.out.trans (hb3.mono HB.out.size)
  have hlt3 : w.heap.size + 3 ≤ w3.heap.size := by have := hb3.size; omega
  clear hF hT hR hb3 CF CT HB
  have BAD : Hid (∀ (E : Int) (W : World), Below w.heap.size w W → E ≠ 0 → apE R K V G H X Y = E → ∀ W', W' = W.setCells (w.heap.size + 1 + 1) 0 [Value.slice none 0 0, Value.slice none 0 0, Value.slice none 0 0] → Views w aR (apR (apE R K V G H X Y) R) (apL (apE R K V G H X Y) K G H) (apL (apE R K V G H X Y) V X Y) (apE R K V G H X Y) (.returned (.tuple #[viV (.slice none 0 0) (.slice none 0 0) (.slice none 0 0), .int .i64 E])) W') := by
    rintro E W hb h1 h2 W' rfl
    rw [h2, Orangery.ap_bad h1, Orangery.al_bad h1, Orangery.al_bad h1]
    exact ⟨none, none, none, 0, 0, 0, rfl, ⟨fun _ => rfl, fun _ => rfl⟩, ⟨Fresh.none, Fresh.none, Or.inr Fresh.none⟩, Or.inl rfl, Or.inl rfl, Or.inl rfl, below_sets hb _ (by omega) _ 0⟩
  by_cases hz : orI E1 E2 = 0
  · have HSC : Hid (R.length ≤ 4 ∧ (scan 0 K = 0 ∧ scan 0 V = 0) ∧ scan 0 H = 0 ∧ scan 0 Y = 0) := HZ.out hz
    have HE2 : Hid (apE R K V G H X Y = viewE R (appL K G H) (appL V X Y)) := by show _ = _; rw [HE.out, if_neg (by simp [hz])]
    rw [hz]
    clear hz HZ HE
    have f0 := hF3.at 0 rfl
    have f1 := hF3.at 1 rfl
    have f2 := hF3.at 2 rfl
    go_wp2_with fail
    clear f0 f1 f2
    refine (partsOf_any w3 (.slice aR R.length cR) aK aV K.length V.length cK cV).mono ?_
    rintro e w4 ⟨rfl, hb4⟩
    obtain ⟨W5, hW5, hX7, hB5, hsz5⟩ := laid1 w4 [Value.slice aK K.length cK, Value.slice aV V.length cV] 133
    have hb5 : Below w3.heap.size w3 W5 := hb4.trans (hB5.mono hb4.size)
    have hF5 := hF3.keep hb5
    have hT5 := hT3.keep hb5
    have hR5 := hR3.keep hb5
    have HB5 : Hid (Below w.heap.size w W5) := HB3.out.trans (hb5.mono HB3.out.size)
    have hlt4 : w.heap.size + 3 ≤ w4.heap.size := by have := hb4.size; omega
    clear hF3 hT3 hR3 hb4 hB5 hb5 HB3
    have d0 := hT5.at 0 rfl
    have d1 := hT5.at 1 rfl
    have d2 := hT5.at 2 rfl
    have d3 := hT5.at 3 rfl
    go_wp2_with fail
    clear hW5 d0 d1 d2 d3
    refine (changesOf_any W5 aG aH aX aY G.length H.length X.length Y.length cG cH cX cY).mono ?_
    rintro e w6 ⟨rfl, hb6⟩
    have HX7 : Hid (Blk w6 w4.heap.size [Value.slice aK K.length cK, Value.slice aV V.length cV]) := hX7.keep hb6
    have HF6 : Hid (Blk w6 w.heap.size [Value.slice aR R.length cR, Value.slice aK K.length cK, Value.slice aV V.length cV]) := hF5.keep hb6
    have HR6 : Hid (Blk w6 (w.heap.size + 1 + 1) [Value.slice none 0 0, Value.slice none 0 0, Value.slice none 0 0]) := hR5.keep hb6
    have HB6 : Hid (Below w.heap.size w w6) := HB5.out.trans (hb6.mono HB5.out.size)
    have hsz6 : w4.heap.size < w6.heap.size := by have := hb6.size; omega
    have hix := fun W => run_index_changes (.slice aG G.length cG) (.slice aH H.length cH) (.slice aX X.length cX) (.slice aY Y.length cY) W
    have HCALL0 : Hid (∀ W, Below w.heap.size w W → Calls Tryz.prog 112 #[.slice aK K.length cK, .agg #[.slice aG G.length cG, .slice aH H.length cH]] W fun e w' => ∃ v, e = .returned v ∧ OwnS w' W.heap.size v (appL K G H) ∧ Below W.heap.size W w') :=
      fun W hb => changed_any W aK aG aH cK cG cH K G H HSC.out.2.1.1 HM.out.2.1 HSC.out.2.2.1 HC.out.2.1 (HPF.out.2.1.below hb) (HPT.out.1.below hb) (HPT.out.2.1.below hb)
    have HCALL1 : Hid (∀ W, Below w.heap.size w W → Calls Tryz.prog 112 #[.slice aV V.length cV, .agg #[.slice aX X.length cX, .slice aY Y.length cY]] W fun e w' => ∃ v, e = .returned v ∧ OwnS w' W.heap.size v (appL V X Y) ∧ Below W.heap.size W w') :=
      fun W hb => changed_any W aV aX aY cV cX cY V X Y HSC.out.2.1.2 HM.out.2.2.2.1 HSC.out.2.2.2 HC.out.2.2 (HPF.out.2.2.below hb) (HPT.out.2.2.1.below hb) (HPT.out.2.2.2.below hb)
    have HLEN : Hid ((appL K G H).length ≤ maxLen ∧ (appL V X Y).length ≤ maxLen) := by
      have e1 := Orangery.scan_small (Orangery.scan_app K G H HSC.out.2.1.1 HSC.out.2.2.1)
      have e2 := Orangery.scan_small (Orangery.scan_app V X Y HSC.out.2.1.2 HSC.out.2.2.2)
      exact ⟨by unfold maxLen; omega, by unfold maxLen; omega⟩
    clear hX7 hF5 hT5 hR5 HB5 hb6 hsz5 HPT HC
    generalize hK1 : appL K G H = K1 at *
    generalize hV1 : appL V X Y = V1 at *
    have HK1 : Hid (appL K G H = K1) := hK1
    have HV1 : Hid (appL V X Y = V1) := hV1
    clear hK1 hV1
    go_wp2
    go_loopw [26] (fun i W => ∃ (k : Nat) (u v : Value), k ≤ 2 ∧ i = .int .i64 k ∧ Blk W w4.heap.size [u, v] ∧ (k ≤ 0 → u = .slice aK K.length cK) ∧ (k ≤ 1 → v = .slice aV V.length cV) ∧ (1 ≤ k → OwnS W w6.heap.size u K1) ∧ (2 ≤ k → OwnS W w6.heap.size v V1) ∧ Below w4.heap.size w6 W) (fun i _ => 2 - (intOf i).toNat)
    case atStart => exact ⟨0, _, _, by omega, rfl, HX7.out, fun _ => rfl, fun _ => rfl, by omega, by omega, Below.refl _ _⟩
    case round =>
      obtain ⟨k, u, v, hk, rfl, hX7, hu, hv, hp1, hp2, hb⟩ := hrel
      have HU : Hid (k ≤ 0 → u = .slice aK K.length cK) := hu
      have HV : Hid (k ≤ 1 → v = .slice aV V.length cV) := hv
      have HQ1 : Hid (1 ≤ k → OwnS wr w6.heap.size u K1) := hp1
      have HQ2 : Hid (2 ≤ k → OwnS wr w6.heap.size v V1) := hp2
      have hcs : k = 0 ∨ k = 1 ∨ k = 2 := by omega
      have hbw : Below w.heap.size w wr := HB6.out.trans (hb.mono (by omega))
      have hszr : w6.heap.size ≤ wr.heap.size := hb.size
      clear hp1 hp2 hu hv HX7
      rcases hcs with rfl | rfl | rfl
      · obtain rfl := HU.out (by omega)
        obtain ⟨W8, hW8, hX9, hB8, hsz8⟩ := laid1 wr [Value.slice aG G.length cG, Value.slice aH H.length cH] 136
        have hbw8 : Below w.heap.size w W8 := hbw.trans (hB8.mono hbw.size)
        have hX78 := hX7.keep hB8
        have hb8 : Below w4.heap.size w6 W8 := hb.trans (hB8.mono (by omega))
        have hne : ¬ wr.heap.size = w4.heap.size := by omega
        clear hsz8 hB8 hX7 hbw hb HQ1 HQ2 HU
        go_upto_region 8 with fail
        clear hW8
        refine wp_region_held_drew (S := fun w' => Below w4.heap.size W8 w' ∧ Blk w' wr.heap.size [Value.slice aG G.length cG, Value.slice aH H.length cH]) (by kernel_rfl) ⟨(Below.refl _ W8).drew, hX9.drew⟩ (fun hHeld => ?_)
        refine take_yes 0 30 (v := ?_) rfl rfl (by kernel_rfl) (by kernel_rfl) (by kernel_rfl) (fun _ _ _ h => h) (by rfl) ?_ hHeld ?_
        rotate_left 1
        · (intro w hSw; go_simp; try with_reducible rfl)
        simp only [Act.put, List.setIfInBounds_toArray, List.set_cons_succ, List.set_cons_zero]
        refine take_yes 1 31 (v := ?_) rfl rfl (by kernel_rfl) (by kernel_rfl) (by kernel_rfl) (fun _ _ _ h => h) (by rfl) ?_ hHeld ?_
        rotate_left 1
        · (intro w hSw; go_simp; try with_reducible rfl)
        simp only [Act.put, List.setIfInBounds_toArray, List.set_cons_succ, List.set_cons_zero]
        refine take_load 4 34 136 wr.heap.size [Value.slice aG G.length cG, Value.slice aH H.length cH] rfl rfl (by kernel_rfl) (by kernel_rfl) (by kernel_rfl) (fun _ _ _ h => h) (by rfl) (by rfl) (by rfl) (fun w hw => hw.2.range) Tryz.underlying136 rfl sizeDChange hHeld ?_
        simp only [Act.put, List.setIfInBounds_toArray, List.set_cons_succ, List.set_cons_zero]
        refine take_yes 2 32 (v := ?_) rfl rfl (by kernel_rfl) (by kernel_rfl) (by kernel_rfl) (fun _ _ _ h => h) (by rfl) ?_ hHeld ?_
        rotate_left 1
        · (intro w hSw; go_simp; try with_reducible rfl)
        simp only [Act.put, List.setIfInBounds_toArray, List.set_cons_succ, List.set_cons_zero]
        have z0 := hX78.at 0 rfl
        refine wpAnyH_ready (rs := [3]) (by kernel_rfl) (by simp) ?_
        refine AllReadyH.cons rfl (fun KK hKK => ?_) AllReadyH.nil
        go_simp
        refine hKK.out _ _ (hHeld) (fun hHeld => ?_)
        clear hKK KK
        refine wpAnyH_ready (rs := [5]) (by kernel_rfl) (by simp) ?_
        refine AllReadyH.cons rfl (fun KK hKK => ?_) AllReadyH.nil
        go_simp
        refine (HCALL0.out _ hbw8.drew).mono ?_
        rintro e w9 ⟨v9, rfl, hO9, hb9⟩
        have hb9' : Below W8.heap.size W8 w9 := ((Below.refl _ W8).drew).trans hb9
        obtain ⟨a9, c9, rfl⟩ := hO9.val
        have hX79 := hX78.keep hb9'
        have hszw : W8.heap.size ≤ w9.heap.size := hb9'.size
        have hsz68 : w6.heap.size ≤ W8.heap.size := hb8.size
        have y1 := hX79.at 0 rfl
        have yf := hX79.frz
        go_wp2_with fail
        refine hKK.out _ _ (⟨hb9'.mono (by omega), hX9.keep hb9'⟩) (fun hHeld => ?_)
        clear hKK KK
        refine take_yes 6 36 (v := ?_) rfl rfl (by kernel_rfl) (by kernel_rfl) (by kernel_rfl) (fun _ _ _ h => h) (by rfl) ?_ hHeld ?_
        rotate_left 1
        · (intro w hSw; go_simp; try with_reducible rfl)
        simp only [Act.put, List.setIfInBounds_toArray, List.set_cons_succ, List.set_cons_zero]
        have HX7f : Hid (Blk (w9.setCell ⟨w4.heap.size, 0, none⟩ (.slice a9 K1.length c9)) w4.heap.size [Value.slice a9 K1.length c9, v]) := hX79.set 0 (by simp) (.slice a9 K1.length c9)
        have HO9 : Hid (OwnS (w9.setCell ⟨w4.heap.size, 0, none⟩ (.slice a9 K1.length c9)) w6.heap.size (.slice a9 K1.length c9) K1) := (hO9.mono (base' := w6.heap.size) hsz68).other _ (by omega) _ _
        have HBf : Hid (Below w4.heap.size w6 (w9.setCell ⟨w4.heap.size, 0, none⟩ (.slice a9 K1.length c9))) := (hb8.trans (hb9'.mono (Nat.le_trans (Nat.le_of_lt hsz6) hsz68))).setCell (Nat.le_refl _) _
        have hSf : Below w4.heap.size W8 (w9.setCell ⟨w4.heap.size, 0, none⟩ (.slice a9 K1.length c9)) ∧ Blk (w9.setCell ⟨w4.heap.size, 0, none⟩ (.slice a9 K1.length c9)) wr.heap.size [Value.slice aG G.length cG, Value.slice aH H.length cH] := ⟨(hb9'.mono (Nat.le_trans (Nat.le_of_lt hsz6) hsz68)).setCell (Nat.le_refl _) _, (hX9.keep hb9').other hne _ _⟩
        refine wpAnyH_ready (rs := [7]) (by kernel_rfl) (by simp) ?_
        refine AllReadyH.cons rfl (fun KK hKK => ?_) AllReadyH.nil
        go_simp
        refine hKK.out _ _ (hSf) (fun hHeld => ?_)
        clear hKK KK
        refine wpAnyH_done (by kernel_rfl) ?_ _
        clear hHeld hSf hX78 hX79 hX9 hb8 hb9 hb9' hO9 hbw8 y1 yf z0
        go_wp2
        go_roundw
        case rel => exact ⟨1, _, _, by omega, by go_num, HX7f.out, by omega, fun _ => HV.out (by omega), fun _ => HO9.out, by omega, HBf.out⟩
        case measure => simp [intOf]
      · obtain rfl := HV.out (by omega)
        obtain ⟨W8, hW8, hX9, hB8, hsz8⟩ := laid1 wr [Value.slice aX X.length cX, Value.slice aY Y.length cY] 136
        have hbw8 : Below w.heap.size w W8 := hbw.trans (hB8.mono hbw.size)
        have hX78 := hX7.keep hB8
        have hb8 : Below w4.heap.size w6 W8 := hb.trans (hB8.mono (by omega))
        have hne : ¬ wr.heap.size = w4.heap.size := by omega
        have HQ1' : Hid (OwnS W8 w6.heap.size u K1) := (HQ1.out (by omega)).below hB8
        clear hsz8 hB8 hX7 hbw hb HQ1 HQ2 HU HV
        go_upto_region 8 with fail
        clear hW8
        refine wp_region_held_drew (S := fun w' => Below w4.heap.size W8 w' ∧ Blk w' wr.heap.size [Value.slice aX X.length cX, Value.slice aY Y.length cY]) (by kernel_rfl) ⟨(Below.refl _ W8).drew, hX9.drew⟩ (fun hHeld => ?_)
        refine take_yes 0 30 (v := ?_) rfl rfl (by kernel_rfl) (by kernel_rfl) (by kernel_rfl) (fun _ _ _ h => h) (by rfl) ?_ hHeld ?_
        rotate_left 1
        · (intro w hSw; go_simp; try with_reducible rfl)
        simp only [Act.put, List.setIfInBounds_toArray, List.set_cons_succ, List.set_cons_zero]
        refine take_yes 1 31 (v := ?_) rfl rfl (by kernel_rfl) (by kernel_rfl) (by kernel_rfl) (fun _ _ _ h => h) (by rfl) ?_ hHeld ?_
        rotate_left 1
        · (intro w hSw; go_simp; try with_reducible rfl)
        simp only [Act.put, List.setIfInBounds_toArray, List.set_cons_succ, List.set_cons_zero]
        refine take_load 4 34 136 wr.heap.size [Value.slice aX X.length cX, Value.slice aY Y.length cY] rfl rfl (by kernel_rfl) (by kernel_rfl) (by kernel_rfl) (fun _ _ _ h => h) (by rfl) (by rfl) (by rfl) (fun w hw => hw.2.range) Tryz.underlying136 rfl sizeDChange hHeld ?_
        simp only [Act.put, List.setIfInBounds_toArray, List.set_cons_succ, List.set_cons_zero]
        refine take_yes 2 32 (v := ?_) rfl rfl (by kernel_rfl) (by kernel_rfl) (by kernel_rfl) (fun _ _ _ h => h) (by rfl) ?_ hHeld ?_
        rotate_left 1
        · (intro w hSw; go_simp; try with_reducible rfl)
        simp only [Act.put, List.setIfInBounds_toArray, List.set_cons_succ, List.set_cons_zero]
        have z0 := hX78.at 1 rfl
        refine wpAnyH_ready (rs := [3]) (by kernel_rfl) (by simp) ?_
        refine AllReadyH.cons rfl (fun KK hKK => ?_) AllReadyH.nil
        go_simp
        refine hKK.out _ _ (hHeld) (fun hHeld => ?_)
        clear hKK KK
        refine wpAnyH_ready (rs := [5]) (by kernel_rfl) (by simp) ?_
        refine AllReadyH.cons rfl (fun KK hKK => ?_) AllReadyH.nil
        go_simp
        refine (HCALL1.out _ hbw8.drew).mono ?_
        rintro e w9 ⟨v9, rfl, hO9, hb9⟩
        have hb9' : Below W8.heap.size W8 w9 := ((Below.refl _ W8).drew).trans hb9
        obtain ⟨a9, c9, rfl⟩ := hO9.val
        have hX79 := hX78.keep hb9'
        have hszw : W8.heap.size ≤ w9.heap.size := hb9'.size
        have hsz68 : w6.heap.size ≤ W8.heap.size := hb8.size
        have y1 := hX79.at 1 rfl
        have yf := hX79.frz
        go_wp2_with fail
        refine hKK.out _ _ (⟨hb9'.mono (by omega), hX9.keep hb9'⟩) (fun hHeld => ?_)
        clear hKK KK
        refine take_yes 6 36 (v := ?_) rfl rfl (by kernel_rfl) (by kernel_rfl) (by kernel_rfl) (fun _ _ _ h => h) (by rfl) ?_ hHeld ?_
        rotate_left 1
        · (intro w hSw; go_simp; try with_reducible rfl)
        simp only [Act.put, List.setIfInBounds_toArray, List.set_cons_succ, List.set_cons_zero]
        have HX7f : Hid (Blk (w9.setCell ⟨w4.heap.size, 1, none⟩ (.slice a9 V1.length c9)) w4.heap.size [u, Value.slice a9 V1.length c9]) := hX79.set 1 (by simp) (.slice a9 V1.length c9)
        have HO9 : Hid (OwnS (w9.setCell ⟨w4.heap.size, 1, none⟩ (.slice a9 V1.length c9)) w6.heap.size (.slice a9 V1.length c9) V1) := (hO9.mono (base' := w6.heap.size) hsz68).other _ (by omega) _ _
        have HO1 : Hid (OwnS (w9.setCell ⟨w4.heap.size, 1, none⟩ (.slice a9 V1.length c9)) w6.heap.size u K1) := (HQ1'.out.below hb9').other _ (by omega) _ _
        have HBf : Hid (Below w4.heap.size w6 (w9.setCell ⟨w4.heap.size, 1, none⟩ (.slice a9 V1.length c9))) := (hb8.trans (hb9'.mono (Nat.le_trans (Nat.le_of_lt hsz6) hsz68))).setCell (Nat.le_refl _) _
        have hSf : Below w4.heap.size W8 (w9.setCell ⟨w4.heap.size, 1, none⟩ (.slice a9 V1.length c9)) ∧ Blk (w9.setCell ⟨w4.heap.size, 1, none⟩ (.slice a9 V1.length c9)) wr.heap.size [Value.slice aX X.length cX, Value.slice aY Y.length cY] := ⟨(hb9'.mono (Nat.le_trans (Nat.le_of_lt hsz6) hsz68)).setCell (Nat.le_refl _) _, (hX9.keep hb9').other hne _ _⟩
        refine wpAnyH_ready (rs := [7]) (by kernel_rfl) (by simp) ?_
        refine AllReadyH.cons rfl (fun KK hKK => ?_) AllReadyH.nil
        go_simp
        refine hKK.out _ _ (hSf) (fun hHeld => ?_)
        clear hKK KK
        refine wpAnyH_done (by kernel_rfl) ?_ _
        clear hHeld hSf hX78 hX79 hX9 hb8 hb9 hb9' hO9 hbw8 y1 yf z0
        go_wp2
        go_roundw
        case rel => exact ⟨2, _, _, by omega, by go_num, HX7f.out, by omega, by omega, fun _ => HO1.out, fun _ => HO9.out, HBf.out⟩
        case measure => simp [intOf]
      · have hq1 := HQ1.out (by omega)
        have hq2 := HQ2.out (by omega)
        obtain ⟨a1, c1, rfl⟩ := hq1.val
        obtain ⟨a2, c2, rfl⟩ := hq2.val
        have hw1 := hq1.whole
        have hw2 := hq2.whole
        have hF := HF6.out.below hb (by omega)
        have hRr := HR6.out.below hb (by omega)
        have hI := HPF.out.1.below hbw
        have HBr : Hid (Below w.heap.size w wr) := hbw
        have HN2 : Hid ((a1 = none → c1 = 0) ∧ (a2 = none → c2 = 0)) := ⟨hw1.2.1, hw2.2.1⟩
        have HFR : Hid (Fresh (w.heap.size + 3) a1 ∧ Fresh (w.heap.size + 3) a2) := ⟨hw1.2.2.mono (by omega), hw2.2.2.mono (by omega)⟩
        have hs1 := hw1.1
        have hs2 := hw2.1
        have hszw : w.heap.size + 3 ≤ wr.heap.size := by omega
        clear hq1 hq2 hw1 hw2 HQ1 HQ2 HU HV hb HF6 HR6 HCALL0 HCALL1
        go_upto_region 10 with fail
        go_cut [10] from 38 to 45 (fun r wc => ∃ b10 a9 c9, r = .pointer (some ⟨b10, 0, none⟩) ∧ Blk wc b10 [Value.slice a9 R.length c9, Value.slice a1 K1.length c1, Value.slice a2 V1.length c2] ∧ SlI wc a9 R ∧ Fresh (w.heap.size + 3) a9 ∧ wr.heap.size ≤ b10 ∧ Below wr.heap.size wr wc)
        case first =>
          refine wp_region_held_drew (S := fun w' => Below wr.heap.size wr w') (by kernel_rfl) ((Below.refl _ wr).drew) (fun hHeld => ?_)
          refine take_yes 0 38 (v := ?_) rfl rfl (by kernel_rfl) (by kernel_rfl) (by kernel_rfl) (fun _ _ _ h => h) (by rfl) ?_ hHeld ?_
          rotate_left 1
          · (intro w hSw; go_simp; try with_reducible rfl)
          simp only [Act.put, List.setIfInBounds_toArray, List.set_cons_succ, List.set_cons_zero]
          refine take_yes 1 39 (v := ?_) rfl rfl (by kernel_rfl) (by kernel_rfl) (by kernel_rfl) (fun _ _ _ h => h) (by rfl) ?_ hHeld ?_
          rotate_left 1
          · (intro w hSw; have cc := (hF.keep hSw).at 0 rfl; go_simp; try with_reducible rfl)
          simp only [Act.put, List.setIfInBounds_toArray, List.set_cons_succ, List.set_cons_zero]
          refine take_yes 3 41 (v := ?_) rfl rfl (by kernel_rfl) (by kernel_rfl) (by kernel_rfl) (fun _ _ _ h => h) (by rfl) ?_ hHeld ?_
          rotate_left 1
          · (intro w hSw; go_simp; try with_reducible rfl)
          simp only [Act.put, List.setIfInBounds_toArray, List.set_cons_succ, List.set_cons_zero]
          refine take_yes 4 42 (v := ?_) rfl rfl (by kernel_rfl) (by kernel_rfl) (by kernel_rfl) (fun _ _ _ h => h) (by rfl) ?_ hHeld ?_
          rotate_left 1
          · (intro w hSw; have cc := (hX7.keep hSw).at 0 rfl; go_simp; try with_reducible rfl)
          simp only [Act.put, List.setIfInBounds_toArray, List.set_cons_succ, List.set_cons_zero]
          refine take_yes 5 43 (v := ?_) rfl rfl (by kernel_rfl) (by kernel_rfl) (by kernel_rfl) (fun _ _ _ h => h) (by rfl) ?_ hHeld ?_
          rotate_left 1
          · (intro w hSw; go_simp; try with_reducible rfl)
          simp only [Act.put, List.setIfInBounds_toArray, List.set_cons_succ, List.set_cons_zero]
          refine take_yes 6 44 (v := ?_) rfl rfl (by kernel_rfl) (by kernel_rfl) (by kernel_rfl) (fun _ _ _ h => h) (by rfl) ?_ hHeld ?_
          rotate_left 1
          · (intro w hSw; have cc := (hX7.keep hSw).at 1 rfl; go_simp; try with_reducible rfl)
          simp only [Act.put, List.setIfInBounds_toArray, List.set_cons_succ, List.set_cons_zero]
          refine wpAnyH_ready (rs := [2, 8]) (by kernel_rfl) (by simp) ?_
          refine AllReadyH.cons rfl (fun KK hKK => ?_) (AllReadyH.cons rfl (fun KK hKK => ?_) AllReadyH.nil)
          · skip
            go_simp
            refine (cloneInts_any _ aR cR R (by have := HSC.out.1; omega) (hI.below ((Below.refl _ wr).drew))).mono ?_
            rintro e w9 ⟨v9, rfl, hO9, hb9⟩
            obtain ⟨a9, c9, rfl, hI9⟩ := hO9.val
            have hf9 : Fresh (w.heap.size + 3) a9 := hO9.fresh.mono hszw
            have hS9 : Below wr.heap.size wr w9 := ((Below.refl _ wr).drew).trans hb9
            have hsz9 : wr.heap.size ≤ w9.heap.size := hS9.size
            go_wp2_with fail
            refine hKK.out _ _ (hS9) (fun hHeld => ?_)
            clear hKK KK
            refine take_yes 7 45 (v := ?_) rfl rfl (by kernel_rfl) (by kernel_rfl) (by kernel_rfl) (fun _ _ _ h => h) (by rfl) ?_ hHeld ?_
            rotate_left 1
            · (intro w hSw; go_simp; try with_reducible rfl)
            simp only [Act.put, List.setIfInBounds_toArray, List.set_cons_succ, List.set_cons_zero]
            refine wpAnyH_ready (rs := [8]) (by kernel_rfl) (by simp) ?_
            refine AllReadyH.cons rfl (fun KK hKK => ?_) AllReadyH.nil
            go_simp
            obtain ⟨WA, hWA, hNA, hBA, hsz_⟩ := laid1 w9 [Value.slice none 0 0, Value.slice none 0 0, Value.slice none 0 0] 26
            rw [hWA]
            clear hWA hsz_
            have hSA : Below wr.heap.size wr WA := hS9.trans (hBA.mono hsz9)
            refine hKK.out _ _ (hSA) (fun hHeld => ?_)
            clear hKK KK
            refine step_store 9 26 w9.heap.size [Value.slice a9 R.length c9, Value.slice a1 K1.length c1, Value.slice a2 V1.length c2] (by kernel_rfl) rfl rfl (by rfl) (by rfl) (by rfl) (by rfl) hNA.there sizeView ?_ ?_ ?_
            · intro v hv; simp at hv; rcases hv with rfl | rfl | rfl <;> rfl
            · exact below_sets hHeld w9.heap.size (by omega) [Value.slice a9 R.length c9, Value.slice a1 K1.length c1, Value.slice a2 V1.length c2] 0
            have hHeld := below_sets hHeld w9.heap.size (by omega) [Value.slice a9 R.length c9, Value.slice a1 K1.length c1, Value.slice a2 V1.length c2] 0
            refine wpAnyH_done (by kernel_rfl) ?_ _
            have HHeld : Hid (Below wr.heap.size wr (WA.setCells w9.heap.size 0 [Value.slice a9 R.length c9, Value.slice a1 K1.length c1, Value.slice a2 V1.length c2])) := hHeld
            clear hHeld
            go_wp2
            go_meet
            case rel => exact ⟨_, a9, c9, rfl, hNA.sets [Value.slice a9 R.length c9, Value.slice a1 K1.length c1, Value.slice a2 V1.length c2] rfl, hI9.below (below_sets hBA w9.heap.size (Nat.le_refl _) [Value.slice a9 R.length c9, Value.slice a1 K1.length c1, Value.slice a2 V1.length c2] 0), hf9, hsz9, HHeld.out⟩
          · skip
            go_simp
            obtain ⟨WA, hWA, hNA, hBA, hsz_⟩ := laid1 wr [Value.slice none 0 0, Value.slice none 0 0, Value.slice none 0 0] 26
            rw [hWA]
            clear hWA hsz_
            have hSA : Below wr.heap.size wr WA.drew := hBA.drew
            refine hKK.out _ _ (hSA) (fun hHeld => ?_)
            clear hKK KK
            refine wpAnyH_ready (rs := [2]) (by kernel_rfl) (by simp) ?_
            refine AllReadyH.cons rfl (fun KK hKK => ?_) AllReadyH.nil
            go_simp
            refine (cloneInts_any _ aR cR R (by have := HSC.out.1; omega) (hI.below hSA)).mono ?_
            rintro e w9 ⟨v9, rfl, hO9, hb9⟩
            obtain ⟨a9, c9, rfl, hI9⟩ := hO9.val
            have hf9' : Fresh WA.heap.size a9 := hO9.fresh
            have hf9 : Fresh (w.heap.size + 3) a9 := hO9.fresh.mono (Nat.le_trans hszw hSA.size)
            have hS9 : Below wr.heap.size wr w9 := hSA.trans (hb9.mono hSA.size)
            have hN9 := hNA.drew.keep hb9
            have hltA : wr.heap.size < WA.heap.size := hNA.lt
            go_wp2_with fail
            refine hKK.out _ _ (hS9) (fun hHeld => ?_)
            clear hKK KK
            refine take_yes 7 45 (v := ?_) rfl rfl (by kernel_rfl) (by kernel_rfl) (by kernel_rfl) (fun _ _ _ h => h) (by rfl) ?_ hHeld ?_
            rotate_left 1
            · (intro w hSw; go_simp; try with_reducible rfl)
            simp only [Act.put, List.setIfInBounds_toArray, List.set_cons_succ, List.set_cons_zero]
            refine step_store 9 26 wr.heap.size [Value.slice a9 R.length c9, Value.slice a1 K1.length c1, Value.slice a2 V1.length c2] (by kernel_rfl) rfl rfl (by rfl) (by rfl) (by rfl) (by rfl) hN9.there sizeView ?_ ?_ ?_
            · intro v hv; simp at hv; rcases hv with rfl | rfl | rfl <;> rfl
            · exact below_sets hHeld wr.heap.size (Nat.le_refl _) [Value.slice a9 R.length c9, Value.slice a1 K1.length c1, Value.slice a2 V1.length c2] 0
            have hHeld := below_sets hHeld wr.heap.size (Nat.le_refl _) [Value.slice a9 R.length c9, Value.slice a1 K1.length c1, Value.slice a2 V1.length c2] 0
            refine wpAnyH_done (by kernel_rfl) ?_ _
            have HHeld : Hid (Below wr.heap.size wr (w9.setCells wr.heap.size 0 [Value.slice a9 R.length c9, Value.slice a1 K1.length c1, Value.slice a2 V1.length c2])) := hHeld
            clear hHeld
            go_wp2
            go_meet
            case rel => exact ⟨_, a9, c9, rfl, hN9.sets [Value.slice a9 R.length c9, Value.slice a1 K1.length c1, Value.slice a2 V1.length c2] rfl, hI9.others wr.heap.size (fun _ b off e => by have := hf9' b off e; omega) [Value.slice a9 R.length c9, Value.slice a1 K1.length c1, Value.slice a2 V1.length c2] 0, hf9, Nat.le_refl _, HHeld.out⟩
        case rest =>
          obtain ⟨b10, a9, c9, rfl, hM10, hI9, hf9, hlo10, hbc⟩ := hcut
          have HBc : Hid (Below w.heap.size w wc) := HBr.out.trans (hbc.mono HBr.out.size)
          have hs1c := hs1.below hbc
          have hs2c := hs2.below hbc
          have hRc := hRr.keep hbc
          have m0 := hM10.at 0 rfl
          have m1 := hM10.at 1 rfl
          have m2 := hM10.at 2 rfl
          clear hF hX7 hRr hI hs1 hs2 hbc hbw
          go_wp2_with fail
          refine (vcheck_any wc a9 a1 a2 c9 c1 c2 R K1 V1 HM.out.1.1 HLEN.out.1 HLEN.out.2 HN2.out.2 hI9 hs1c hs2c).mono ?_
          rintro e wd ⟨rfl, hbd⟩
          have HBd : Hid (Below w.heap.size w wd) := HBc.out.trans (hbd.mono HBc.out.size)
          have hRd := hRc.keep hbd
          have hM := hM10.keep hbd
          have hId := hI9.below hbd
          have hs1d := hs1c.below hbd
          have hs2d := hs2c.below hbd
          clear m0 m1 m2 hM10 hI9 hs1c hs2c hRc hbd HBc
          by_cases hz : viewE R K1 V1 = 0
          · have HF0 : Hid (apE R K V G H X Y = 0) := by show _ = _; rw [HE2.out, hz]
            rw [hz]
            have HRf : Hid (Blk (wd.setCells (w.heap.size + 1 + 1) 0 [Value.slice a9 R.length c9, Value.slice a1 K1.length c1, Value.slice a2 V1.length c2]) (w.heap.size + 1 + 1) [Value.slice a9 R.length c9, Value.slice a1 K1.length c1, Value.slice a2 V1.length c2]) := hRd.sets _ rfl
            have m0 := hM.at 0 rfl
            have m1 := hM.at 1 rfl
            have m2 := hM.at 2 rfl
            have y0 := hRd.at 0 rfl
            have y1 := hRd.at 1 rfl
            have y2 := hRd.at 2 rfl
            have yf := hRd.frz
            have hne : ¬ b10 = w.heap.size + 1 + 1 := by omega
            have HFIN : Hid (SlI (wd.setCells (w.heap.size + 1 + 1) 0 [Value.slice a9 R.length c9, Value.slice a1 K1.length c1, Value.slice a2 V1.length c2]) a9 R ∧ SlP (wd.setCells (w.heap.size + 1 + 1) 0 [Value.slice a9 R.length c9, Value.slice a1 K1.length c1, Value.slice a2 V1.length c2]) a1 K1 ∧ SlP (wd.setCells (w.heap.size + 1 + 1) 0 [Value.slice a9 R.length c9, Value.slice a1 K1.length c1, Value.slice a2 V1.length c2]) a2 V1) := ⟨hId.others _ (fun _ b off e => by have := hf9 b off e; omega) _ 0, SlP.apart hs1d HFR.out.1 (by omega) _ 0, SlP.apart hs2d HFR.out.2 (by omega) _ 0⟩
            clear hz hM hRd hId hs1d hs2d HE2
            go_wp2
            refine ret_cell_tmp Tryz.results81 rfl rfl (HRf.out.load Tryz.underlying26 rfl sizeView) ?_
            unfold Views
            rw [HF0.out, Orangery.ap_ok rfl, Orangery.al_ok rfl, Orangery.al_ok rfl, HK1.out, HV1.out]
            exact ⟨a9, a1, a2, c9, c1, c2, rfl, HN2.out, ⟨HFR.out.1.mono (by omega), HFR.out.2.mono (by omega), Or.inr (hf9.mono (by omega))⟩, HFIN.out.1, HFIN.out.2.1, HFIN.out.2.2, below_sets HBd.out (w.heap.size + 1 + 1) (by omega) [Value.slice a9 R.length c9, Value.slice a1 K1.length c1, Value.slice a2 V1.length c2] 0⟩
          · have hz' : (viewE R K1 V1 != 0) = true := by simpa using hz
            have HF0 : Hid (apE R K V G H X Y = viewE R K1 V1) := HE2.out
            have HNZ : Hid (viewE R K1 V1 ≠ 0) := hz
            generalize viewE R K1 V1 = E at *
            have HRZ : Hid (Blk (wd.setCells (w.heap.size + 1 + 1) 0 [Value.slice none 0 0, Value.slice none 0 0, Value.slice none 0 0]) (w.heap.size + 1 + 1) [Value.slice none 0 0, Value.slice none 0 0, Value.slice none 0 0]) := hRd.sets _ rfl
            have y0 := hRd.at 0 rfl
            have y1 := hRd.at 1 rfl
            have y2 := hRd.at 2 rfl
            have yf := hRd.frz
            clear hz hM hRd hId hs1d hs2d HE2
            go_wp2
            exact ret_cell_tmp Tryz.results81 rfl rfl (HRZ.out.load Tryz.underlying26 rfl sizeView) (BAD.out E wd HBd.out HNZ.out HF0.out _ rfl)
  · have hz' : (orI E1 E2 != 0) = true := by simpa using hz
    have HF : Hid (apE R K V G H X Y = orI E1 E2) := by show _ = _; rw [HE.out, if_pos hz]
    have HNZ : Hid (orI E1 E2 ≠ 0) := hz
    generalize orI E1 E2 = E at *
    have HRZ : Hid (Blk (w3.setCells (w.heap.size + 1 + 1) 0 [Value.slice none 0 0, Value.slice none 0 0, Value.slice none 0 0]) (w.heap.size + 1 + 1) [Value.slice none 0 0, Value.slice none 0 0, Value.slice none 0 0]) := hR3.sets _ rfl
    have y0 := hR3.at 0 rfl
    have y1 := hR3.at 1 rfl
    have y2 := hR3.at 2 rfl
    have yf := hR3.frz
    clear hz hF3 hT3 hR3 HE HZ
    go_wp2
    exact ret_cell_tmp Tryz.results81 rfl rfl (HRZ.out.load Tryz.underlying26 rfl sizeView) (BAD.out E w3 HB3.out HNZ.out HF.out _ rfl)
end Go.Proofs.YtijjiccgpobjmaeGreat

