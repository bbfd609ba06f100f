/- 2 texts of the proof: orangeryref.CheckView. orangeryref.DeltaOf. -/
import Derived.Test.YtkjgoikcibgonacGreatP14
import Derived.Test.YtkjgoikcibgonacGreatP13
import Derived.Test.YtkjgoikcibgonacGreatP10
/- orangeryref.CheckView. -/
namespace Go.Proofs.YtkjgoikcibgonacGreat
open Go.ChangeShapes Go.WideShapes Go.ChangeAt Go.RowKit
open Orangery (Pl check scan rootsOk togL sameV viewE ofE ofR ofK ofW)

set_option maxHeartbeats 4000000 in
set_option maxRecDepth 100000 in
theorem rcheckV_any (w : World) (aR aK aV : Option Addr) (cR cK cV : Nat) (R : List Int) (K V : List Pl) (hR : R.length ≤ maxLen) (hK : K.length ≤ maxLen) (hV : V.length ≤ maxLen) (hc1 : aK = none → cK = 0) (hc : aV = none → cV = 0)
    (h1 : SlI w aR R) (h2 : SlP w aK K) (h3 : SlP w aV V) :
    Calls Tryz.prog 22 #[viV (.slice aR R.length cR) (.slice aK K.length cK) (.slice aV V.length cV)] w
      fun e w' => e = .returned (.int .i64 (viewE R K V)) ∧ Below w.heap.size w w' := by
  obtain ⟨W0, hW, hX, hB, hS⟩ := laid1 w [Value.slice aR R.length cR, Value.slice aK K.length cK, Value.slice aV V.length cV] 25
  have x0 := hX.at 0 rfl
  have g1 := h1.below hB
  have g2 := h2.below hB
  have g3 := h3.below hB
  have HB : Hid (Below w.heap.size w W0) := hB
  clear h1 h2 h3 hB
  go_enter Tryz.func22, Tryz.ntmps22
  go_wp2_with fail
  clear hW
  refine (rroots_any W0 aR cR R hR g1).mono ?_
  rintro e W0 ⟨rfl, rfl⟩
  by_cases hr : rootsOk R = 0
  · have HR0 : Hid (rootsOk R = 0) := hr
    rw [hr]
    clear hr
    have x1 := hX.at 1 rfl
    clear x0
    go_wp2_with fail
    refine (checkTree_any W0 aK cK K hK g2).mono ?_
    rintro e w1 ⟨rfl, hb1⟩
    rw [← Orangery.check_eq K]
    have hX1 := hX.keep hb1
    have k1 := g1.below hb1
    have k2 := g2.below hb1
    have k3 := g3.below hb1
    have HB1 : Hid (Below w.heap.size w w1) := HB.out.trans (hb1.mono HB.out.size)
    clear hX g1 g2 g3 HB hb1 x1
    by_cases hz : check K = 0
    · have HZK : Hid (check K = 0) := hz
      rw [hz]
      clear hz
      have x2 := hX1.at 2 rfl
      go_wp2_with fail
      refine (checkTree_any w1 aV cV V hV k3).mono ?_
      rintro e w2 ⟨rfl, hb2⟩
      rw [← Orangery.check_eq V]
      have hXr := hX1.keep hb2
      have hIr := k1.below hb2
      have hKr := k2.below hb2
      have hVr := k3.below hb2
      have HBr : Hid (Below w.heap.size w w2) := HB1.out.trans (hb2.mono HB1.out.size)
      clear hX1 k1 k2 k3 HB1 hb2 x2
      by_cases hy : check V = 0
      · have HZV : Hid (check V = 0) := hy
        rw [hy]
        clear hy
        have HE : Hid (viewE R K V = if ofE (togL K V) R ≠ 0 then ofE (togL K V) R else if sameV R (ofR (togL K V) R) K (ofK (togL K V) R) V (ofW (togL K V) R) = true then 0 else 4) := viewE_eq HR0.out HZK.out HZV.out
        have CALL1 : Hid (∀ w', Below w2.heap.size w2 w' → Calls Tryz.prog 50 #[viV (.slice aR R.length cR) (.slice aK K.length cK) (.slice aV V.length cV)] w' fun e w'' => ∃ v, e = .returned (.agg #[v]) ∧ OwnS w'' w'.heap.size v (togL K V) ∧ Below w'.heap.size w' w'') :=
          fun w' hb' => rallof_any w' aK aV cK cV K V _ (Orangery.check_scan K HZK.out) (Orangery.check_scan V HZV.out) hc1 hc (hKr.below hb') (hVr.below hb')
        have CALL2 : Hid (∀ w' a c, Below w2.heap.size w2 w' → SlP w' a (togL K V) → Calls Tryz.prog 49 #[.agg #[.slice a (togL K V).length c], .slice aR R.length cR] w' (Views w' aR (ofR (togL K V) R) (ofK (togL K V) R) (ofW (togL K V) R) (ofE (togL K V) R))) :=
          fun w' a c hb' hp => rseen_any w' a aR c cR (togL K V) R (by have := tog_len HZK.out HZV.out; unfold maxLen; omega) hR hp (hIr.below hb')
        have HRR : Hid (ofR (togL K V) R = R ∨ ofR (togL K V) R = []) := ofR_or _ _
        have HI0 : Hid (SlI w2 aR R) := hIr
        generalize ofR (togL K V) R = R1 at *
        generalize ofK (togL K V) R = K1 at *
        generalize ofW (togL K V) R = V1 at *
        generalize ofE (togL K V) R = E at *
        generalize togL K V = T at *
        clear HR0 HZK HZV hc hc1
        go_upto_region 10 with fail
        go_cut [6, 7] from 28 to 44 (fun r e4 wc => ∃ bs bR bK bV dR dK dV, r = .pointer (some ⟨bs, 0, none⟩) ∧ e4 = .int .i64 E ∧ Blk wc bs [.slice bR R1.length dR, .slice bK K1.length dK, .slice bV V1.length dV] ∧ SlI wc bR R1 ∧ SlP wc bK K1 ∧ SlP wc bV V1 ∧ Below w2.heap.size w2 wc)
        case first =>
          refine wp_region_held_drew (S := fun w' => Below w2.heap.size w2 w') (by kernel_rfl) ((Below.refl _ w2).drew) (fun hHeld => ?_)
          refine take_load 0 29 25 w.heap.size [Value.slice aR R.length cR, Value.slice aK K.length cK, Value.slice aV V.length cV] rfl rfl (by kernel_rfl) (by kernel_rfl) (by kernel_rfl) (fun _ _ _ h => h) (by rfl) (by rfl) (by rfl) (fun w hw => (hXr.keep hw).range) Tryz.underlying25 rfl sizeView hHeld ?_
          simp only [Act.put, List.setIfInBounds_toArray, List.set_cons_succ, List.set_cons_zero]
          refine take_yes 2 31 (v := ?_) rfl rfl (by kernel_rfl) (by kernel_rfl) (by kernel_rfl) (fun _ _ _ h => h) (by rfl) ?_ hHeld ?_
          rotate_left 1
          · (intro w hSw; go_simp; try with_reducible rfl)
          simp only [Act.put, List.setIfInBounds_toArray, List.set_cons_succ, List.set_cons_zero]
          refine take_yes 3 32 (v := ?_) rfl rfl (by kernel_rfl) (by kernel_rfl) (by kernel_rfl) (fun _ _ _ h => h) (by rfl) ?_ hHeld ?_
          rotate_left 1
          · (intro w hSw; have cc := (hXr.keep hSw).at 0 rfl; go_simp; try with_reducible rfl)
          simp only [Act.put, List.setIfInBounds_toArray, List.set_cons_succ, List.set_cons_zero]
          refine wpAnyH_ready (rs := [1, 8]) (by kernel_rfl) (by simp) ?_
          refine AllReadyH.cons rfl (fun K hK => ?_) (AllReadyH.cons rfl (fun K hK => ?_) AllReadyH.nil)
          · skip
            go_simp
            refine (CALL1.out _ hHeld).mono ?_
            rintro e w6 ⟨v6, rfl, hO6, hb6⟩
            obtain ⟨a6, c6, rfl⟩ := hO6.val
            have hP6 : SlP w6 a6 T := hO6.read
            have hS6 : Below w2.heap.size w2 w6 := hHeld.trans (hb6.mono hHeld.size)
            go_wp2_with fail
            refine hK.out _ _ hS6 (fun hHeld => ?_)
            clear hK K
            refine wpAnyH_ready (rs := [4, 8]) (by kernel_rfl) (by simp) ?_
            refine AllReadyH.cons rfl (fun K hK => ?_) (AllReadyH.cons rfl (fun K hK => ?_) AllReadyH.nil)
            · skip
              go_simp
              refine (CALL2.out _ a6 c6 hHeld hP6).mono ?_
              rintro e w7 ⟨bR, bK, bV, dR, dK, dV, rfl, ⟨z1, z2⟩, ⟨f1, f2, f3⟩, hI7, hK7, hV7, hb7⟩
              have hS7 : Below w2.heap.size w2 w7 := hHeld.trans (hb7.mono hHeld.size)
              have hsz7 := hb7.size
              have hgt7 : w2.heap.size ≤ w7.heap.size := hS7.size
              go_wp2_with fail
              refine hK.out _ _ hS7 (fun hHeld => ?_)
              clear hK K
              refine take_yes 5 28 (v := ?_) rfl rfl (by kernel_rfl) (by kernel_rfl) (by kernel_rfl) (fun _ _ _ h => h) (by rfl) ?_ hHeld ?_
              rotate_left 1
              · (intro w hSw; go_simp; try with_reducible rfl)
              simp only [Act.put, List.setIfInBounds_toArray, List.set_cons_succ, List.set_cons_zero]
              refine take_yes 6 34 (v := ?_) rfl rfl (by kernel_rfl) (by kernel_rfl) (by kernel_rfl) (fun _ _ _ h => h) (by rfl) ?_ hHeld ?_
              rotate_left 1
              · (intro w hSw; go_simp; try with_reducible rfl)
              simp only [Act.put, List.setIfInBounds_toArray, List.set_cons_succ, List.set_cons_zero]
              refine take_yes 7 35 (v := ?_) rfl rfl (by kernel_rfl) (by kernel_rfl) (by kernel_rfl) (fun _ _ _ h => h) (by rfl) ?_ hHeld ?_
              rotate_left 1
              · (intro w hSw; go_simp; try with_reducible rfl)
              simp only [Act.put, List.setIfInBounds_toArray, List.set_cons_succ, List.set_cons_zero]
              refine wpAnyH_ready (rs := [8]) (by kernel_rfl) (by simp) ?_
              refine AllReadyH.cons rfl (fun K hK => ?_) AllReadyH.nil
              go_simp
              have hN := (Blk.new w7 [Value.slice none 0 0, Value.slice none 0 0, Value.slice none 0 0] 25)
              refine hK.out _ _ (hHeld.alloc hHeld.size _) (fun hHeld => ?_)
              clear hK K
              refine step_store 9 25 w7.heap.size [Value.slice bR R1.length dR, Value.slice bK K1.length dK, Value.slice bV V1.length dV] (by kernel_rfl) rfl rfl (by rfl) (by rfl) (by rfl) (by rfl) hN.there sizeView ?_ ?_ ?_
              · intro v hv; simp at hv; rcases hv with rfl | rfl | rfl <;> rfl
              · exact below_sets hHeld w7.heap.size (by omega) [Value.slice bR R1.length dR, Value.slice bK K1.length dK, Value.slice bV V1.length dV] 0
              have hHeld := below_sets hHeld w7.heap.size (by omega) [Value.slice bR R1.length dR, Value.slice bK K1.length dK, Value.slice bV V1.length dV] 0
              refine take_yes 10 7 (v := ?_) rfl rfl (by kernel_rfl) (by kernel_rfl) (by kernel_rfl) (fun _ _ _ h => h) (by rfl) ?_ hHeld ?_
              rotate_left 1
              · (intro w hSw; go_simp; try with_reducible rfl)
              simp only [Act.put, List.setIfInBounds_toArray, List.set_cons_succ, List.set_cons_zero]
              refine wpAnyH_done (by kernel_rfl) ?_ _
              have HHeld : Hid (Below w2.heap.size w2 ((w7.alloc (Obj.cells #[Value.slice none 0 0, Value.slice none 0 0, Value.slice none 0 0] 25)).setCells w7.heap.size 0 [Value.slice bR R1.length dR, Value.slice bK K1.length dK, Value.slice bV V1.length dV])) := hHeld
              clear hHeld
              go_wp2
              go_meet
              case rel =>
                have hbw := below_sets (Go.Joins.below_alloc1 w7 (Obj.cells #[Value.slice none 0 0, Value.slice none 0 0, Value.slice none 0 0] 25)) w7.heap.size (Nat.le_refl _) [Value.slice bR R1.length dR, Value.slice bK K1.length dK, Value.slice bV V1.length dV] 0
                exact ⟨_, bR, bK, bV, dR, dK, dV, rfl, rfl, hN.sets [Value.slice bR R1.length dR, Value.slice bK K1.length dK, Value.slice bV V1.length dV] rfl, hI7.below hbw, hK7.below hbw, hV7.below hbw, HHeld.out⟩
            · skip
              go_simp
              have hN := (Blk.new w6 [Value.slice none 0 0, Value.slice none 0 0, Value.slice none 0 0] 25)
              refine hK.out _ _ (hHeld.alloc hHeld.size _) (fun hHeld => ?_)
              clear hK K
              refine wpAnyH_ready (rs := [4]) (by kernel_rfl) (by simp) ?_
              refine AllReadyH.cons rfl (fun K hK => ?_) AllReadyH.nil
              go_simp
              refine (CALL2.out _ a6 c6 hHeld (hP6.below (Go.Joins.below_alloc1 w6 _))).mono ?_
              rintro e w7 ⟨bR, bK, bV, dR, dK, dV, rfl, ⟨z1, z2⟩, ⟨f1, f2, f3⟩, hI7, hK7, hV7, hb7⟩
              have hS7 : Below w2.heap.size w2 w7 := hHeld.trans (hb7.mono hHeld.size)
              have hN7 := hN.keep hb7
              have hsz7 := hb7.size
              have hgt7 : w2.heap.size ≤ w7.heap.size := hS7.size
              go_wp2_with fail
              refine hK.out _ _ hS7 (fun hHeld => ?_)
              clear hK K
              refine take_yes 5 28 (v := ?_) rfl rfl (by kernel_rfl) (by kernel_rfl) (by kernel_rfl) (fun _ _ _ h => h) (by rfl) ?_ hHeld ?_
              rotate_left 1
              · (intro w hSw; go_simp; try with_reducible rfl)
              simp only [Act.put, List.setIfInBounds_toArray, List.set_cons_succ, List.set_cons_zero]
              refine take_yes 6 34 (v := ?_) rfl rfl (by kernel_rfl) (by kernel_rfl) (by kernel_rfl) (fun _ _ _ h => h) (by rfl) ?_ hHeld ?_
              rotate_left 1
              · (intro w hSw; go_simp; try with_reducible rfl)
              simp only [Act.put, List.setIfInBounds_toArray, List.set_cons_succ, List.set_cons_zero]
              refine take_yes 7 35 (v := ?_) rfl rfl (by kernel_rfl) (by kernel_rfl) (by kernel_rfl) (fun _ _ _ h => h) (by rfl) ?_ hHeld ?_
              rotate_left 1
              · (intro w hSw; go_simp; try with_reducible rfl)
              simp only [Act.put, List.setIfInBounds_toArray, List.set_cons_succ, List.set_cons_zero]
              have hlt7 : w6.heap.size < w7.heap.size := hN7.lt
              have hgt6 : w2.heap.size ≤ w6.heap.size := hS6.size
              refine step_store 9 25 w6.heap.size [Value.slice bR R1.length dR, Value.slice bK K1.length dK, Value.slice bV V1.length dV] (by kernel_rfl) rfl rfl (by rfl) (by rfl) (by rfl) (by rfl) hN7.there sizeView ?_ ?_ ?_
              · intro v hv; simp at hv; rcases hv with rfl | rfl | rfl <;> rfl
              · exact below_sets hHeld w6.heap.size (by omega) [Value.slice bR R1.length dR, Value.slice bK K1.length dK, Value.slice bV V1.length dV] 0
              have hHeld := below_sets hHeld w6.heap.size (by omega) [Value.slice bR R1.length dR, Value.slice bK K1.length dK, Value.slice bV V1.length dV] 0
              refine take_yes 10 7 (v := ?_) rfl rfl (by kernel_rfl) (by kernel_rfl) (by kernel_rfl) (fun _ _ _ h => h) (by rfl) ?_ hHeld ?_
              rotate_left 1
              · (intro w hSw; go_simp; try with_reducible rfl)
              simp only [Act.put, List.setIfInBounds_toArray, List.set_cons_succ, List.set_cons_zero]
              refine wpAnyH_done (by kernel_rfl) ?_ _
              have HHeld : Hid (Below w2.heap.size w2 (w7.setCells w6.heap.size 0 [Value.slice bR R1.length dR, Value.slice bK K1.length dK, Value.slice bV V1.length dV])) := hHeld
              clear hHeld
              go_wp2
              go_meet
              case rel =>
                exact ⟨_, bR, bK, bV, dR, dK, dV, rfl, rfl, hN7.sets [Value.slice bR R1.length dR, Value.slice bK K1.length dK, Value.slice bV V1.length dV] rfl, SlI.apart HI0.out HRR.out hI7 f3 (by omega) (by first | omega | (simp; try omega)) _ _, SlP.apart hK7 f1 (by first | omega | (simp; try omega)) _ _, SlP.apart hV7 f2 (by first | omega | (simp; try omega)) _ _, HHeld.out⟩
          · skip
            go_simp
            have hN := (Blk.new w2 [Value.slice none 0 0, Value.slice none 0 0, Value.slice none 0 0] 25).drew
            refine hK.out _ _ (hHeld.alloc hHeld.size _) (fun hHeld => ?_)
            clear hK K
            refine wpAnyH_ready (rs := [1]) (by kernel_rfl) (by simp) ?_
            refine AllReadyH.cons rfl (fun K hK => ?_) AllReadyH.nil
            go_simp
            refine (CALL1.out _ hHeld).mono ?_
            rintro e w6 ⟨v6, rfl, hO6, hb6⟩
            obtain ⟨a6, c6, rfl⟩ := hO6.val
            have hP6 : SlP w6 a6 T := hO6.read
            have hS6 : Below w2.heap.size w2 w6 := hHeld.trans (hb6.mono hHeld.size)
            have hN6 := hN.keep hb6
            go_wp2_with fail
            refine hK.out _ _ hS6 (fun hHeld => ?_)
            clear hK K
            refine wpAnyH_ready (rs := [4]) (by kernel_rfl) (by simp) ?_
            refine AllReadyH.cons rfl (fun K hK => ?_) AllReadyH.nil
            go_simp
            refine (CALL2.out _ a6 c6 hHeld hP6).mono ?_
            rintro e w7 ⟨bR, bK, bV, dR, dK, dV, rfl, ⟨z1, z2⟩, ⟨f1, f2, f3⟩, hI7, hK7, hV7, hb7⟩
            have hS7 : Below w2.heap.size w2 w7 := hHeld.trans (hb7.mono hHeld.size)
            have hN7 := hN6.keep hb7
            have hsz7 := hb7.size
            have hgt7 : w2.heap.size ≤ w7.heap.size := hS7.size
            go_wp2_with fail
            refine hK.out _ _ hS7 (fun hHeld => ?_)
            clear hK K
            refine take_yes 5 28 (v := ?_) rfl rfl (by kernel_rfl) (by kernel_rfl) (by kernel_rfl) (fun _ _ _ h => h) (by rfl) ?_ hHeld ?_
            rotate_left 1
            · (intro w hSw; go_simp; try with_reducible rfl)
            simp only [Act.put, List.setIfInBounds_toArray, List.set_cons_succ, List.set_cons_zero]
            refine take_yes 6 34 (v := ?_) rfl rfl (by kernel_rfl) (by kernel_rfl) (by kernel_rfl) (fun _ _ _ h => h) (by rfl) ?_ hHeld ?_
            rotate_left 1
            · (intro w hSw; go_simp; try with_reducible rfl)
            simp only [Act.put, List.setIfInBounds_toArray, List.set_cons_succ, List.set_cons_zero]
            refine take_yes 7 35 (v := ?_) rfl rfl (by kernel_rfl) (by kernel_rfl) (by kernel_rfl) (fun _ _ _ h => h) (by rfl) ?_ hHeld ?_
            rotate_left 1
            · (intro w hSw; go_simp; try with_reducible rfl)
            simp only [Act.put, List.setIfInBounds_toArray, List.set_cons_succ, List.set_cons_zero]
            have hlt6 : w2.heap.size < w6.heap.size := hN6.lt
            refine step_store 9 25 w2.heap.size [Value.slice bR R1.length dR, Value.slice bK K1.length dK, Value.slice bV V1.length dV] (by kernel_rfl) rfl rfl (by rfl) (by rfl) (by rfl) (by rfl) hN7.there sizeView ?_ ?_ ?_
            · intro v hv; simp at hv; rcases hv with rfl | rfl | rfl <;> rfl
            · exact below_sets hHeld w2.heap.size (by omega) [Value.slice bR R1.length dR, Value.slice bK K1.length dK, Value.slice bV V1.length dV] 0
            have hHeld := below_sets hHeld w2.heap.size (by omega) [Value.slice bR R1.length dR, Value.slice bK K1.length dK, Value.slice bV V1.length dV] 0
            refine take_yes 10 7 (v := ?_) rfl rfl (by kernel_rfl) (by kernel_rfl) (by kernel_rfl) (fun _ _ _ h => h) (by rfl) ?_ hHeld ?_
            rotate_left 1
            · (intro w hSw; go_simp; try with_reducible rfl)
            simp only [Act.put, List.setIfInBounds_toArray, List.set_cons_succ, List.set_cons_zero]
            refine wpAnyH_done (by kernel_rfl) ?_ _
            have HHeld : Hid (Below w2.heap.size w2 (w7.setCells w2.heap.size 0 [Value.slice bR R1.length dR, Value.slice bK K1.length dK, Value.slice bV V1.length dV])) := hHeld
            clear hHeld
            go_wp2
            go_meet
            case rel =>
              exact ⟨_, bR, bK, bV, dR, dK, dV, rfl, rfl, hN7.sets [Value.slice bR R1.length dR, Value.slice bK K1.length dK, Value.slice bV V1.length dV] rfl, SlI.apart HI0.out HRR.out hI7 f3 (by omega) (by first | omega | (simp; try omega)) _ _, SlP.apart hK7 f1 (by first | omega | (simp; try omega)) _ _, SlP.apart hV7 f2 (by first | omega | (simp; try omega)) _ _, HHeld.out⟩
        case rest =>
          obtain ⟨bs, bR, bK, bV, dR, dK, dV, rfl, rfl, hblk, hIc, hKc, hVc, hbc⟩ := hcut
          have HBc : Hid (Below w.heap.size w wc) := HBr.out.trans (hbc.mono HBr.out.size)
          by_cases hz : E = 0
          · subst hz
            have hXc := hXr.keep hbc
            have x0 := hXc.at 0 rfl
            have x1 := hXc.at 1 rfl
            have x2 := hXc.at 2 rfl
            have y0 := hblk.at 0 rfl
            have y1 := hblk.at 1 rfl
            have y2 := hblk.at 2 rfl
            have m1 := hIr.below hbc
            have m2 := hKr.below hbc
            have m3 := hVr.below hbc
            clear hbc hblk hXr hXc hIr hKr hVr CALL1 CALL2 HI0 HRR HBr
            go_wp2_with fail
            refine (rsameV_any wc aR aK aV bR bK bV cR cK cV dR dK dV R R1 K K1 V V1 hR hK hV m1 m2 m3 hIc hKc hVc).mono ?_
            rintro e w5 ⟨rfl, hb5⟩
            have HB5 : Hid (Below w.heap.size w w5) := HBc.out.trans (hb5.mono HBc.out.size)
            clear hb5 m1 m2 m3 hIc hKc hVc x0 x1 x2 y0 y1 y2
            cases hq : sameV R R1 K K1 V V1
            · have HF : Hid (viewE R K V = 4) := by show _ = _; rw [HE.out, hq]; rfl
              go_wp2
              go_ret
              exact ⟨ret_int HF.out.symm, HB5.out⟩
            · have HF : Hid (viewE R K V = 0) := by show _ = _; rw [HE.out, hq]; rfl
              go_wp2
              go_ret
              exact ⟨ret_int HF.out.symm, HB5.out⟩
          · have hz' : (E == 0) = false := by simpa using hz
            have HF : Hid (viewE R K V = E) := by show _ = _; rw [HE.out, if_pos hz]
            clear hz
            go_wp2
            go_ret
            exact ⟨ret_int HF.out.symm, HBc.out⟩
      · have hy' : (check V != 0) = true := by simpa using hy
        have HE : Hid (viewE R K V = check V) := by show _ = _; unfold viewE; rw [if_neg (by simp [HR0.out]), if_neg (by simp [HZK.out]), if_pos hy]
        clear hy
        go_wp2
        go_ret
        exact ⟨ret_int HE.out.symm, HBr.out⟩
    · have hz' : (check K != 0) = true := by simpa using hz
      have HE : Hid (viewE R K V = check K) := by show _ = _; unfold viewE; rw [if_neg (by simp [HR0.out]), if_pos hz]
      clear hz
      go_wp2
      go_ret
      exact ⟨ret_int HE.out.symm, HB1.out⟩
  · have hr' : (rootsOk R != 0) = true := by simpa using hr
    have HE : Hid (viewE R K V = rootsOk R) := by show _ = _; unfold viewE; rw [if_pos hr]
    clear hr
    go_wp2
    go_ret
    exact ⟨ret_int HE.out.symm, HB.out⟩
end Go.Proofs.YtkjgoikcibgonacGreat

/- orangeryref.DeltaOf. -/
namespace Go.Proofs.YtkjgoikcibgonacGreat
open Go.ChangeShapes Go.WideShapes Go.ChangeAt Go.RowKit
open Orangery (Pl viewE orI dfE dfG dfH goneL hereL scan)

set_option maxHeartbeats 4000000 in
set_option maxRecDepth 100000 in
theorem rdeltaOf_any (w : World) (aR aK aV bR bK bV : Option Addr) (cR cK cV dR dK dV : Nat) (R R' : List Int) (K K' V V' : List Pl) (hm : (R.length ≤ maxLen ∧ K.length ≤ maxLen ∧ V.length ≤ maxLen) ∧ R'.length ≤ maxLen ∧ K'.length ≤ maxLen ∧ V'.length ≤ maxLen)
    (hc : ((aK = none → cK = 0) ∧ (aV = none → cV = 0)) ∧ (bK = none → dK = 0) ∧ (bV = none → dV = 0)) (h1 : SlI w aR R) (h2 : SlP w aK K) (h3 : SlP w aV V) (h4 : SlI w bR R') (h5 : SlP w bK K') (h6 : SlP w bV V') :
    Calls Tryz.prog 6 #[viV (.slice aR R.length cR) (.slice aK K.length cK) (.slice aV V.length cV), viV (.slice bR R'.length dR) (.slice bK K'.length dK) (.slice bV V'.length dV)] w
      (Deltas w (dfG (dfE R K V R' K' V') K K') (dfH (dfE R K V R' K' V') K K') (dfG (dfE R K V R' K' V') V V') (dfH (dfE R K V R' K' V') V V') (dfE R K V R' K' V')) := by
  obtain ⟨W0, hW, BF, BT, BR, hb, hS⟩ := laid3 w [Value.slice aR R.length cR, Value.slice aK K.length cK, Value.slice aV V.length cV] 25 [Value.slice bR R'.length dR, Value.slice bK K'.length dK, Value.slice bV V'.length dV] 25 [Value.slice none 0 0, Value.slice none 0 0, Value.slice none 0 0, Value.slice none 0 0] 27
  have HM : Hid ((R.length ≤ maxLen ∧ K.length ≤ maxLen ∧ V.length ≤ maxLen) ∧ R'.length ≤ maxLen ∧ K'.length ≤ maxLen ∧ V'.length ≤ maxLen) := hm
  have HPF : Hid (SlI w aR R ∧ SlP w aK K ∧ SlP w aV V) := ⟨h1, h2, h3⟩
  have HPT : Hid (SlI w bR R' ∧ SlP w bK K' ∧ SlP w bV V') := ⟨h4, h5, h6⟩
  have HB0 : Hid (Below w.heap.size w W0) := hb
  have HS0 : Hid (W0.heap.size = w.heap.size + 3) := hS
  have CF : Hid (∀ W, Below w.heap.size w W → Calls Tryz.prog 22 #[viV (.slice aR R.length cR) (.slice aK K.length cK) (.slice aV V.length cV)] W fun e w' => e = .returned (.int .i64 (viewE R K V)) ∧ Below W.heap.size W w') :=
    fun W hb => rcheckV_any W aR aK aV cR cK cV R K V HM.out.1.1 HM.out.1.2.1 HM.out.1.2.2 hc.1.1 hc.1.2 (HPF.out.1.below hb) (HPF.out.2.1.below hb) (HPF.out.2.2.below hb)
  have CT : Hid (∀ W, Below w.heap.size w W → Calls Tryz.prog 22 #[viV (.slice bR R'.length dR) (.slice bK K'.length dK) (.slice bV V'.length dV)] W fun e w' => e = .returned (.int .i64 (viewE R' K' V')) ∧ Below W.heap.size W w') :=
    fun W hb => rcheckV_any W bR bK bV dR dK dV R' K' V' HM.out.2.1 HM.out.2.2.1 HM.out.2.2.2 hc.2.1 hc.2.2 (HPT.out.1.below hb) (HPT.out.2.1.below hb) (HPT.out.2.2.below hb)
  have HE : Hid (dfE R K V R' K' V' = if orI (viewE R K V) (viewE R' K' V') ≠ 0 then orI (viewE R K V) (viewE R' K' V') else if R = R' then 0 else 4) := rfl
  have HZ : Hid (viewE R K V = 0 → viewE R' K' V' = 0 → (scan 0 K = 0 ∧ scan 0 V = 0) ∧ scan 0 K' = 0 ∧ scan 0 V' = 0) := fun h h' => ⟨Orangery.view_scan h, Orangery.view_scan h'⟩
  generalize viewE R K V = E1 at *
  generalize viewE R' K' V' = E2 at *
  have BAD : Hid (∀ (E : Int) (W : World), Below w.heap.size w W → E ≠ 0 → dfE R K V R' K' V' = E → ∀ W', W' = W.setCells (w.heap.size + 1 + 1) 0 [Value.slice none 0 0, Value.slice none 0 0, Value.slice none 0 0, Value.slice none 0 0] → Deltas w (dfG (dfE R K V R' K' V') K K') (dfH (dfE R K V R' K' V') K K') (dfG (dfE R K V R' K' V') V V') (dfH (dfE R K V R' K' V') V V') (dfE R K V R' K' V') (.returned (.tuple #[deV (.slice none 0 0) (.slice none 0 0) (.slice none 0 0) (.slice none 0 0), .int .i64 E])) W') := by
    rintro E W hb h1 h2 W' rfl
    rw [h2]
    obtain ⟨e1, e2⟩ := Orangery.df_bad K K' h1
    obtain ⟨e3, e4⟩ := Orangery.df_bad V V' h1
    rw [e1, e2, e3, e4]
    exact ⟨none, none, none, none, 0, 0, 0, 0, rfl, ⟨fun _ => rfl, fun _ => rfl⟩, ⟨Fresh.none, Fresh.none, Fresh.none, Fresh.none⟩, Or.inl rfl, Or.inl rfl, Or.inl rfl, Or.inl rfl, below_sets hb _ (by omega) _ 0⟩
  clear h1 h2 h3 h4 h5 h6 hm hc hb hS
  have BF0 := BF
  have BT0 := BT
  have BR0 := BR
  clear BF BT BR
  have bf_0 := BF0.at 0 rfl
  have bf_1 := BF0.at 1 rfl
  have bf_2 := BF0.at 2 rfl
  go_enter Tryz.func6, Tryz.ntmps6
  go_wp2_with fail
  clear hW bf_0 bf_1 bf_2
  refine (CF.out W0 HB0.out).mono ?_
  rintro e w1 ⟨rfl, hb⟩
  have BF1 := BF0.keep hb
  have BT1 := BT0.keep hb
  have BR1 := BR0.keep hb
  have HB1 : Hid (Below w.heap.size w w1) := HB0.out.trans (hb.mono HB0.out.size)
  clear BF0 BT0 BR0 HB0
  clear hb
  by_cases hz1 : ¬ E1 = 0
  · have hz' : (E1 != 0) = true := by simpa using hz1
    have HNZ : Hid (E1 ≠ 0) := hz1
    have HF : Hid (dfE R K V R' K' V' = E1) := by show _ = _; rw [HE.out]; have e : orI E1 E2 = E1 := by { unfold orI; rw [if_pos hz1] }; rw [e, if_pos hz1]
    have HRZ : Hid (Blk (w1.setCells (w.heap.size + 1 + 1) 0 [Value.slice none 0 0, Value.slice none 0 0, Value.slice none 0 0, Value.slice none 0 0]) (w.heap.size + 1 + 1) [Value.slice none 0 0, Value.slice none 0 0, Value.slice none 0 0, Value.slice none 0 0]) := BR1.sets _ rfl
    have y0 := BR1.at 0 rfl
    have y1 := BR1.at 1 rfl
    have y2 := BR1.at 2 rfl
    have y3 := BR1.at 3 rfl
    have yf := BR1.frz
    clear BF1 BT1 BR1 hz1
    go_wp2
    exact ret_cell_tmp Tryz.results6 rfl rfl (HRZ.out.load Tryz.underlying27 rfl sizeDelta) (BAD.out E1 w1 HB1.out HNZ.out HF.out _ rfl)
  replace hz1 := Decidable.of_not_not hz1
  subst hz1
  have bt_0 := BT1.at 0 rfl
  have bt_1 := BT1.at 1 rfl
  have bt_2 := BT1.at 2 rfl
  go_wp2_with fail
  clear bt_0 bt_1 bt_2
  refine (CT.out w1 HB1.out).mono ?_
  rintro e w2 ⟨rfl, hb⟩
  have BF2 := BF1.keep hb
  have BT2 := BT1.keep hb
  have BR2 := BR1.keep hb
  have HB2 : Hid (Below w.heap.size w w2) := HB1.out.trans (hb.mono HB1.out.size)
  clear BF1 BT1 BR1 HB1
  clear hb
  by_cases hz2 : ¬ E2 = 0
  · have hz' : (E2 != 0) = true := by simpa using hz2
    have HNZ : Hid (E2 ≠ 0) := hz2
    have HF : Hid (dfE R K V R' K' V' = E2) := by show _ = _; rw [HE.out]; have e : orI 0 E2 = E2 := rfl; rw [e, if_pos hz2]
    have HRZ : Hid (Blk (w2.setCells (w.heap.size + 1 + 1) 0 [Value.slice none 0 0, Value.slice none 0 0, Value.slice none 0 0, Value.slice none 0 0]) (w.heap.size + 1 + 1) [Value.slice none 0 0, Value.slice none 0 0, Value.slice none 0 0, Value.slice none 0 0]) := BR2.sets _ rfl
    have y0 := BR2.at 0 rfl
    have y1 := BR2.at 1 rfl
    have y2 := BR2.at 2 rfl
    have y3 := BR2.at 3 rfl
    have yf := BR2.frz
    clear BF2 BT2 BR2 hz2
    go_wp2
    exact ret_cell_tmp Tryz.results6 rfl rfl (HRZ.out.load Tryz.underlying27 rfl sizeDelta) (BAD.out E2 w2 HB2.out HNZ.out HF.out _ rfl)
  replace hz2 := Decidable.of_not_not hz2
  subst hz2
  have HSC : Hid ((scan 0 K = 0 ∧ scan 0 V = 0) ∧ scan 0 K' = 0 ∧ scan 0 V' = 0) := HZ.out (by trivial) (by trivial)
  have HE2 : Hid (dfE R K V R' K' V' = if R = R' then 0 else 4) := by show _ = _; rw [HE.out]; rfl
  clear HZ HE CF CT
  have bf_0 := BF2.at 0 rfl
  have bt_0 := BT2.at 0 rfl
  go_wp2_with fail
  clear bf_0 bt_0
  refine (equal_is w2 aR bR cR dR R R' HM.out.1.1 (HPF.out.1.below HB2.out) (HPT.out.1.below HB2.out)).mono ?_
  rintro e w3 ⟨rfl, n, rfl⟩
  have hb : Below w2.heap.size w2 (w2.drewN n) := ⟨rfl, rfl, rfl, Nat.le_refl _, fun _ _ => rfl⟩
  generalize w2.drewN n = w3 at *
  have BF3 := BF2.keep hb
  have BT3 := BT2.keep hb
  have BR3 := BR2.keep hb
  have HB3 : Hid (Below w.heap.size w w3) := HB2.out.trans (hb.mono HB2.out.size)
  clear BF2 BT2 BR2 HB2
  clear hb
  cases hq : eqIs R R'
  · have HNZ : Hid ((4 : Int) ≠ 0) := by show (4 : Int) ≠ 0; decide
    have HF : Hid (dfE R K V R' K' V' = 4) := by
      show _ = _
      rw [HE2.out, if_neg]
      intro e
      rw [eqIs_yes e] at hq
      simp at hq
    have HRZ : Hid (Blk (w3.setCells (w.heap.size + 1 + 1) 0 [Value.slice none 0 0, Value.slice none 0 0, Value.slice none 0 0, Value.slice none 0 0]) (w.heap.size + 1 + 1) [Value.slice none 0 0, Value.slice none 0 0, Value.slice none 0 0, Value.slice none 0 0]) := BR3.sets _ rfl
    have y0 := BR3.at 0 rfl
    have y1 := BR3.at 1 rfl
    have y2 := BR3.at 2 rfl
    have y3 := BR3.at 3 rfl
    have yf := BR3.frz
    clear BF3 BT3 BR3
    go_wp2
    exact ret_cell_tmp Tryz.results6 rfl rfl (HRZ.out.load Tryz.underlying27 rfl sizeDelta) (BAD.out 4 w3 HB3.out HNZ.out HF.out _ rfl)
  have HF : Hid (dfE R K V R' K' V' = 0) := by
    show _ = _
    rw [HE2.out, if_pos]
    simpa [eqIs] using hq
  have HL0 : Hid (dfG 0 K K' = goneL K K' ∧ dfH 0 K K' = hereL K K') := Orangery.df_ok (E := 0) K K' rfl
  have HL1 : Hid (dfG 0 V V' = goneL V V' ∧ dfH 0 V V' = hereL V V') := Orangery.df_ok (E := 0) V V' rfl
  have HC0 : Hid (∀ W, Below w.heap.size w W → Calls Tryz.prog 23 #[.slice aK K.length cK, .slice bK K'.length dK] W fun e w' => ∃ u v, e = .returned (.tuple #[u, v]) ∧ Pair w' W.heap.size u v (goneL K K') (hereL K K') ∧ Below W.heap.size W w') :=
    fun W hb => rbetween_any W aK bK cK dK K K' HSC.out.1.1 HSC.out.2.1 (HPF.out.2.1.below hb) (HPT.out.2.1.below hb)
  have HC1 : Hid (∀ W, Below w.heap.size w W → Calls Tryz.prog 23 #[.slice aV V.length cV, .slice bV V'.length dV] W fun e w' => ∃ u v, e = .returned (.tuple #[u, v]) ∧ Pair w' W.heap.size u v (goneL V V') (hereL V V') ∧ Below W.heap.size W w') :=
    fun W hb => rbetween_any W aV bV cV dV V V' HSC.out.1.2 HSC.out.2.2 (HPF.out.2.2.below hb) (HPT.out.2.2.below hb)
  clear HE2 hq BAD HSC HPF HPT HM
  have HLT : Hid (w.heap.size + 1 + 1 < w3.heap.size) := BR3.lt
  obtain ⟨W4, hW4, B_, hb, hsz_⟩ := laid1 w3 [Value.slice none 0 0, Value.slice none 0 0, Value.slice none 0 0, Value.slice none 0 0] 27
  have HSZ : Hid (W4.heap.size = w3.heap.size + 1) := hsz_
  clear hsz_
  have BF4 := BF3.keep hb
  have BT4 := BT3.keep hb
  have BR4 := BR3.keep hb
  have HB4 : Hid (Below w.heap.size w W4) := HB3.out.trans (hb.mono HB3.out.size)
  clear BF3 BT3 BR3 HB3
  clear hb
  have BD4 := B_
  clear B_
  have bf_1 := BF4.at 1 rfl
  have bt_1 := BT4.at 1 rfl
  go_wp2_with fail
  clear hW4 bf_1 bt_1
  refine (HC0.out W4 HB4.out).mono ?_
  rintro e w5 ⟨u, v, rfl, hpr, hb⟩
  have HPR : Hid (Pair w5 W4.heap.size u v (goneL K K') (hereL K K')) := hpr
  obtain ⟨g1, k1, rfl, -⟩ := hpr.1.val
  obtain ⟨g2, k2, rfl, -⟩ := hpr.2.val
  clear hpr
  have BF5 := BF4.keep hb
  have BT5 := BT4.keep hb
  have BR5 := BR4.keep hb
  have BD5 := BD4.keep hb
  have HB5 : Hid (Below w.heap.size w w5) := HB4.out.trans (hb.mono HB4.out.size)
  clear BF4 BT4 BR4 BD4 HB4
  clear hb
  have bd_0 := BD5.at 0 rfl
  have bd_1 := BD5.at 1 rfl
  have bd_2 := BD5.at 2 rfl
  have bd_3 := BD5.at 3 rfl
  have bdf := BD5.frz
  go_upto_region 11 with fail
  clear bd_0 bd_1 bd_2 bd_3 bdf
  have f1 : Hid (Blk ((w5.setCell ⟨w3.heap.size, 0, none⟩ (Value.slice g1 (goneL K K').length k1)).setCell ⟨w3.heap.size, 1, none⟩ (Value.slice g2 (hereL K K').length k2)) w.heap.size [Value.slice aR R.length cR, Value.slice aK K.length cK, Value.slice aV V.length cV] ∧ Blk ((w5.setCell ⟨w3.heap.size, 0, none⟩ (Value.slice g1 (goneL K K').length k1)).setCell ⟨w3.heap.size, 1, none⟩ (Value.slice g2 (hereL K K').length k2)) (w.heap.size + 1) [Value.slice bR R'.length dR, Value.slice bK K'.length dK, Value.slice bV V'.length dV] ∧ Blk ((w5.setCell ⟨w3.heap.size, 0, none⟩ (Value.slice g1 (goneL K K').length k1)).setCell ⟨w3.heap.size, 1, none⟩ (Value.slice g2 (hereL K K').length k2)) (w.heap.size + 1 + 1) [Value.slice none 0 0, Value.slice none 0 0, Value.slice none 0 0, Value.slice none 0 0] ∧ Blk ((w5.setCell ⟨w3.heap.size, 0, none⟩ (Value.slice g1 (goneL K K').length k1)).setCell ⟨w3.heap.size, 1, none⟩ (Value.slice g2 (hereL K K').length k2)) w3.heap.size [Value.slice g1 (goneL K K').length k1, Value.slice g2 (hereL K K').length k2, Value.slice none 0 0, Value.slice none 0 0]) := ⟨(BF5.other (by have := HLT.out; omega) _ _).other (by have := HLT.out; omega) _ _, (BT5.other (by have := HLT.out; omega) _ _).other (by have := HLT.out; omega) _ _, (BR5.other (by have := HLT.out; omega) _ _).other (by have := HLT.out; omega) _ _, (BD5.set 0 (by simp) _).set 1 (by simp) _⟩
  have f2 : Hid (Pair ((w5.setCell ⟨w3.heap.size, 0, none⟩ (Value.slice g1 (goneL K K').length k1)).setCell ⟨w3.heap.size, 1, none⟩ (Value.slice g2 (hereL K K').length k2)) W4.heap.size (Value.slice g1 (goneL K K').length k1) (Value.slice g2 (hereL K K').length k2) (goneL K K') (hereL K K')) := (HPR.out.other _ (by have := HSZ.out; omega) _ _).other _ (by have := HSZ.out; omega) _ _
  have f3 : Hid (Below w.heap.size w ((w5.setCell ⟨w3.heap.size, 0, none⟩ (Value.slice g1 (goneL K K').length k1)).setCell ⟨w3.heap.size, 1, none⟩ (Value.slice g2 (hereL K K').length k2))) := (HB5.out.setCell (by show w.heap.size ≤ w3.heap.size; have := HLT.out; omega) _).setCell (by show w.heap.size ≤ w3.heap.size; have := HLT.out; omega) _
  clear HPR BF5 BT5 BR5 BD5 HB5
  generalize ((w5.setCell ⟨w3.heap.size, 0, none⟩ (Value.slice g1 (goneL K K').length k1)).setCell ⟨w3.heap.size, 1, none⟩ (Value.slice g2 (hereL K K').length k2)) = W6 at *
  have HB6 : Hid (Below w.heap.size w W6) := f3
  have BF6 := f1.out.1
  have BT6 := f1.out.2.1
  have BR6 := f1.out.2.2.1
  have BD6 := f1.out.2.2.2
  have PR6 := f2.out
  clear f1 f2 f3
  have bf_2 := BF6.at 2 rfl
  have bt_2 := BT6.at 2 rfl
  go_wp2_with fail
  clear bf_2 bt_2
  refine (HC1.out W6 HB6.out).mono ?_
  have hge6 : Hid (W4.heap.size ≤ W6.heap.size ∨ True) := Or.inr trivial
  rintro e w7 ⟨u, v, rfl, hpr, hb⟩
  have HLT6 : Hid (w3.heap.size < W6.heap.size) := BD6.lt
  have HPS : Hid (Pair w7 W4.heap.size u v (goneL V V') (hereL V V')) := hpr.mono (by have := HSZ.out; have := HLT6.out; omega)
  obtain ⟨g3, k3, rfl, -⟩ := hpr.1.val
  obtain ⟨g4, k4, rfl, -⟩ := hpr.2.val
  clear hpr
  have BF7 := BF6.keep hb
  have BT7 := BT6.keep hb
  have BR7 := BR6.keep hb
  have BD7 := BD6.keep hb
  have PR7 := PR6.keep hb
  have HB7 : Hid (Below w.heap.size w w7) := HB6.out.trans (hb.mono HB6.out.size)
  clear BF6 BT6 BR6 BD6 PR6 HB6
  clear hb
  have bd_0 := BD7.at 0 rfl
  have bd_1 := BD7.at 1 rfl
  have bd_2 := BD7.at 2 rfl
  have bd_3 := BD7.at 3 rfl
  have bdf := BD7.frz
  go_upto_region 12 with fail
  clear bd_0 bd_1 bd_2 bd_3 bdf
  have f1 : Hid (Blk ((w7.setCell ⟨w3.heap.size, 2, none⟩ (Value.slice g3 (goneL V V').length k3)).setCell ⟨w3.heap.size, 3, none⟩ (Value.slice g4 (hereL V V').length k4)) (w.heap.size + 1 + 1) [Value.slice none 0 0, Value.slice none 0 0, Value.slice none 0 0, Value.slice none 0 0] ∧ Blk ((w7.setCell ⟨w3.heap.size, 2, none⟩ (Value.slice g3 (goneL V V').length k3)).setCell ⟨w3.heap.size, 3, none⟩ (Value.slice g4 (hereL V V').length k4)) w3.heap.size [Value.slice g1 (goneL K K').length k1, Value.slice g2 (hereL K K').length k2, Value.slice g3 (goneL V V').length k3, Value.slice g4 (hereL V V').length k4]) := ⟨(BR7.other (by have := HLT.out; omega) _ _).other (by have := HLT.out; omega) _ _, (BD7.set 2 (by simp) _).set 3 (by simp) _⟩
  have f2 : Hid (Pair ((w7.setCell ⟨w3.heap.size, 2, none⟩ (Value.slice g3 (goneL V V').length k3)).setCell ⟨w3.heap.size, 3, none⟩ (Value.slice g4 (hereL V V').length k4)) W4.heap.size (Value.slice g1 (goneL K K').length k1) (Value.slice g2 (hereL K K').length k2) (goneL K K') (hereL K K') ∧ Pair ((w7.setCell ⟨w3.heap.size, 2, none⟩ (Value.slice g3 (goneL V V').length k3)).setCell ⟨w3.heap.size, 3, none⟩ (Value.slice g4 (hereL V V').length k4)) W4.heap.size (Value.slice g3 (goneL V V').length k3) (Value.slice g4 (hereL V V').length k4) (goneL V V') (hereL V V')) := ⟨(PR7.other _ (by have := HSZ.out; omega) _ _).other _ (by have := HSZ.out; omega) _ _, (HPS.out.other _ (by have := HSZ.out; omega) _ _).other _ (by have := HSZ.out; omega) _ _⟩
  have f3 : Hid (Below w.heap.size w ((w7.setCell ⟨w3.heap.size, 2, none⟩ (Value.slice g3 (goneL V V').length k3)).setCell ⟨w3.heap.size, 3, none⟩ (Value.slice g4 (hereL V V').length k4))) := (HB7.out.setCell (by show w.heap.size ≤ w3.heap.size; have := HLT.out; omega) _).setCell (by show w.heap.size ≤ w3.heap.size; have := HLT.out; omega) _
  clear HPS hge6 BF7 BT7 BR7 BD7 PR7 HB7
  generalize ((w7.setCell ⟨w3.heap.size, 2, none⟩ (Value.slice g3 (goneL V V').length k3)).setCell ⟨w3.heap.size, 3, none⟩ (Value.slice g4 (hereL V V').length k4)) = W8 at *
  have hRr := f1.out.1
  have hDd := f1.out.2
  have z0 := hDd.at 0 rfl
  have z1 := hDd.at 1 rfl
  have z2 := hDd.at 2 rfl
  have z3 := hDd.at 3 rfl
  have r0 := hRr.at 0 rfl
  have r1 := hRr.at 1 rfl
  have r2 := hRr.at 2 rfl
  have r3 := hRr.at 3 rfl
  have rf := hRr.frz
  have hne : ¬ w3.heap.size = w.heap.size + 1 + 1 := by have := HLT.out; omega
  have HRf : Hid (Blk (W8.setCells (w.heap.size + 1 + 1) 0 [Value.slice g1 (goneL K K').length k1, Value.slice g2 (hereL K K').length k2, Value.slice g3 (goneL V V').length k3, Value.slice g4 (hereL V V').length k4]) (w.heap.size + 1 + 1) [Value.slice g1 (goneL K K').length k1, Value.slice g2 (hereL K K').length k2, Value.slice g3 (goneL V V').length k3, Value.slice g4 (hereL V V').length k4]) := hRr.sets _ rfl
  have HBf : Hid (Below w.heap.size w (W8.setCells (w.heap.size + 1 + 1) 0 [Value.slice g1 (goneL K K').length k1, Value.slice g2 (hereL K K').length k2, Value.slice g3 (goneL V V').length k3, Value.slice g4 (hereL V V').length k4])) := below_sets f3.out _ (by omega) _ 0
  have HP1 : Hid (Pair (W8.setCells (w.heap.size + 1 + 1) 0 [Value.slice g1 (goneL K K').length k1, Value.slice g2 (hereL K K').length k2, Value.slice g3 (goneL V V').length k3, Value.slice g4 (hereL V V').length k4]) w.heap.size (Value.slice g1 (goneL K K').length k1) (Value.slice g2 (hereL K K').length k2) (goneL K K') (hereL K K')) := (Pair.others (w.heap.size + 1 + 1) (by have := HSZ.out; have := HLT.out; omega) _ 0 W8 f2.out.1).mono (base' := w.heap.size) (by have := HSZ.out; have := HLT.out; omega)
  have HP2 : Hid (Pair (W8.setCells (w.heap.size + 1 + 1) 0 [Value.slice g1 (goneL K K').length k1, Value.slice g2 (hereL K K').length k2, Value.slice g3 (goneL V V').length k3, Value.slice g4 (hereL V V').length k4]) w.heap.size (Value.slice g3 (goneL V V').length k3) (Value.slice g4 (hereL V V').length k4) (goneL V V') (hereL V V')) := (Pair.others (w.heap.size + 1 + 1) (by have := HSZ.out; have := HLT.out; omega) _ 0 W8 f2.out.2).mono (base' := w.heap.size) (by have := HSZ.out; have := HLT.out; omega)
  clear f1 f2 f3 hRr hDd
  go_wp2
  refine ret_cell_tmp Tryz.results6 rfl rfl (HRf.out.load Tryz.underlying27 rfl sizeDelta) ?_
  unfold Deltas
  rw [HF.out, HL0.out.1, HL0.out.2, HL1.out.1, HL1.out.2]
  exact ⟨g1, g2, g3, g4, k1, k2, k3, k4, rfl, ⟨HP1.out.2.reads.2.1, HP2.out.2.reads.2.1⟩, ⟨HP1.out.1.fresh, HP1.out.2.reads.2.2, HP2.out.1.fresh, HP2.out.2.reads.2.2⟩, HP1.out.1.reads, HP1.out.2.reads.1, HP2.out.1.reads, HP2.out.2.reads.1, HBf.out⟩
end Go.Proofs.YtkjgoikcibgonacGreat

