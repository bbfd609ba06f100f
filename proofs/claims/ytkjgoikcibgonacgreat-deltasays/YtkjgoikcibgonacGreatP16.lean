/- 4 texts of the proof: delta.Same, orangeryref.SameDelta, orangeryref.half, orangeryref.CheckDelta. Plain facts on the reference's way to apply a delta: a table turned, step by step. orangeryref.Applied$1: a table turned. Slices that are elder, or newer, than a block that is written. -/
import Derived.Test.YtkjgoikcibgonacGreatP10
import Derived.Test.YtkjgoikcibgonacGreatP03
import Derived.Test.YtkjgoikcibgonacGreatP02
import Derived.Test.YtkjgoikcibgonacGreatP05
import Derived.Test.YtkjgoikcibgonacGreatP13
import Derived.Test.YtkjgoikcibgonacGreatP11
import Derived.Test.YtkjgoikcibgonacGreatP09
/- delta.Same, orangeryref.SameDelta, orangeryref.half, orangeryref.CheckDelta. -/
namespace Go.Proofs.YtkjgoikcibgonacGreat
open Go.ChangeShapes Go.WideShapes Go.ChangeAt Go.RowKit
open Orangery (Pl hasB inRangeB goneE hereE halfE deltaE orI sameD)

set_option maxHeartbeats 1000000 in
set_option maxRecDepth 100000 in
theorem dsame_any (w : World) (aG aH aX aY bG bH bX bY : Option Addr) (cG cH cX cY dG dH dX dY : Nat) (G G' : List Int) (H H' : List Pl) (X X' : List Int) (Y Y' : List Pl) (hm : G.length ≤ maxLen ∧ H.length ≤ maxLen ∧ X.length ≤ maxLen ∧ Y.length ≤ maxLen)
    (h1 : SlI w aG G) (h2 : SlP w aH H) (h3 : SlI w aX X) (h4 : SlP w aY Y) (h5 : SlI w bG G') (h6 : SlP w bH H') (h7 : SlI w bX X') (h8 : SlP w bY Y') :
    Calls Tryz.prog 11 #[deV (.slice aG G.length cG) (.slice aH H.length cH) (.slice aX X.length cX) (.slice aY Y.length cY), deV (.slice bG G'.length dG) (.slice bH H'.length dH) (.slice bX X'.length dX) (.slice bY Y'.length dY)] w
      fun e w' => e = .returned (.bool (sameD G G' H H' X X' Y Y')) ∧ Below w.heap.size w w' := by
  have HS : Hid (sameD G G' H H' X X' Y Y' = (eqIs G G' && eqPls H H' && eqIs X X' && eqPls Y Y')) := rfl
  obtain ⟨W0, hW, hA, hC, hB, -⟩ := laid2 w [Value.slice aG G.length cG, Value.slice aH H.length cH, Value.slice aX X.length cX, Value.slice aY Y.length cY] 27 [Value.slice bG G'.length dG, Value.slice bH H'.length dH, Value.slice bX X'.length dX, Value.slice bY Y'.length dY] 27
  have HB0 : Hid (Below w.heap.size w W0) := hB
  have P1_0 := h1.below hB
  have P2_0 := h2.below hB
  have P3_0 := h3.below hB
  have P4_0 := h4.below hB
  have P5_0 := h5.below hB
  have P6_0 := h6.below hB
  have P7_0 := h7.below hB
  have P8_0 := h8.below hB
  have A_0 := hA
  have C_0 := hC
  clear h1 h2 h3 h4 h5 h6 h7 h8 hB hA hC
  have x0 := A_0.at 0 rfl
  have y0 := C_0.at 0 rfl
  go_enter Tryz.func11, Tryz.ntmps11
  go_wp2_with fail
  clear hW x0 y0
  refine (equal_is W0 aG bG cG dG G G' hm.1 P1_0 P5_0).mono ?_
  rintro e v0 ⟨rfl, n0, rfl⟩
  have hb : Below W0.heap.size W0 (W0.drewN n0) := ⟨rfl, rfl, rfl, Nat.le_refl _, fun _ _ => rfl⟩
  generalize W0.drewN n0 = v0 at *
  have P1_1 := P1_0.below hb
  have P2_1 := P2_0.below hb
  have P3_1 := P3_0.below hb
  have P4_1 := P4_0.below hb
  have P5_1 := P5_0.below hb
  have P6_1 := P6_0.below hb
  have P7_1 := P7_0.below hb
  have P8_1 := P8_0.below hb
  have A_1 := A_0.keep hb
  have C_1 := C_0.keep hb
  have HB1 : Hid (Below w.heap.size w v0) := HB0.out.trans (hb.mono HB0.out.size)
  clear P1_0 P2_0 P3_0 P4_0 P5_0 P6_0 P7_0 P8_0 A_0 C_0 HB0
  clear hb
  have x1 := A_1.at 1 rfl
  have y1 := C_1.at 1 rfl
  cases hq0 : eqIs G G'
  · go_wp2
    go_ret
    exact ⟨ret_bool (by rw [HS.out, hq0]; simp), HB1.out⟩
  · go_wp2_with fail
    clear x1 y1
    refine (equal_pls v0 aH bH cH dH H H' hm.2.1 P2_1 P6_1).mono ?_
    rintro e v1 ⟨rfl, n1, rfl⟩
    have hb : Below v0.heap.size v0 (v0.drewN n1) := ⟨rfl, rfl, rfl, Nat.le_refl _, fun _ _ => rfl⟩
    generalize v0.drewN n1 = v1 at *
    have P1_2 := P1_1.below hb
    have P2_2 := P2_1.below hb
    have P3_2 := P3_1.below hb
    have P4_2 := P4_1.below hb
    have P5_2 := P5_1.below hb
    have P6_2 := P6_1.below hb
    have P7_2 := P7_1.below hb
    have P8_2 := P8_1.below hb
    have A_2 := A_1.keep hb
    have C_2 := C_1.keep hb
    have HB2 : Hid (Below w.heap.size w v1) := HB1.out.trans (hb.mono HB1.out.size)
    clear P1_1 P2_1 P3_1 P4_1 P5_1 P6_1 P7_1 P8_1 A_1 C_1 HB1
    clear hb
    have x2 := A_2.at 2 rfl
    have y2 := C_2.at 2 rfl
    cases hq1 : eqPls H H'
    · go_wp2
      go_ret
      exact ⟨ret_bool (by rw [HS.out, hq0, hq1]; simp), HB2.out⟩
    · go_wp2_with fail
      clear x2 y2
      refine (equal_is v1 aX bX cX dX X X' hm.2.2.1 P3_2 P7_2).mono ?_
      rintro e v2 ⟨rfl, n2, rfl⟩
      have hb : Below v1.heap.size v1 (v1.drewN n2) := ⟨rfl, rfl, rfl, Nat.le_refl _, fun _ _ => rfl⟩
      generalize v1.drewN n2 = v2 at *
      have P1_3 := P1_2.below hb
      have P2_3 := P2_2.below hb
      have P3_3 := P3_2.below hb
      have P4_3 := P4_2.below hb
      have P5_3 := P5_2.below hb
      have P6_3 := P6_2.below hb
      have P7_3 := P7_2.below hb
      have P8_3 := P8_2.below hb
      have A_3 := A_2.keep hb
      have C_3 := C_2.keep hb
      have HB3 : Hid (Below w.heap.size w v2) := HB2.out.trans (hb.mono HB2.out.size)
      clear P1_2 P2_2 P3_2 P4_2 P5_2 P6_2 P7_2 P8_2 A_2 C_2 HB2
      clear hb
      have x3 := A_3.at 3 rfl
      have y3 := C_3.at 3 rfl
      cases hq2 : eqIs X X'
      · go_wp2
        go_ret
        exact ⟨ret_bool (by rw [HS.out, hq0, hq1, hq2]; simp), HB3.out⟩
      · go_wp2_with fail
        clear x3 y3
        refine (equal_pls v2 aY bY cY dY Y Y' hm.2.2.2 P4_3 P8_3).mono ?_
        rintro e v3 ⟨rfl, n3, rfl⟩
        have hb : Below v2.heap.size v2 (v2.drewN n3) := ⟨rfl, rfl, rfl, Nat.le_refl _, fun _ _ => rfl⟩
        generalize v2.drewN n3 = v3 at *
        have P1_4 := P1_3.below hb
        have P2_4 := P2_3.below hb
        have P3_4 := P3_3.below hb
        have P4_4 := P4_3.below hb
        have P5_4 := P5_3.below hb
        have P6_4 := P6_3.below hb
        have P7_4 := P7_3.below hb
        have P8_4 := P8_3.below hb
        have A_4 := A_3.keep hb
        have C_4 := C_3.keep hb
        have HB4 : Hid (Below w.heap.size w v3) := HB3.out.trans (hb.mono HB3.out.size)
        clear P1_3 P2_3 P3_3 P4_3 P5_3 P6_3 P7_3 P8_3 A_3 C_3 HB3
        clear hb
        go_wp2
        go_ret
        exact ⟨ret_bool (by rw [HS.out, hq0, hq1, hq2]; simp), HB4.out⟩

set_option maxHeartbeats 1000000 in
set_option maxRecDepth 100000 in
theorem rsameD_any (w : World) (aG aH aX aY bG bH bX bY : Option Addr) (cG cH cX cY dG dH dX dY : Nat) (G G' : List Int) (H H' : List Pl) (X X' : List Int) (Y Y' : List Pl) (hm : G.length ≤ maxLen ∧ H.length ≤ maxLen ∧ X.length ≤ maxLen ∧ Y.length ≤ maxLen)
    (h1 : SlI w aG G) (h2 : SlP w aH H) (h3 : SlI w aX X) (h4 : SlP w aY Y) (h5 : SlI w bG G') (h6 : SlP w bH H') (h7 : SlI w bX X') (h8 : SlP w bY Y') :
    Calls Tryz.prog 12 #[deV (.slice aG G.length cG) (.slice aH H.length cH) (.slice aX X.length cX) (.slice aY Y.length cY), deV (.slice bG G'.length dG) (.slice bH H'.length dH) (.slice bX X'.length dX) (.slice bY Y'.length dY)] w
      fun e w' => e = .returned (.bool (sameD G G' H H' X X' Y Y')) ∧ Below w.heap.size w w' := by
  have HS : Hid (sameD G G' H H' X X' Y Y' = (eqIs G G' && eqPls H H' && eqIs X X' && eqPls Y Y')) := rfl
  obtain ⟨W0, hW, hA, hC, hB, -⟩ := laid2 w [Value.slice aG G.length cG, Value.slice aH H.length cH, Value.slice aX X.length cX, Value.slice aY Y.length cY] 27 [Value.slice bG G'.length dG, Value.slice bH H'.length dH, Value.slice bX X'.length dX, Value.slice bY Y'.length dY] 27
  have HB0 : Hid (Below w.heap.size w W0) := hB
  have P1_0 := h1.below hB
  have P2_0 := h2.below hB
  have P3_0 := h3.below hB
  have P4_0 := h4.below hB
  have P5_0 := h5.below hB
  have P6_0 := h6.below hB
  have P7_0 := h7.below hB
  have P8_0 := h8.below hB
  have A_0 := hA
  have C_0 := hC
  clear h1 h2 h3 h4 h5 h6 h7 h8 hB hA hC
  have x0 := A_0.at 0 rfl
  have y0 := C_0.at 0 rfl
  go_enter Tryz.func12, Tryz.ntmps12
  go_wp2_with fail
  clear hW x0 y0
  refine (equal_is W0 aG bG cG dG G G' hm.1 P1_0 P5_0).mono ?_
  rintro e v0 ⟨rfl, n0, rfl⟩
  have hb : Below W0.heap.size W0 (W0.drewN n0) := ⟨rfl, rfl, rfl, Nat.le_refl _, fun _ _ => rfl⟩
  generalize W0.drewN n0 = v0 at *
  have P1_1 := P1_0.below hb
  have P2_1 := P2_0.below hb
  have P3_1 := P3_0.below hb
  have P4_1 := P4_0.below hb
  have P5_1 := P5_0.below hb
  have P6_1 := P6_0.below hb
  have P7_1 := P7_0.below hb
  have P8_1 := P8_0.below hb
  have A_1 := A_0.keep hb
  have C_1 := C_0.keep hb
  have HB1 : Hid (Below w.heap.size w v0) := HB0.out.trans (hb.mono HB0.out.size)
  clear P1_0 P2_0 P3_0 P4_0 P5_0 P6_0 P7_0 P8_0 A_0 C_0 HB0
  clear hb
  have x1 := A_1.at 1 rfl
  have y1 := C_1.at 1 rfl
  cases hq0 : eqIs G G'
  · go_wp2
    go_ret
    exact ⟨ret_bool (by rw [HS.out, hq0]; simp), HB1.out⟩
  · go_wp2_with fail
    clear x1 y1
    refine (equal_pls v0 aH bH cH dH H H' hm.2.1 P2_1 P6_1).mono ?_
    rintro e v1 ⟨rfl, n1, rfl⟩
    have hb : Below v0.heap.size v0 (v0.drewN n1) := ⟨rfl, rfl, rfl, Nat.le_refl _, fun _ _ => rfl⟩
    generalize v0.drewN n1 = v1 at *
    have P1_2 := P1_1.below hb
    have P2_2 := P2_1.below hb
    have P3_2 := P3_1.below hb
    have P4_2 := P4_1.below hb
    have P5_2 := P5_1.below hb
    have P6_2 := P6_1.below hb
    have P7_2 := P7_1.below hb
    have P8_2 := P8_1.below hb
    have A_2 := A_1.keep hb
    have C_2 := C_1.keep hb
    have HB2 : Hid (Below w.heap.size w v1) := HB1.out.trans (hb.mono HB1.out.size)
    clear P1_1 P2_1 P3_1 P4_1 P5_1 P6_1 P7_1 P8_1 A_1 C_1 HB1
    clear hb
    have x2 := A_2.at 2 rfl
    have y2 := C_2.at 2 rfl
    cases hq1 : eqPls H H'
    · go_wp2
      go_ret
      exact ⟨ret_bool (by rw [HS.out, hq0, hq1]; simp), HB2.out⟩
    · go_wp2_with fail
      clear x2 y2
      refine (equal_is v1 aX bX cX dX X X' hm.2.2.1 P3_2 P7_2).mono ?_
      rintro e v2 ⟨rfl, n2, rfl⟩
      have hb : Below v1.heap.size v1 (v1.drewN n2) := ⟨rfl, rfl, rfl, Nat.le_refl _, fun _ _ => rfl⟩
      generalize v1.drewN n2 = v2 at *
      have P1_3 := P1_2.below hb
      have P2_3 := P2_2.below hb
      have P3_3 := P3_2.below hb
      have P4_3 := P4_2.below hb
      have P5_3 := P5_2.below hb
      have P6_3 := P6_2.below hb
      have P7_3 := P7_2.below hb
      have P8_3 := P8_2.below hb
      have A_3 := A_2.keep hb
      have C_3 := C_2.keep hb
      have HB3 : Hid (Below w.heap.size w v2) := HB2.out.trans (hb.mono HB2.out.size)
      clear P1_2 P2_2 P3_2 P4_2 P5_2 P6_2 P7_2 P8_2 A_2 C_2 HB2
      clear hb
      have x3 := A_3.at 3 rfl
      have y3 := C_3.at 3 rfl
      cases hq2 : eqIs X X'
      · go_wp2
        go_ret
        exact ⟨ret_bool (by rw [HS.out, hq0, hq1, hq2]; simp), HB3.out⟩
      · go_wp2_with fail
        clear x3 y3
        refine (equal_pls v2 aY bY cY dY Y Y' hm.2.2.2 P4_3 P8_3).mono ?_
        rintro e v3 ⟨rfl, n3, rfl⟩
        have hb : Below v2.heap.size v2 (v2.drewN n3) := ⟨rfl, rfl, rfl, Nat.le_refl _, fun _ _ => rfl⟩
        generalize v2.drewN n3 = v3 at *
        have P1_4 := P1_3.below hb
        have P2_4 := P2_3.below hb
        have P3_4 := P3_3.below hb
        have P4_4 := P4_3.below hb
        have P5_4 := P5_3.below hb
        have P6_4 := P6_3.below hb
        have P7_4 := P7_3.below hb
        have P8_4 := P8_3.below hb
        have A_4 := A_3.keep hb
        have C_4 := C_3.keep hb
        have HB4 : Hid (Below w.heap.size w v3) := HB3.out.trans (hb.mono HB3.out.size)
        clear P1_3 P2_3 P3_3 P4_3 P5_3 P6_3 P7_3 P8_3 A_3 C_3 HB3
        clear hb
        go_wp2
        go_ret
        exact ⟨ret_bool (by rw [HS.out, hq0, hq1, hq2]; simp), HB4.out⟩

theorem cpE_of (p : Pl) : cpE p = if inRangeB p = true then 0 else 3 := by cases h : inRangeB p <;> simp [cpE, h]

set_option maxHeartbeats 2000000 in
set_option maxRecDepth 100000 in
theorem rhalf_any (w : World) (aG aH : Option Addr) (cG cH : Nat) (G : List Int) (H : List Pl) (hG : G.length ≤ maxLen) (hH : H.length ≤ maxLen) (h1 : SlI w aG G) (h2 : SlP w aH H) :
    Calls Tryz.prog 33 #[.slice aG G.length cG, .slice aH H.length cH] w fun e w' => e = .returned (.int .i64 (halfE G H)) ∧ Below w.heap.size w w' := by
  have hl1 : G.length ≤ 9223372036854775807 := hG
  have hl2 : H.length ≤ 9223372036854775807 := hH
  go_enter Tryz.func33, Tryz.ntmps33
  by_cases hg : 16 < G.length
  · have d1 : decide ((G.length : Int) > 16) = true := by simp; omega
    have HE : Hid (halfE G H = 2) := by show _ = _; unfold halfE; rw [if_pos (Or.inl hg)]
    clear hg
    go_wp2
    go_ret
    exact ⟨ret_int HE.out.symm, Below.refl _ _⟩
  · have d1 : decide ((G.length : Int) > 16) = false := by simp; omega
    by_cases hh : 16 < H.length
    · have d2 : decide ((H.length : Int) > 16) = true := by simp; omega
      have HE : Hid (halfE G H = 2) := by show _ = _; unfold halfE; rw [if_pos (Or.inr hh)]
      clear hg hh
      go_wp2
      go_ret
      exact ⟨ret_int HE.out.symm, Below.refl _ _⟩
    · have d2 : decide ((H.length : Int) > 16) = false := by simp; omega
      have HE : Hid (halfE G H = orI (goneE 0 G) (hereE G 0 H)) := Orangery.half_or G H (by omega)
      clear hg hh
      go_wp2
      clear d1 d2
      go_loop [5, 21] (fun x i => ∃ (k : Nat) (m : Int), k ≤ G.length ∧ x = .int .i64 m ∧ i = .int .i64 k ∧ goneE m (G.drop k) = goneE 0 G) (fun _ i => G.length - (intOf i).toNat)
      case atStart => exact ⟨0, 0, Nat.zero_le _, rfl, rfl, rfl⟩
      case round =>
        obtain ⟨k, m, hk, rfl, rfl, hf⟩ := hrel
        by_cases hlt : k < G.length
        · obtain ⟨s1, s2, s3⟩ := Orangery.goneE_step G k _ hlt hf
          have H1 : Hid (¬ (1 ≤ G[k] ∧ G[k] ≤ 15) → goneE 0 G = 5) := s1
          have H2 : Hid (1 ≤ G[k] ∧ G[k] ≤ 15 → G[k] ≤ m → goneE 0 G = 6) := s2
          have H3 : Hid (1 ≤ G[k] ∧ G[k] ≤ 15 → ¬ G[k] ≤ m → goneE G[k] (G.drop (k + 1)) = goneE 0 G) := s3
          clear s1 s2 s3 hf
          obtain ⟨b, off, rfl, hbl, g0⟩ := h1.at k hlt
          generalize G[k] = x at *
          go_wp2_with fail
          refine (rin_any w x 1 15).mono ?_
          rintro e w ⟨rfl, rfl⟩
          by_cases hn : 1 ≤ x ∧ x ≤ 15
          · have hq : inB x 1 15 = true := by unfold inB; simpa using hn
            rw [hq]
            clear hq
            by_cases hq : x ≤ m
            · have HF : Hid (goneE 0 G = 6) := H2.out hn hq
              have x5 : decide (x ≤ m) = true := by simpa using hq
              clear H1 H2 H3 hn hq
              go_wp2
              go_ret
              exact ⟨ret_int (by rw [HE.out, HF.out]; rfl), Below.refl _ _⟩
            · have HF : Hid (goneE x (G.drop (k + 1)) = goneE 0 G) := H3.out hn (by omega)
              have x5 : decide (x ≤ m) = false := by simpa using hq
              clear H1 H2 H3 hn hq
              go_wp2
              go_round
              case rel => exact ⟨k + 1, x, hlt, rfl, by go_num, HF.out⟩
              case measure => simp [intOf]; omega
          · have hq : inB x 1 15 = false := by unfold inB; simpa using hn
            rw [hq]
            have HF : Hid (goneE 0 G = 5) := H1.out hn
            clear H1 H2 H3 hn hq
            go_wp2
            go_ret
            exact ⟨ret_int (by rw [HE.out, HF.out]; rfl), Below.refl _ _⟩
        · have hk' : G.drop k = [] := by simp; omega
          rw [hk'] at hf
          have HF : Hid (halfE G H = hereE G 0 H) := by show _ = _; rw [HE.out, ← hf]; rfl
          have HP : Hid (SlP w aH H) := h2
          have HG : Hid (SlI w aG G) := h1
          have HM : Hid (G.length ≤ maxLen) := hG
          clear hf hk' HE h1 h2
          go_wp2
          go_loopw [5, 35] (fun x i W => ∃ (k : Nat) (m : Int), k ≤ H.length ∧ x = .int .i64 m ∧ i = .int .i64 k ∧ hereE G m (H.drop k) = hereE G 0 H ∧ Below w.heap.size w W) (fun _ i _ => H.length - (intOf i).toNat)
          case atStart => exact ⟨0, 0, Nat.zero_le _, rfl, rfl, rfl, Below.refl _ _⟩
          case round =>
            obtain ⟨k, m, hk, rfl, rfl, hf, hb⟩ := hrel
            by_cases hlt : k < H.length
            · obtain ⟨s1, s2, s3⟩ := Orangery.hereE_step G H k _ hlt hf
              have HS1 : Hid (inRangeB H[k] = false → hereE G 0 H = 3) := s1
              have HS2 : Hid (inRangeB H[k] = true → H[k].1 ≤ m ∨ hasB H[k].1 G = true → hereE G 0 H = 6) := s2
              have HS3 : Hid (inRangeB H[k] = true → ¬ H[k].1 ≤ m → hasB H[k].1 G = false → hereE G H[k].1 (H.drop (k + 1)) = hereE G 0 H) := s3
              clear s1 s2 s3 hf
              have hP := HP.out.below hb
              rcases hP with hP | ⟨b, off, rfl, hbl, hp⟩
              · exact absurd hlt (by simp [hP])
              obtain ⟨g0, g1, g2⟩ := hp k hlt
              clear hp hbl
              generalize H[k] = q at *
              obtain ⟨q0, q1, q2⟩ := q
              dsimp only at g0 g1 g2 HS2 HS3
              obtain ⟨W1, hW1, hN, hB1, -⟩ := laid1 wr [Value.int IntKind.i64 q0, Value.int IntKind.i64 q1, Value.int IntKind.i64 q2] 55
              have HB1 : Hid (Below w.heap.size w W1) := hb.trans (hB1.mono hb.size)
              have n0 := hN.at 0 rfl
              have n1 := hN.at 1 rfl
              have n2 := hN.at 2 rfl
              have HN : Hid (Blk W1 wr.heap.size [Value.int IntKind.i64 q0, Value.int IntKind.i64 q1, Value.int IntKind.i64 q2]) := hN
              clear hN hB1 hb
              go_wp2_with fail
              clear hW1 n0 n1 n2 g0 g1 g2
              refine (checkPlace_any W1 (q0, q1, q2)).mono ?_
              rintro e w2 ⟨rfl, hb2⟩
              rw [cpE_of]
              have HB2 : Hid (Below w.heap.size w w2) := HB1.out.trans (hb2.mono HB1.out.size)
              have n0 := (HN.out.keep hb2).at 0 rfl
              have HG2 : Hid (SlI w2 aG G) := HG.out.below HB2.out
              clear HN hb2 HB1
              cases hr : inRangeB (q0, q1, q2)
              · have HF3 : Hid (hereE G 0 H = 3) := HS1.out hr
                clear HS1 HS2 HS3
                simp only [Bool.false_eq_true, if_false]
                go_wp2
                go_ret
                exact ⟨ret_int (by rw [HF.out, HF3.out]), HB2.out⟩
              · simp only [if_true]
                by_cases hq : q0 ≤ m
                · have HF6 : Hid (hereE G 0 H = 6) := HS2.out hr (Or.inl hq)
                  have x5 : decide (q0 ≤ m) = true := by simpa using hq
                  clear HS1 HS2 HS3 hq hr
                  go_wp2
                  go_ret
                  exact ⟨ret_int (by rw [HF.out, HF6.out]), HB2.out⟩
                · have x5 : decide (q0 ≤ m) = false := by simpa using hq
                  have HA : Hid (hasB q0 G = true → hereE G 0 H = 6) := fun h => HS2.out hr (Or.inr h)
                  have HZ : Hid (hasB q0 G = false → hereE G q0 (H.drop (k + 1)) = hereE G 0 H) := fun h => HS3.out hr (by omega) h
                  clear HS1 HS2 HS3 hq hr
                  go_wp2_with fail
                  refine (containsI_any w2 aG cG q0 G HM.out HG2.out).mono ?_
                  rintro e w2 ⟨rfl, rfl⟩
                  cases hg : hasB q0 G
                  · have HF0 : Hid (hereE G q0 (H.drop (k + 1)) = hereE G 0 H) := HZ.out hg
                    clear HA HZ
                    go_wp2
                    go_roundw
                    case rel => exact ⟨k + 1, q0, hlt, rfl, by go_num, HF0.out, HB2.out⟩
                    case measure => simp [intOf]; omega
                  · have HF6 : Hid (hereE G 0 H = 6) := HA.out hg
                    clear HA HZ
                    go_wp2
                    go_ret
                    exact ⟨ret_int (by rw [HF.out, HF6.out]), HB2.out⟩
            · have hk' : H.drop k = [] := by simp; omega
              rw [hk'] at hf
              have HF0 : Hid (hereE G 0 H = 0) := hf.symm
              clear hf hk'
              go_wp2
              go_ret
              exact ⟨ret_int (by rw [HF.out, HF0.out]), hb⟩

set_option maxHeartbeats 1000000 in
theorem rcheckD_any (w : World) (aG aH aX aY : Option Addr) (cG cH cX cY : Nat) (G : List Int) (H : List Pl) (X : List Int) (Y : List Pl)
    (hm : G.length ≤ maxLen ∧ H.length ≤ maxLen ∧ X.length ≤ maxLen ∧ Y.length ≤ maxLen) (h1 : SlI w aG G) (h2 : SlP w aH H) (h3 : SlI w aX X) (h4 : SlP w aY Y) :
    Calls Tryz.prog 10 #[deV (.slice aG G.length cG) (.slice aH H.length cH) (.slice aX X.length cX) (.slice aY Y.length cY)] w fun e w' => e = .returned (.int .i64 (deltaE G H X Y)) ∧ Below w.heap.size w w' := by
  have HE : Hid (deltaE G H X Y = orI (halfE G H) (halfE X Y)) := rfl
  obtain ⟨W0, hW, hX, hB, -⟩ := laid1 w [Value.slice aG G.length cG, Value.slice aH H.length cH, Value.slice aX X.length cX, Value.slice aY Y.length cY] 27
  have y0 := hX.at 0 rfl
  have y1 := hX.at 1 rfl
  have HB : Hid (Below w.heap.size w W0) := hB
  have HP : Hid (SlI W0 aX X ∧ SlP W0 aY Y) := ⟨h3.below hB, h4.below hB⟩
  have HC1 : Hid (Calls Tryz.prog 33 #[.slice aG G.length cG, .slice aH H.length cH] W0 fun e w' => e = .returned (.int .i64 (halfE G H)) ∧ Below W0.heap.size W0 w') := rhalf_any W0 aG aH cG cH G H hm.1 hm.2.1 (h1.below hB) (h2.below hB)
  have HC2 : Hid (∀ W, Below W0.heap.size W0 W → Calls Tryz.prog 33 #[.slice aX X.length cX, .slice aY Y.length cY] W fun e w' => e = .returned (.int .i64 (halfE X Y)) ∧ Below W.heap.size W w') := fun W hb => rhalf_any W aX aY cX cY X Y hm.2.2.1 hm.2.2.2 (HP.out.1.below hb) (HP.out.2.below hb)
  generalize halfE G H = E1 at *
  generalize halfE X Y = E2 at *
  clear hB h1 h2 h3 h4 hm HP
  go_enter Tryz.func10, Tryz.ntmps10
  go_wp2_with fail
  clear hW y0 y1
  refine HC1.out.mono ?_
  rintro e w1 ⟨rfl, hb1⟩
  have hX1 := hX.keep hb1
  have HB1 : Hid (Below w.heap.size w w1) := HB.out.trans (hb1.mono HB.out.size)
  by_cases hz : E1 = 0
  · subst hz
    have y2 := hX1.at 2 rfl
    have y3 := hX1.at 3 rfl
    go_wp2_with fail
    refine (HC2.out w1 hb1).mono ?_
    rintro e w2 ⟨rfl, hb2⟩
    have HB2 : Hid (Below w.heap.size w w2) := HB1.out.trans (hb2.mono HB1.out.size)
    clear y2 y3 hb1 hb2 hX hX1
    go_wp2
    go_ret
    exact ⟨ret_int (by rw [HE.out]; rfl), HB2.out⟩
  · have hz' : (E1 != 0) = true := by simpa using hz
    have HF : Hid (deltaE G H X Y = E1) := by show _ = _; rw [HE.out]; unfold orI; rw [if_pos hz]
    clear hz hb1 hX hX1
    go_wp2
    go_ret
    exact ⟨ret_int HF.out.symm, HB1.out⟩
end Go.Proofs.YtkjgoikcibgonacGreat

/- Plain facts on the reference's way to apply a delta: a table turned, step by step. -/
namespace Orangery

theorem turnG_take (l : List Pl) (G : List Int) (k : Nat) (h : k < G.length) (n : Int) :
    turnG l (G.take (k + 1)) n = if n = G[k] then ((turnG l (G.take k) n).1, -1, (turnG l (G.take k) n).2.2) else turnG l (G.take k) n := by
  have e : hasB n (G.take (k + 1)) = (hasB n (G.take k) || decide (n = G[k])) := by
    rw [List.take_succ_eq_append_getElem h]
    unfold hasB
    rw [Bool.eq_iff_iff]
    simp only [decide_eq_true_eq, Bool.or_eq_true, List.mem_append, List.mem_singleton]
  unfold turnG
  rw [e]
  by_cases h1 : n = G[k]
  · rw [if_pos h1]
    cases h2 : hasB n (G.take k) <;> simp [h1]
  · rw [if_neg h1]
    cases h2 : hasB n (G.take k) <;> simp [h1]
theorem turnG_zero (l : List Pl) (G : List Int) (n : Int) : turnG l (G.take 0) n = tabAt l n := by
  unfold turnG
  simp [hasB]
theorem turnT_take (l : List Pl) (G : List Int) (H : List Pl) (k : Nat) (h : k < H.length) (n : Int) :
    turnT l G (H.take (k + 1)) n = if n = H[k].1 then H[k] else turnT l G (H.take k) n := by
  unfold turnT
  rw [List.take_succ_eq_append_getElem h, List.foldl_append, List.foldl_cons, List.foldl_nil]
  by_cases h1 : n = H[k].1
  · rw [if_pos h1, if_pos h1.symm]
  · rw [if_neg h1, if_neg (fun e => h1 e.symm)]
theorem turnT_zero (l : List Pl) (G : List Int) (H : List Pl) (n : Int) : turnT l G (H.take 0) n = turnG l G n := rfl
end Orangery

/- orangeryref.Applied$1: a table turned. -/
namespace Go.Proofs.YtkjgoikcibgonacGreat
open Go.ChangeShapes Go.WideShapes Go.ChangeAt Go.RowKit
open Orangery (Pl scan tabAt turnG turnT appL rows)

theorem HoldsP.lower {w w' : World} {g B : Nat} {m : List Pl} (h : HoldsP w g m) (hb : Below B w w') (hg : g < B) : HoldsP w' g m :=
  ⟨fun i hi => by rw [hb.cell (by exact hg), hb.cell (by exact hg), hb.cell (by exact hg)]; exact h.1 i hi, fun i hi => by rw [hb.frozen (by exact hg)]; exact h.2 i hi⟩

set_option maxHeartbeats 4000000 in
set_option maxRecDepth 100000 in
theorem rturn_any (w : World) (a aG aH : Option Addr) (c cG cH : Nat) (l : List Pl) (G : List Int) (H : List Pl) (hl : scan 0 l = 0) (hgl : G.length ≤ 1000) (hG : ∀ n ∈ G, 1 ≤ n ∧ n ≤ 15) (hH : scan 0 H = 0) (h0 : SlP w a l) (h1 : SlI w aG G) (h2 : SlP w aH H) :
    Calls Tryz.prog 24 #[.slice a l.length c, .slice aG G.length cG, .slice aH H.length cH] w
      fun e w' => ∃ v, e = .returned v ∧ OwnS w' w.heap.size v (appL l G H) ∧ Below w.heap.size w w' := by
  have hla := Orangery.scan_small hl
  have hlh := Orangery.scan_small hH
  have HRW : Hid (rows (fun n => turnT l G H n) 16 = appL l G H) := Orangery.turn_rows l G H hl hH
  have HGR : Hid (∀ n ∈ G, 1 ≤ n ∧ n ≤ 15) := hG
  have HHR : Hid (∀ p ∈ H, 1 ≤ p.1 ∧ p.1 ≤ 15) := fun p hp => by have := (Orangery.inRangeB_iff p).1 (Orangery.scan_range H 0 hH p hp).1; omega
  have HPG : Hid (SlI w aG G) := h1
  have HPH : Hid (SlP w aH H) := h2
  clear h1 h2 hG
  go_enter Tryz.func24, Tryz.ntmps24
  go_wp2_with fail
  refine (table_any w a c l (by omega) h0 hl).mono ?_
  rintro e w1 ⟨rfl, hb1⟩
  have hcs : ((tabL fun n => tabAt l n).flatMap encPl).length = 48 := by rw [flat_len, tabL_len]
  have hone := all_oneCell_toArray (flat_one (tabL fun n => tabAt l n))
  unfold tabV
  generalize hcd : (tabL fun n => tabAt l n).flatMap encPl = cs at *
  have HCD : Hid ((tabL fun n => tabAt l n).flatMap encPl = cs) := hcd
  clear hcd
  have hst : (storeCells ⟨w1.heap.size, 0, none⟩ cs 0).run Tryz.prog (w1.alloc (.cells #[Value.int IntKind.i64 0, Value.int IntKind.i64 0, Value.int IntKind.i64 0, Value.int IntKind.i64 0, Value.int IntKind.i64 0, Value.int IntKind.i64 0, Value.int IntKind.i64 0, Value.int IntKind.i64 0, Value.int IntKind.i64 0, Value.int IntKind.i64 0, Value.int IntKind.i64 0, Value.int IntKind.i64 0, Value.int IntKind.i64 0, Value.int IntKind.i64 0, Value.int IntKind.i64 0, Value.int IntKind.i64 0, Value.int IntKind.i64 0, Value.int IntKind.i64 0, Value.int IntKind.i64 0, Value.int IntKind.i64 0, Value.int IntKind.i64 0, Value.int IntKind.i64 0, Value.int IntKind.i64 0, Value.int IntKind.i64 0, Value.int IntKind.i64 0, Value.int IntKind.i64 0, Value.int IntKind.i64 0, Value.int IntKind.i64 0, Value.int IntKind.i64 0, Value.int IntKind.i64 0, Value.int IntKind.i64 0, Value.int IntKind.i64 0, Value.int IntKind.i64 0, Value.int IntKind.i64 0, Value.int IntKind.i64 0, Value.int IntKind.i64 0, Value.int IntKind.i64 0, Value.int IntKind.i64 0, Value.int IntKind.i64 0, Value.int IntKind.i64 0, Value.int IntKind.i64 0, Value.int IntKind.i64 0, Value.int IntKind.i64 0, Value.int IntKind.i64 0, Value.int IntKind.i64 0, Value.int IntKind.i64 0, Value.int IntKind.i64 0, Value.int IntKind.i64 0] 56)) = .ok () (w1.alloc (.cells cs.toArray 56)) := by
    have := run_storeCells_new (P := Tryz.prog) w1 56 #[Value.int IntKind.i64 0, Value.int IntKind.i64 0, Value.int IntKind.i64 0, Value.int IntKind.i64 0, Value.int IntKind.i64 0, Value.int IntKind.i64 0, Value.int IntKind.i64 0, Value.int IntKind.i64 0, Value.int IntKind.i64 0, Value.int IntKind.i64 0, Value.int IntKind.i64 0, Value.int IntKind.i64 0, Value.int IntKind.i64 0, Value.int IntKind.i64 0, Value.int IntKind.i64 0, Value.int IntKind.i64 0, Value.int IntKind.i64 0, Value.int IntKind.i64 0, Value.int IntKind.i64 0, Value.int IntKind.i64 0, Value.int IntKind.i64 0, Value.int IntKind.i64 0, Value.int IntKind.i64 0, Value.int IntKind.i64 0, Value.int IntKind.i64 0, Value.int IntKind.i64 0, Value.int IntKind.i64 0, Value.int IntKind.i64 0, Value.int IntKind.i64 0, Value.int IntKind.i64 0, Value.int IntKind.i64 0, Value.int IntKind.i64 0, Value.int IntKind.i64 0, Value.int IntKind.i64 0, Value.int IntKind.i64 0, Value.int IntKind.i64 0, Value.int IntKind.i64 0, Value.int IntKind.i64 0, Value.int IntKind.i64 0, Value.int IntKind.i64 0, Value.int IntKind.i64 0, Value.int IntKind.i64 0, Value.int IntKind.i64 0, Value.int IntKind.i64 0, Value.int IntKind.i64 0, Value.int IntKind.i64 0, Value.int IntKind.i64 0, Value.int IntKind.i64 0] cs.toArray (by rw [infoTable]; simp [hcs]) (by simp [hcs]) hone
    exact this
  have hT := Blk.new w1 cs 56
  have HFL : Hid (HoldsP (w1.alloc (.cells cs.toArray 56)) w1.heap.size (tabL fun n => tabAt l n)) := by
    show HoldsP _ _ _
    rw [← HCD.out] at hT ⊢
    exact hT.holds
  have HB1 : Hid (Below w.heap.size w (w1.alloc (.cells cs.toArray 56))) := hb1.alloc hb1.size _
  have hsz1 : w.heap.size ≤ w1.heap.size := hb1.size
  have HS2 : Hid ((w1.alloc (.cells cs.toArray 56)).heap.size = w1.heap.size + 1) := by show _ = _; simp
  clear h0 hb1 hone hT
  go_wp2
  clear hst
  generalize w1.alloc (.cells cs.toArray 56) = W2 at *
  clear HCD hcs
  have hs2 : w1.heap.size < W2.heap.size := by have := HS2.out; omega
  go_loopw [16] (fun x W => ∃ k : Nat, k ≤ G.length ∧ x = .int .i64 k ∧ HoldsP W w1.heap.size (tabL fun n => turnG l (G.take k) n) ∧ Below w1.heap.size W2 W) (fun x _ => G.length - (intOf x).toNat)
  case atStart => exact ⟨0, by omega, rfl, by have e : (tabL fun n => turnG l (G.take 0) n) = tabL fun n => tabAt l n := congrArg tabL (funext fun n => Orangery.turnG_zero l G n); rw [e]; exact HFL.out, Below.refl _ _⟩
  case round =>
    obtain ⟨k, hk, rfl, hH, hb⟩ := hrel
    have HH : Hid (HoldsP wr w1.heap.size (tabL fun n => turnG l (G.take k) n)) := hH
    by_cases hlt : k < G.length
    · have hbw : Below w.heap.size w wr := HB1.out.trans (hb.mono hsz1)
      obtain ⟨b, off, rfl, hbl, g0⟩ := (HPG.out.below hbw).at k hlt
      have hr := HGR.out G[k] (List.getElem_mem hlt)
      have HST : Hid (∀ n : Nat, turnG l (G.take (k + 1)) n = if (n : Int) = G[k] then ((turnG l (G.take k) n).1, -1, (turnG l (G.take k) n).2.2) else turnG l (G.take k) n) := fun n => Orangery.turnG_take l G k hlt n
      obtain ⟨m, hm⟩ : ∃ m : Nat, G[k] = m := ⟨G[k].toNat, by omega⟩
      have hm16 : m < 16 := by omega
      have hc := (hH.1 m (by rw [tabL_len]; exact hm16)).2.1
      have hf := hH.2 (m * 3 + 1) (by rw [tabL_len]; omega)
      simp only [Nat.zero_add] at hc
      rw [hm] at g0
      have HM : Hid (G[k] = m) := hm
      clear hH hm hr hbl
      go_wp2
      go_roundw
      case rel =>
        refine ⟨k + 1, by omega, by go_num, ?_, hb.setCell (by show _ ≤ w1.heap.size; omega) _⟩
        have h1 := HH.out.set1 m (by rw [tabL_len]; exact hm16) (-1)
        rw [tabL_get] at h1
        rw [tabL_set _ (fun n => turnG l (G.take (k + 1)) n) m] at h1
        · exact h1
        · show turnG l (G.take (k + 1)) (m : Int) = _
          rw [HST.out, if_pos HM.out.symm]
        · intro n hn
          show turnG l (G.take (k + 1)) (n : Int) = _
          rw [HST.out, if_neg (by rw [HM.out]; omega)]
      case measure => simp [intOf]; omega
    · have hkl : k = G.length := by omega
      subst hkl
      rw [List.take_length] at hH
      have HT2 : Hid (HoldsP wr w1.heap.size (tabL fun n => turnT l G (H.take 0) n)) := hH
      clear hH HH
      go_wp2
      rename World => W5
      go_loopw [26] (fun x W => ∃ k : Nat, k ≤ H.length ∧ x = .int .i64 k ∧ HoldsP W w1.heap.size (tabL fun n => turnT l G (H.take k) n) ∧ Below w1.heap.size W2 W) (fun x _ => H.length - (intOf x).toNat)
      case atStart => exact ⟨0, by omega, rfl, HT2.out, hb⟩
      case round =>
        obtain ⟨k, hk', rfl, hH, hb2⟩ := hrel
        clear hb HT2
        have HH : Hid (HoldsP wr w1.heap.size (tabL fun n => turnT l G (H.take k) n)) := hH
        have hlt2 : w1.heap.size < wr.heap.size := by have := hb2.size; omega
        by_cases hlt : k < H.length
        · have hbw : Below w.heap.size w wr := HB1.out.trans (hb2.mono hsz1)
          have hPW : SlP wr aH H := HPH.out.below hbw
          rcases hPW with h' | ⟨b, off, rfl, hbl, hp⟩
          · exact absurd hlt (by simp [h'])
          have hr := HHR.out H[k] (List.getElem_mem hlt)
          have HST : Hid (∀ n : Nat, turnT l G (H.take (k + 1)) n = if (n : Int) = H[k].1 then H[k] else turnT l G (H.take k) n) := fun n => Orangery.turnT_take l G H k hlt n
          obtain ⟨g0, g1, g2⟩ := hp k hlt
          obtain ⟨m, hm⟩ : ∃ m : Nat, H[k].1 = m := ⟨H[k].1.toNat, by omega⟩
          have hm16 : m < 16 := by omega
          have hc := hH.1 m (by rw [tabL_len]; exact hm16)
          simp only [Nat.zero_add] at hc
          obtain ⟨x0, x1, x2⟩ := hc
          have f0 := hH.2 (m * 3) (by rw [tabL_len]; omega)
          have f1 := hH.2 (m * 3 + 1) (by rw [tabL_len]; omega)
          have f2 := hH.2 (m * 3 + 2) (by rw [tabL_len]; omega)
          rw [hm] at g0
          have HM : Hid (H[k].1 = m) := hm
          clear hH hm hr hp
          go_wp2
          go_roundw
          case rel =>
            have h1 := HH.out.set m (by rw [tabL_len]; exact hm16) ((m : Int), H[k].2.1, H[k].2.2)
            rw [tabL_set _ (fun n => turnT l G (H.take (k + 1)) n) m] at h1
            · exact ⟨k + 1, by omega, by go_num, h1.below (by simpa using hlt2) (Go.Joins.below_alloc1 _ _), (((hb2.setCell (by show _ ≤ w1.heap.size; omega) _).setCell (by show _ ≤ w1.heap.size; omega) _).setCell (by show _ ≤ w1.heap.size; omega) _).alloc (by simp; omega) _⟩
            · show turnT l G (H.take (k + 1)) (m : Int) = _
              rw [HST.out, if_pos HM.out.symm, ← HM.out]
            · intro n hn
              show turnT l G (H.take (k + 1)) (n : Int) = _
              rw [HST.out, if_neg (by rw [HM.out]; omega)]
          case measure => simp [intOf]; omega
        · have hkl : k = H.length := by omega
          subst hkl
          rw [List.take_length] at hH
          have HRG : Hid (wr.rangeAt w1.heap.size 0 ((tabL fun n => turnT l G H n).flatMap encPl)) := hH.range
          have HI : Hid ((Tryz.prog.info? 56).map (·.size) = some ((tabL fun n => turnT l G H n).flatMap encPl).length) := by show _ = _; rw [infoTable, flat_len, tabL_len]
          have HPL : Hid (Calls Tryz.prog 26 #[.agg ((tabL fun n => turnT l G H n).flatMap encPl).toArray] wr fun e w' => ∃ v, e = .returned v ∧ OwnS w' wr.heap.size v (rows (fun n => turnT l G H n) 16) ∧ Below wr.heap.size wr w') := places_any wr _
          have HBR : Hid (Below w.heap.size w wr) := HB1.out.trans (hb2.mono hsz1)
          clear hH HH
          generalize (tabL fun n => turnT l G H n).flatMap encPl = cs2 at *
          go_wp2_with (first | (refine wpList_load_mid rfl 56 _ rfl w1.heap.size 0 rfl cs2 _ HRG.out Tryz.underlying56 rfl HI.out ?_))
          refine HPL.out.mono ?_
          rintro e w7 ⟨v7, rfl, hO7, hb7⟩
          rw [HRW.out] at hO7
          have HO : Hid (OwnS w7 w.heap.size v7 (appL l G H)) := hO7.mono HBR.out.size
          have HBF : Hid (Below w.heap.size w w7) := HBR.out.trans (hb7.mono HBR.out.size)
          clear hO7 hb7 hb2
          go_wp2
          go_ret
          exact ⟨_, rfl, HO.out, HBF.out⟩
end Go.Proofs.YtkjgoikcibgonacGreat

/- Slices that are elder, or newer, than a block that is written. -/
namespace Go.Proofs.YtkjgoikcibgonacGreat
open Go.ChangeShapes Go.WideShapes Go.ChangeAt Go.RowKit
open Orangery (Pl)

theorem SlP.elder {W w : World} {a : Option Addr} {l : List Pl} {g : Nat} (h0 : SlP W a l) (h : SlP w a l) (hg : W.heap.size ≤ g) : ∀ (us : List Value) (o : Nat), SlP (w.setCells g o us) a l := by
  rcases h0 with rfl | ⟨b, off, rfl, hlt, _⟩
  · exact fun _ _ => Or.inl rfl
  · intro us
    induction us generalizing w with
    | nil => intro o; exact h
    | cons u us ih => intro o; exact ih (h.other g (fun b' off' e => by simp at e; omega) o u) (o + 1)
theorem SlI.elder {W w : World} {a : Option Addr} {l : List Int} {g : Nat} (h0 : SlI W a l) (h : SlI w a l) (hg : W.heap.size ≤ g) (us : List Value) (o : Nat) : SlI (w.setCells g o us) a l := by
  refine h.others g (fun hn b off e => ?_) us o
  rcases h0 with h0 | ⟨b', off', e', hlt, _⟩
  · exact absurd h0 hn
  · rw [e] at e'
    simp at e'
    omega
theorem SlI.fresh {w : World} {a : Option Addr} {l : List Int} {B g : Nat} (h : SlI w a l) (hf : Fresh B a) (hg : g < B) (us : List Value) (o : Nat) : SlI (w.setCells g o us) a l :=
  h.others g (fun _ b off e => by have := hf b off e; omega) us o
end Go.Proofs.YtkjgoikcibgonacGreat

