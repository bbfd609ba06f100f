/- For every two views and every two deltas orangerylaw.DeltaSays answers true: what changes is told, a delta is checked, held against another one, applied, as the reference does, errors too. No condition. -/
import Derived.Deep.Slices
import Derived.Deep.Strs
import Derived.ChangeOld
import Derived.SizedLaws
import Derived.Lib.SmallJoins
import Derived.Test.YtkjgoikcibgonacGreatP12
import Derived.Test.YtkjgoikcibgonacGreatP15
import Derived.Test.YtkjgoikcibgonacGreatP17
import Derived.Test.YtkjgoikcibgonacGreatP01
import Derived.Test.YtkjgoikcibgonacGreatP03
import Derived.Test.YtkjgoikcibgonacGreatP04
import Derived.Test.YtkjgoikcibgonacGreatP06
/- orangerylaw.DeltaSays: the walk. -/
namespace Go.Proofs.YtkjgoikcibgonacGreat
open Go.ChangeShapes Go.WideShapes Go.ChangeAt Go.RowKit
open Orangery (Pl viewE deltaE dfE dfG dfH apE apR apL sameD sameV)

theorem df_small (R : List Int) (K V : List Pl) (R' : List Int) (K' V' : List Pl) : (dfG (dfE R K V R' K' V') K K').length ≤ maxLen ∧ (dfH (dfE R K V R' K' V') K K').length ≤ maxLen ∧ (dfG (dfE R K V R' K' V') V V').length ≤ maxLen ∧ (dfH (dfE R K V R' K' V') V V').length ≤ maxLen := by
  by_cases h : dfE R K V R' K' V' = 0
  · obtain ⟨h1, h2, _⟩ := Orangery.df_zero h
    obtain ⟨e1, e2⟩ := Orangery.df_ok (E := dfE R K V R' K' V') K K' h
    obtain ⟨e3, e4⟩ := Orangery.df_ok (E := dfE R K V R' K' V') V V' h
    rw [e1, e2, e3, e4]
    obtain ⟨a1, a2⟩ := Orangery.view_scan h1
    obtain ⟨b1, b2⟩ := Orangery.view_scan h2
    have q1 := Orangery.half_zero (Orangery.half_ok K K' a1 b1)
    have q2 := Orangery.half_zero (Orangery.half_ok V V' a2 b2)
    unfold maxLen
    omega
  · obtain ⟨e1, e2⟩ := Orangery.df_bad (E := dfE R K V R' K' V') K K' h
    obtain ⟨e3, e4⟩ := Orangery.df_bad (E := dfE R K V R' K' V') V V' h
    rw [e1, e2, e3, e4]
    simp
theorem ap_small (R : List Int) (K V : List Pl) (G : List Int) (H : List Pl) (X : List Int) (Y : List Pl) : (apR (apE R K V G H X Y) R).length ≤ maxLen ∧ (apL (apE R K V G H X Y) K G H).length ≤ maxLen ∧ (apL (apE R K V G H X Y) V X Y).length ≤ maxLen := by
  by_cases h : apE R K V G H X Y = 0
  · rw [Orangery.ap_ok h, Orangery.al_ok h, Orangery.al_ok h]
    unfold apE at h
    split at h
    · rename_i h1; exact absurd h h1
    · have h1 := Orangery.rootsOk_len (Orangery.view_parts h).1
      have h2 := Orangery.scan_small (Orangery.view_scan h).1
      have h3 := Orangery.scan_small (Orangery.view_scan h).2
      unfold maxLen
      omega
  · rw [Orangery.ap_bad h, Orangery.al_bad h, Orangery.al_bad h]
    simp
theorem sameV_it (R : List Int) (K V : List Pl) : sameV R R K K V V = true := by simp [sameV]

set_option maxHeartbeats 8000000 in
set_option maxRecDepth 100000 in
theorem deltaSays_any (w : World) (aR aK aV : Option Addr) (cR cK cV : Nat) (R : List Int) (K V : List Pl) (bR bK bV : Option Addr) (dR dK dV : Nat) (R' : List Int) (K' V' : List Pl) (eG eH eX eY : Option Addr) (fG fH fX fY : Nat) (G : List Int) (H : List Pl) (X : List Int) (Y : List Pl) (pG pH pX pY : Option Addr) (qG qH qX qY : Nat) (G' : List Int) (H' : List Pl) (X' : List Int) (Y' : List Pl)
    (m1 : R.length ≤ maxLen ∧ K.length ≤ maxLen ∧ V.length ≤ maxLen) (n1 : (aK = none → cK = 0) ∧ (aV = none → cV = 0)) (h1 : SlI w aR R) (h2 : SlP w aK K) (h3 : SlP w aV V)
    (m2 : R'.length ≤ maxLen ∧ K'.length ≤ maxLen ∧ V'.length ≤ maxLen) (n2 : (bK = none → dK = 0) ∧ (bV = none → dV = 0)) (h4 : SlI w bR R') (h5 : SlP w bK K') (h6 : SlP w bV V')
    (m3 : G.length ≤ maxLen ∧ H.length ≤ maxLen ∧ X.length ≤ maxLen ∧ Y.length ≤ maxLen) (n3 : (eH = none → fH = 0) ∧ (eY = none → fY = 0)) (h7 : SlI w eG G) (h8 : SlP w eH H) (h9 : SlI w eX X) (h10 : SlP w eY Y)
    (_m4 : G'.length ≤ maxLen ∧ H'.length ≤ maxLen ∧ X'.length ≤ maxLen ∧ Y'.length ≤ maxLen) (_n4 : (pH = none → qH = 0) ∧ (pY = none → qY = 0)) (h11 : SlI w pG G') (h12 : SlP w pH H') (h13 : SlI w pX X') (h14 : SlP w pY Y') :
    Calls Tryz.prog 3 #[viV (.slice aR R.length cR) (.slice aK K.length cK) (.slice aV V.length cV), viV (.slice bR R'.length dR) (.slice bK K'.length dK) (.slice bV V'.length dV), deV (.slice eG G.length fG) (.slice eH H.length fH) (.slice eX X.length fX) (.slice eY Y.length fY), deV (.slice pG G'.length qG) (.slice pH H'.length qH) (.slice pX X'.length qX) (.slice pY Y'.length qY)] w
      fun e w' => e = .returned (.bool true) ∧ Below w.heap.size w w' := by
  have C1 : Hid (∀ W, Below w.heap.size w W → Calls Tryz.prog 4 #[viV (.slice aR R.length cR) (.slice aK K.length cK) (.slice aV V.length cV), viV (.slice bR R'.length dR) (.slice bK K'.length dK) (.slice bV V'.length dV)] W (Deltas W (dfG (dfE R K V R' K' V') K K') (dfH (dfE R K V R' K' V') K K') (dfG (dfE R K V R' K' V') V V') (dfH (dfE R K V R' K' V') V V') (dfE R K V R' K' V'))) := fun W hb => dof_any W aR aK aV bR bK bV cR cK cV dR dK dV R R' K K' V V' ⟨m1, m2⟩ ⟨n1.2, n2.2⟩ (h1.below hb) (h2.below hb) (h3.below hb) (h4.below hb) (h5.below hb) (h6.below hb)
  have C2 : Hid (∀ W, Below w.heap.size w W → Calls Tryz.prog 5 #[viV (.slice aR R.length cR) (.slice aK K.length cK) (.slice aV V.length cV), deV (.slice eG G.length fG) (.slice eH H.length fH) (.slice eX X.length fX) (.slice eY Y.length fY)] W (Views W aR (apR (apE R K V G H X Y) R) (apL (apE R K V G H X Y) K G H) (apL (apE R K V G H X Y) V X Y) (apE R K V G H X Y))) := fun W hb => apply_any W aR aK aV eG eH eX eY cR cK cV fG fH fX fY R K V G H X Y ⟨m1, m3⟩ ⟨n1.2, n3.1, n3.2⟩ (h1.below hb) (h2.below hb) (h3.below hb) (h7.below hb) (h8.below hb) (h9.below hb) (h10.below hb)
  have C3 : Hid (∀ W, Below w.heap.size w W → Calls Tryz.prog 6 #[viV (.slice aR R.length cR) (.slice aK K.length cK) (.slice aV V.length cV), viV (.slice bR R'.length dR) (.slice bK K'.length dK) (.slice bV V'.length dV)] W (Deltas W (dfG (dfE R K V R' K' V') K K') (dfH (dfE R K V R' K' V') K K') (dfG (dfE R K V R' K' V') V V') (dfH (dfE R K V R' K' V') V V') (dfE R K V R' K' V'))) := fun W hb => rdeltaOf_any W aR aK aV bR bK bV cR cK cV dR dK dV R R' K K' V V' ⟨m1, m2⟩ ⟨n1, n2⟩ (h1.below hb) (h2.below hb) (h3.below hb) (h4.below hb) (h5.below hb) (h6.below hb)
  have C4 : Hid (∀ W, Below w.heap.size w W → Calls Tryz.prog 7 #[viV (.slice aR R.length cR) (.slice aK K.length cK) (.slice aV V.length cV), deV (.slice eG G.length fG) (.slice eH H.length fH) (.slice eX X.length fX) (.slice eY Y.length fY)] W (Views W aR (apR (apE R K V G H X Y) R) (apL (apE R K V G H X Y) K G H) (apL (apE R K V G H X Y) V X Y) (apE R K V G H X Y))) := fun W hb => rapplied_any W aR aK aV eG eH eX eY cR cK cV fG fH fX fY R K V G H X Y ⟨m1, m3⟩ n1 (h1.below hb) (h2.below hb) (h3.below hb) (h7.below hb) (h8.below hb) (h9.below hb) (h10.below hb)
  have C5 : Hid (∀ W, Below w.heap.size w W → Calls Tryz.prog 9 #[deV (.slice eG G.length fG) (.slice eH H.length fH) (.slice eX X.length fX) (.slice eY Y.length fY)] W fun e w' => e = .returned (.int .i64 (deltaE G H X Y)) ∧ Below W.heap.size W w') := fun W hb => dcheck_any W eG eH eX eY fG fH fX fY G H X Y m3 (h7.below hb) (h8.below hb) (h9.below hb) (h10.below hb)
  have C6 : Hid (∀ W, Below w.heap.size w W → Calls Tryz.prog 10 #[deV (.slice eG G.length fG) (.slice eH H.length fH) (.slice eX X.length fX) (.slice eY Y.length fY)] W fun e w' => e = .returned (.int .i64 (deltaE G H X Y)) ∧ Below W.heap.size W w') := fun W hb => rcheckD_any W eG eH eX eY fG fH fX fY G H X Y m3 (h7.below hb) (h8.below hb) (h9.below hb) (h10.below hb)
  have C7 : Hid (∀ W, Below w.heap.size w W → Calls Tryz.prog 11 #[deV (.slice eG G.length fG) (.slice eH H.length fH) (.slice eX X.length fX) (.slice eY Y.length fY), deV (.slice pG G'.length qG) (.slice pH H'.length qH) (.slice pX X'.length qX) (.slice pY Y'.length qY)] W fun e w' => e = .returned (.bool (sameD G G' H H' X X' Y Y')) ∧ Below W.heap.size W w') := fun W hb => dsame_any W eG eH eX eY pG pH pX pY fG fH fX fY qG qH qX qY G G' H H' X X' Y Y' m3 (h7.below hb) (h8.below hb) (h9.below hb) (h10.below hb) (h11.below hb) (h12.below hb) (h13.below hb) (h14.below hb)
  have C8 : Hid (∀ W, Below w.heap.size w W → Calls Tryz.prog 12 #[deV (.slice eG G.length fG) (.slice eH H.length fH) (.slice eX X.length fX) (.slice eY Y.length fY), deV (.slice pG G'.length qG) (.slice pH H'.length qH) (.slice pX X'.length qX) (.slice pY Y'.length qY)] W fun e w' => e = .returned (.bool (sameD G G' H H' X X' Y Y')) ∧ Below W.heap.size W w') := fun W hb => rsameD_any W eG eH eX eY pG pH pX pY fG fH fX fY qG qH qX qY G G' H H' X X' Y Y' m3 (h7.below hb) (h8.below hb) (h9.below hb) (h10.below hb) (h11.below hb) (h12.below hb) (h13.below hb) (h14.below hb)
  have HDL := df_small R K V R' K' V'
  have HAL := ap_small R K V G H X Y
  generalize dfG (dfE R K V R' K' V') K K' = DG at *
  generalize dfH (dfE R K V R' K' V') K K' = DH at *
  generalize dfG (dfE R K V R' K' V') V V' = DX at *
  generalize dfH (dfE R K V R' K' V') V V' = DY at *
  generalize dfE R K V R' K' V' = DE at *
  generalize apR (apE R K V G H X Y) R = AR at *
  generalize apL (apE R K V G H X Y) K G H = AK at *
  generalize apL (apE R K V G H X Y) V X Y = AV at *
  generalize apE R K V G H X Y = AE at *
  generalize deltaE G H X Y = CE at *
  generalize sameD G G' H H' X X' Y Y' = SD at *
  have HDL' : Hid (DG.length ≤ maxLen ∧ DH.length ≤ maxLen ∧ DX.length ≤ maxLen ∧ DY.length ≤ maxLen) := HDL
  have HAL' : Hid (AR.length ≤ maxLen ∧ AK.length ≤ maxLen ∧ AV.length ≤ maxLen) := HAL
  obtain ⟨W0, hW, BV, BU, BD, BC, hb, -⟩ := laid4 w [Value.slice aR R.length cR, Value.slice aK K.length cK, Value.slice aV V.length cV] 25 [Value.slice bR R'.length dR, Value.slice bK K'.length dK, Value.slice bV V'.length dV] 25 [Value.slice eG G.length fG, Value.slice eH H.length fH, Value.slice eX X.length fX, Value.slice eY Y.length fY] 27 [Value.slice pG G'.length qG, Value.slice pH H'.length qH, Value.slice pX X'.length qX, Value.slice pY Y'.length qY] 27
  have HB0 : Hid (Below w.heap.size w W0) := hb
  have BV0 := BV
  have BU0 := BU
  have BD0 := BD
  have BC0 := BC
  clear BV BU BD BC hb HDL HAL h1 h2 h3 h4 h5 h6 h7 h8 h9 h10 h11 h12 h13 h14 m1 m2 m3 n1 n2 n3 _m4 _n4
  have bv_0 := BV0.at 0 rfl
  have bv_1 := BV0.at 1 rfl
  have bv_2 := BV0.at 2 rfl
  have bu_0 := BU0.at 0 rfl
  have bu_1 := BU0.at 1 rfl
  have bu_2 := BU0.at 2 rfl
  go_enter Tryz.func3, Tryz.ntmps3
  go_wp2_with fail
  clear hW bv_0 bv_1 bv_2 bu_0 bu_1 bu_2
  refine (C1.out W0 HB0.out).mono ?_
  rintro e w1 ⟨gG, gH, gX, gY, jG, jH, jX, jY, rfl, -, -, q1, q2, q3, q4, hb⟩
  have BV1 := BV0.keep hb
  have BU1 := BU0.keep hb
  have BD1 := BD0.keep hb
  have BC1 := BC0.keep hb
  have HB1 : Hid (Below w.heap.size w w1) := HB0.out.trans (hb.mono HB0.out.size)
  clear BV0 BU0 BD0 BC0 HB0
  clear hb
  have MDG1 := q1
  have MDH1 := q2
  have MDX1 := q3
  have MDY1 := q4
  clear q1 q2 q3 q4
  obtain ⟨W1, hW1, B_, hb, -⟩ := laid1 w1 [Value.slice gG DG.length jG, Value.slice gH DH.length jH, Value.slice gX DX.length jX, Value.slice gY DY.length jY] 27
  have BV2 := BV1.keep hb
  have BU2 := BU1.keep hb
  have BD2 := BD1.keep hb
  have BC2 := BC1.keep hb
  have MDG2 := MDG1.below hb
  have MDH2 := MDH1.below hb
  have MDX2 := MDX1.below hb
  have MDY2 := MDY1.below hb
  have HB2 : Hid (Below w.heap.size w W1) := HB1.out.trans (hb.mono HB1.out.size)
  clear BV1 BU1 BD1 BC1 MDG1 MDH1 MDX1 MDY1 HB1
  clear hb
  have BMD2 := B_
  clear B_
  have bv_0 := BV2.at 0 rfl
  have bv_1 := BV2.at 1 rfl
  have bv_2 := BV2.at 2 rfl
  have bd_0 := BD2.at 0 rfl
  have bd_1 := BD2.at 1 rfl
  have bd_2 := BD2.at 2 rfl
  have bd_3 := BD2.at 3 rfl
  go_wp2_with fail
  clear hW1 bv_0 bv_1 bv_2 bd_0 bd_1 bd_2 bd_3
  refine (C2.out W1 HB2.out).mono ?_
  rintro e w2 ⟨kR, kK, kV, lR, lK, lV, rfl, -, -, q1, q2, q3, hb⟩
  have BV3 := BV2.keep hb
  have BU3 := BU2.keep hb
  have BD3 := BD2.keep hb
  have BC3 := BC2.keep hb
  have MDG3 := MDG2.below hb
  have MDH3 := MDH2.below hb
  have MDX3 := MDX2.below hb
  have MDY3 := MDY2.below hb
  have BMD3 := BMD2.keep hb
  have HB3 : Hid (Below w.heap.size w w2) := HB2.out.trans (hb.mono HB2.out.size)
  clear BV2 BU2 BD2 BC2 MDG2 MDH2 MDX2 MDY2 BMD2 HB2
  clear hb
  have MVR3 := q1
  have MVK3 := q2
  have MVV3 := q3
  clear q1 q2 q3
  obtain ⟨W2, hW2, B_, hb, -⟩ := laid1 w2 [Value.slice kR AR.length lR, Value.slice kK AK.length lK, Value.slice kV AV.length lV] 25
  have BV4 := BV3.keep hb
  have BU4 := BU3.keep hb
  have BD4 := BD3.keep hb
  have BC4 := BC3.keep hb
  have MDG4 := MDG3.below hb
  have MDH4 := MDH3.below hb
  have MDX4 := MDX3.below hb
  have MDY4 := MDY3.below hb
  have BMD4 := BMD3.keep hb
  have MVR4 := MVR3.below hb
  have MVK4 := MVK3.below hb
  have MVV4 := MVV3.below hb
  have HB4 : Hid (Below w.heap.size w W2) := HB3.out.trans (hb.mono HB3.out.size)
  clear BV3 BU3 BD3 BC3 MDG3 MDH3 MDX3 MDY3 BMD3 MVR3 MVK3 MVV3 HB3
  clear hb
  have BMV4 := B_
  clear B_
  have bv_0 := BV4.at 0 rfl
  have bv_1 := BV4.at 1 rfl
  have bv_2 := BV4.at 2 rfl
  have bu_0 := BU4.at 0 rfl
  have bu_1 := BU4.at 1 rfl
  have bu_2 := BU4.at 2 rfl
  go_wp2_with fail
  clear hW2 bv_0 bv_1 bv_2 bu_0 bu_1 bu_2
  refine (C3.out W2 HB4.out).mono ?_
  rintro e w3 ⟨sG, sH, sX, sY, tG, tH, tX, tY, rfl, -, -, q1, q2, q3, q4, hb⟩
  have BV5 := BV4.keep hb
  have BU5 := BU4.keep hb
  have BD5 := BD4.keep hb
  have BC5 := BC4.keep hb
  have MDG5 := MDG4.below hb
  have MDH5 := MDH4.below hb
  have MDX5 := MDX4.below hb
  have MDY5 := MDY4.below hb
  have BMD5 := BMD4.keep hb
  have MVR5 := MVR4.below hb
  have MVK5 := MVK4.below hb
  have MVV5 := MVV4.below hb
  have BMV5 := BMV4.keep hb
  have HB5 : Hid (Below w.heap.size w w3) := HB4.out.trans (hb.mono HB4.out.size)
  clear BV4 BU4 BD4 BC4 MDG4 MDH4 MDX4 MDY4 BMD4 MVR4 MVK4 MVV4 BMV4 HB4
  clear hb
  have RDG5 := q1
  have RDH5 := q2
  have RDX5 := q3
  have RDY5 := q4
  clear q1 q2 q3 q4
  obtain ⟨W3, hW3, B_, hb, -⟩ := laid1 w3 [Value.slice sG DG.length tG, Value.slice sH DH.length tH, Value.slice sX DX.length tX, Value.slice sY DY.length tY] 27
  have BV6 := BV5.keep hb
  have BU6 := BU5.keep hb
  have BD6 := BD5.keep hb
  have BC6 := BC5.keep hb
  have MDG6 := MDG5.below hb
  have MDH6 := MDH5.below hb
  have MDX6 := MDX5.below hb
  have MDY6 := MDY5.below hb
  have BMD6 := BMD5.keep hb
  have MVR6 := MVR5.below hb
  have MVK6 := MVK5.below hb
  have MVV6 := MVV5.below hb
  have BMV6 := BMV5.keep hb
  have RDG6 := RDG5.below hb
  have RDH6 := RDH5.below hb
  have RDX6 := RDX5.below hb
  have RDY6 := RDY5.below hb
  have HB6 : Hid (Below w.heap.size w W3) := HB5.out.trans (hb.mono HB5.out.size)
  clear BV5 BU5 BD5 BC5 MDG5 MDH5 MDX5 MDY5 BMD5 MVR5 MVK5 MVV5 BMV5 RDG5 RDH5 RDX5 RDY5 HB5
  clear hb
  have BRD6 := B_
  clear B_
  have bv_0 := BV6.at 0 rfl
  have bv_1 := BV6.at 1 rfl
  have bv_2 := BV6.at 2 rfl
  have bd_0 := BD6.at 0 rfl
  have bd_1 := BD6.at 1 rfl
  have bd_2 := BD6.at 2 rfl
  have bd_3 := BD6.at 3 rfl
  go_wp2_with fail
  clear hW3 bv_0 bv_1 bv_2 bd_0 bd_1 bd_2 bd_3
  refine (C4.out W3 HB6.out).mono ?_
  rintro e w4 ⟨yR, yK, yV, zR, zK, zV, rfl, -, -, q1, q2, q3, hb⟩
  have BV7 := BV6.keep hb
  have BU7 := BU6.keep hb
  have BD7 := BD6.keep hb
  have BC7 := BC6.keep hb
  have MDG7 := MDG6.below hb
  have MDH7 := MDH6.below hb
  have MDX7 := MDX6.below hb
  have MDY7 := MDY6.below hb
  have BMD7 := BMD6.keep hb
  have MVR7 := MVR6.below hb
  have MVK7 := MVK6.below hb
  have MVV7 := MVV6.below hb
  have BMV7 := BMV6.keep hb
  have RDG7 := RDG6.below hb
  have RDH7 := RDH6.below hb
  have RDX7 := RDX6.below hb
  have RDY7 := RDY6.below hb
  have BRD7 := BRD6.keep hb
  have HB7 : Hid (Below w.heap.size w w4) := HB6.out.trans (hb.mono HB6.out.size)
  clear BV6 BU6 BD6 BC6 MDG6 MDH6 MDX6 MDY6 BMD6 MVR6 MVK6 MVV6 BMV6 RDG6 RDH6 RDX6 RDY6 BRD6 HB6
  clear hb
  have RVR7 := q1
  have RVK7 := q2
  have RVV7 := q3
  clear q1 q2 q3
  obtain ⟨WY, hWY, B_, hb, -⟩ := laid1 w4 [Value.slice yR AR.length zR, Value.slice yK AK.length zK, Value.slice yV AV.length zV] 25
  have BV8 := BV7.keep hb
  have BU8 := BU7.keep hb
  have BD8 := BD7.keep hb
  have BC8 := BC7.keep hb
  have MDG8 := MDG7.below hb
  have MDH8 := MDH7.below hb
  have MDX8 := MDX7.below hb
  have MDY8 := MDY7.below hb
  have BMD8 := BMD7.keep hb
  have MVR8 := MVR7.below hb
  have MVK8 := MVK7.below hb
  have MVV8 := MVV7.below hb
  have BMV8 := BMV7.keep hb
  have RDG8 := RDG7.below hb
  have RDH8 := RDH7.below hb
  have RDX8 := RDX7.below hb
  have RDY8 := RDY7.below hb
  have BRD8 := BRD7.keep hb
  have RVR8 := RVR7.below hb
  have RVK8 := RVK7.below hb
  have RVV8 := RVV7.below hb
  have HB8 : Hid (Below w.heap.size w WY) := HB7.out.trans (hb.mono HB7.out.size)
  clear BV7 BU7 BD7 BC7 MDG7 MDH7 MDX7 MDY7 BMD7 MVR7 MVK7 MVV7 BMV7 RDG7 RDH7 RDX7 RDY7 BRD7 RVR7 RVK7 RVV7 HB7
  clear hb
  have BRV8 := B_
  clear B_
  go_upto_region 5 with fail
  clear hWY
  have HBD : Hid (Blk WY (w.heap.size + 1 + 1) [Value.slice eG G.length fG, Value.slice eH H.length fH, Value.slice eX X.length fX, Value.slice eY Y.length fY]) := BD8
  have HBC : Hid (Blk WY (w.heap.size + 1 + 1 + 1) [Value.slice pG G'.length qG, Value.slice pH H'.length qH, Value.slice pX X'.length qX, Value.slice pY Y'.length qY]) := BC8
  have HBMD : Hid (Blk WY w1.heap.size [Value.slice gG DG.length jG, Value.slice gH DH.length jH, Value.slice gX DX.length jX, Value.slice gY DY.length jY]) := BMD8
  have HBMV : Hid (Blk WY w2.heap.size [Value.slice kR AR.length lR, Value.slice kK AK.length lK, Value.slice kV AV.length lV]) := BMV8
  have HBRD : Hid (Blk WY w3.heap.size [Value.slice sG DG.length tG, Value.slice sH DH.length tH, Value.slice sX DX.length tX, Value.slice sY DY.length tY]) := BRD8
  have HBRV : Hid (Blk WY w4.heap.size [Value.slice yR AR.length zR, Value.slice yK AK.length zK, Value.slice yV AV.length zV]) := BRV8
  have HSD : Hid (∀ W, Below WY.heap.size WY W → Calls Tryz.prog 12 #[deV (.slice gG DG.length jG) (.slice gH DH.length jH) (.slice gX DX.length jX) (.slice gY DY.length jY), deV (.slice sG DG.length tG) (.slice sH DH.length tH) (.slice sX DX.length tX) (.slice sY DY.length tY)] W fun e w' => e = .returned (.bool true) ∧ Below W.heap.size W w') := fun W hb => by have h := rsameD_any W gG gH gX gY sG sH sX sY jG jH jX jY tG tH tX tY DG DG DH DH DX DX DY DY HDL'.out (MDG8.below hb) (MDH8.below hb) (MDX8.below hb) (MDY8.below hb) (RDG8.below hb) (RDH8.below hb) (RDX8.below hb) (RDY8.below hb); rw [Orangery.sameD_self] at h; exact h
  have HSV : Hid (∀ W, Below WY.heap.size WY W → Calls Tryz.prog 13 #[viV (.slice kR AR.length lR) (.slice kK AK.length lK) (.slice kV AV.length lV), viV (.slice yR AR.length zR) (.slice yK AK.length zK) (.slice yV AV.length zV)] W fun e w' => e = .returned (.bool true) ∧ Below W.heap.size W w') := fun W hb => by have h := rsameV_any W kR kK kV yR yK yV lR lK lV zR zK zV AR AR AK AK AV AV HAL'.out.1 HAL'.out.2.1 HAL'.out.2.2 (MVR8.below hb) (MVK8.below hb) (MVV8.below hb) (RVR8.below hb) (RVK8.below hb) (RVV8.below hb); rw [sameV_it] at h; exact h
  clear C1 C2 C3 C4 HDL' HAL' BV8 BU8 BD8 BC8 MDG8 MDH8 MDX8 MDY8 BMD8 MVR8 MVK8 MVV8 BMV8 RDG8 RDH8 RDX8 RDY8 BRD8 RVR8 RVK8 RVV8 BRV8
  have hS' : Below WY.heap.size WY WY.drew := (Below.refl _ WY).drew
  refine wp_region_held_drew (S := fun w' => Below WY.heap.size WY w') (by kernel_rfl) hS' (fun hHeld => ?_)
  refine wpAnyH_ready (rs := [0]) (by kernel_rfl) (by simp) ?_
  refine AllReadyH.cons rfl (fun KK hKK => ?_) AllReadyH.nil
  go_simp
  refine (differs_any _).mono ?_
  rintro e wn ⟨rfl, hb⟩
  have hS' : Below WY.heap.size WY wn := Below.trans hS' (hb.mono (Below.size hS'))
  go_wp2_with fail
  refine hKK.out _ _ (hS') (fun hHeld => ?_)
  clear hKK KK
  refine take_yes 1 42 (v := ?_) rfl rfl (by kernel_rfl) (by kernel_rfl) (by kernel_rfl) (fun _ _ _ h => h) (by rfl) ?_ hHeld ?_
  rotate_left 1
  · (intro w hSw; go_simp; try with_reducible rfl)
  simp only [Act.put, List.setIfInBounds_toArray, List.set_cons_succ, List.set_cons_zero]
  refine take_load 2 43 27 (w.heap.size + 1 + 1) [Value.slice eG G.length fG, Value.slice eH H.length fH, Value.slice eX X.length fX, Value.slice eY Y.length fY] rfl rfl (by kernel_rfl) (by kernel_rfl) (by kernel_rfl) (fun _ _ _ h => h) (by rfl) (by rfl) (by rfl) (fun w hw => (HBD.out.keep hw).range) Tryz.underlying27 rfl sizeDelta hHeld ?_
  simp only [Act.put, List.setIfInBounds_toArray, List.set_cons_succ, List.set_cons_zero]
  refine take_load 4 45 27 (w.heap.size + 1 + 1) [Value.slice eG G.length fG, Value.slice eH H.length fH, Value.slice eX X.length fX, Value.slice eY Y.length fY] rfl rfl (by kernel_rfl) (by kernel_rfl) (by kernel_rfl) (fun _ _ _ h => h) (by rfl) (by rfl) (by rfl) (fun w hw => (HBD.out.keep hw).range) Tryz.underlying27 rfl sizeDelta hHeld ?_
  simp only [Act.put, List.setIfInBounds_toArray, List.set_cons_succ, List.set_cons_zero]
  refine wpAnyH_ready (rs := [3]) (by kernel_rfl) (by simp) ?_
  refine AllReadyH.cons rfl (fun KK hKK => ?_) AllReadyH.nil
  go_simp
  refine (C5.out _ (HB8.out.trans (hS'.mono HB8.out.size))).mono ?_
  rintro e wn ⟨rfl, hb⟩
  have hS' : Below WY.heap.size WY wn := Below.trans hS' (hb.mono (Below.size hS'))
  go_wp2_with fail
  refine hKK.out _ _ (hS') (fun hHeld => ?_)
  clear hKK KK
  refine wpAnyH_ready (rs := [5]) (by kernel_rfl) (by simp) ?_
  refine AllReadyH.cons rfl (fun KK hKK => ?_) AllReadyH.nil
  go_simp
  refine (C6.out _ (HB8.out.trans (hS'.mono HB8.out.size))).mono ?_
  rintro e wn ⟨rfl, hb⟩
  have hS' : Below WY.heap.size WY wn := Below.trans hS' (hb.mono (Below.size hS'))
  go_wp2_with fail
  refine hKK.out _ _ (hS') (fun hHeld => ?_)
  clear hKK KK
  refine take_yes 6 47 (v := ?_) rfl rfl (by kernel_rfl) (by kernel_rfl) (by kernel_rfl) (fun _ _ _ h => h) (by rfl) ?_ hHeld ?_
  rotate_left 1
  · (intro w hSw; go_simp; try with_reducible rfl)
  simp only [Act.put, List.setIfInBounds_toArray, List.set_cons_succ, List.set_cons_zero]
  refine take_yes 7 48 (v := ?_) rfl rfl (by kernel_rfl) (by kernel_rfl) (by kernel_rfl) (fun _ _ _ h => h) (by rfl) ?_ hHeld ?_
  rotate_left 1
  · (intro w hSw; go_simp; try with_reducible rfl)
  simp only [Act.put, List.setIfInBounds_toArray, List.set_cons_succ, List.set_cons_zero]
  refine take_yes 8 49 (v := ?_) rfl rfl (by kernel_rfl) (by kernel_rfl) (by kernel_rfl) (fun _ _ _ h => h) (by rfl) ?_ hHeld ?_
  rotate_left 1
  · (intro w hSw; go_simp; try with_reducible rfl)
  simp only [Act.put, List.setIfInBounds_toArray, List.set_cons_succ, List.set_cons_zero]
  refine take_load 9 50 27 (w.heap.size + 1 + 1) [Value.slice eG G.length fG, Value.slice eH H.length fH, Value.slice eX X.length fX, Value.slice eY Y.length fY] rfl rfl (by kernel_rfl) (by kernel_rfl) (by kernel_rfl) (fun _ _ _ h => h) (by rfl) (by rfl) (by rfl) (fun w hw => (HBD.out.keep hw).range) Tryz.underlying27 rfl sizeDelta hHeld ?_
  simp only [Act.put, List.setIfInBounds_toArray, List.set_cons_succ, List.set_cons_zero]
  refine take_load 10 51 27 (w.heap.size + 1 + 1 + 1) [Value.slice pG G'.length qG, Value.slice pH H'.length qH, Value.slice pX X'.length qX, Value.slice pY Y'.length qY] rfl rfl (by kernel_rfl) (by kernel_rfl) (by kernel_rfl) (fun _ _ _ h => h) (by rfl) (by rfl) (by rfl) (fun w hw => (HBC.out.keep hw).range) Tryz.underlying27 rfl sizeDelta hHeld ?_
  simp only [Act.put, List.setIfInBounds_toArray, List.set_cons_succ, List.set_cons_zero]
  refine take_load 12 53 27 (w.heap.size + 1 + 1) [Value.slice eG G.length fG, Value.slice eH H.length fH, Value.slice eX X.length fX, Value.slice eY Y.length fY] rfl rfl (by kernel_rfl) (by kernel_rfl) (by kernel_rfl) (fun _ _ _ h => h) (by rfl) (by rfl) (by rfl) (fun w hw => (HBD.out.keep hw).range) Tryz.underlying27 rfl sizeDelta hHeld ?_
  simp only [Act.put, List.setIfInBounds_toArray, List.set_cons_succ, List.set_cons_zero]
  refine take_load 13 54 27 (w.heap.size + 1 + 1 + 1) [Value.slice pG G'.length qG, Value.slice pH H'.length qH, Value.slice pX X'.length qX, Value.slice pY Y'.length qY] rfl rfl (by kernel_rfl) (by kernel_rfl) (by kernel_rfl) (fun _ _ _ h => h) (by rfl) (by rfl) (by rfl) (fun w hw => (HBC.out.keep hw).range) Tryz.underlying27 rfl sizeDelta hHeld ?_
  simp only [Act.put, List.setIfInBounds_toArray, List.set_cons_succ, List.set_cons_zero]
  refine wpAnyH_ready (rs := [11]) (by kernel_rfl) (by simp) ?_
  refine AllReadyH.cons rfl (fun KK hKK => ?_) AllReadyH.nil
  go_simp
  refine (C7.out _ (HB8.out.trans (hS'.mono HB8.out.size))).mono ?_
  rintro e wn ⟨rfl, hb⟩
  have hS' : Below WY.heap.size WY wn := Below.trans hS' (hb.mono (Below.size hS'))
  go_wp2_with fail
  refine hKK.out _ _ (hS') (fun hHeld => ?_)
  clear hKK KK
  refine wpAnyH_ready (rs := [14]) (by kernel_rfl) (by simp) ?_
  refine AllReadyH.cons rfl (fun KK hKK => ?_) AllReadyH.nil
  go_simp
  refine (C8.out _ (HB8.out.trans (hS'.mono HB8.out.size))).mono ?_
  rintro e wn ⟨rfl, hb⟩
  have hS' : Below WY.heap.size WY wn := Below.trans hS' (hb.mono (Below.size hS'))
  go_wp2_with fail
  refine hKK.out _ _ (hS') (fun hHeld => ?_)
  clear hKK KK
  refine take_yes 15 56 (v := ?_) rfl rfl (by kernel_rfl) (by kernel_rfl) (by kernel_rfl) (fun _ _ _ h => h) (by rfl) ?_ hHeld ?_
  rotate_left 1
  · (intro w hSw; go_simp; try with_reducible rfl)
  simp only [Act.put, List.setIfInBounds_toArray, List.set_cons_succ, List.set_cons_zero]
  refine take_yes 16 57 (v := ?_) rfl rfl (by kernel_rfl) (by kernel_rfl) (by kernel_rfl) (fun _ _ _ h => h) (by rfl) ?_ hHeld ?_
  rotate_left 1
  · (intro w hSw; go_simp; try with_reducible rfl)
  simp only [Act.put, List.setIfInBounds_toArray, List.set_cons_succ, List.set_cons_zero]
  refine take_yes 17 58 (v := ?_) rfl rfl (by kernel_rfl) (by kernel_rfl) (by kernel_rfl) (fun _ _ _ h => h) (by rfl) ?_ hHeld ?_
  rotate_left 1
  · (intro w hSw; go_simp; try with_reducible rfl)
  simp only [Act.put, List.setIfInBounds_toArray, List.set_cons_succ, List.set_cons_zero]
  refine take_yes 18 59 (v := ?_) rfl rfl (by kernel_rfl) (by kernel_rfl) (by kernel_rfl) (fun _ _ _ h => h) (by rfl) ?_ hHeld ?_
  rotate_left 1
  · (intro w hSw; go_simp; try with_reducible rfl)
  simp only [Act.put, List.setIfInBounds_toArray, List.set_cons_succ, List.set_cons_zero]
  refine take_yes 19 60 (v := ?_) rfl rfl (by kernel_rfl) (by kernel_rfl) (by kernel_rfl) (fun _ _ _ h => h) (by rfl) ?_ hHeld ?_
  rotate_left 1
  · (intro w hSw; go_simp; try with_reducible rfl)
  simp only [Act.put, List.setIfInBounds_toArray, List.set_cons_succ, List.set_cons_zero]
  refine take_yes 20 61 (v := ?_) rfl rfl (by kernel_rfl) (by kernel_rfl) (by kernel_rfl) (fun _ _ _ h => h) (by rfl) ?_ hHeld ?_
  rotate_left 1
  · (intro w hSw; go_simp; try with_reducible rfl)
  simp only [Act.put, List.setIfInBounds_toArray, List.set_cons_succ, List.set_cons_zero]
  refine take_yes 21 62 (v := ?_) rfl rfl (by kernel_rfl) (by kernel_rfl) (by kernel_rfl) (fun _ _ _ h => h) (by rfl) ?_ hHeld ?_
  rotate_left 1
  · (intro w hSw; go_simp; try with_reducible rfl)
  simp only [Act.put, List.setIfInBounds_toArray, List.set_cons_succ, List.set_cons_zero]
  refine take_yes 22 63 (v := ?_) rfl rfl (by kernel_rfl) (by kernel_rfl) (by kernel_rfl) (fun _ _ _ h => h) (by rfl) ?_ hHeld ?_
  rotate_left 1
  · (intro w hSw; go_simp; try with_reducible rfl)
  simp only [Act.put, List.setIfInBounds_toArray, List.set_cons_succ, List.set_cons_zero]
  refine take_load 23 64 27 w1.heap.size [Value.slice gG DG.length jG, Value.slice gH DH.length jH, Value.slice gX DX.length jX, Value.slice gY DY.length jY] rfl rfl (by kernel_rfl) (by kernel_rfl) (by kernel_rfl) (fun _ _ _ h => h) (by rfl) (by rfl) (by rfl) (fun w hw => (HBMD.out.keep hw).range) Tryz.underlying27 rfl sizeDelta hHeld ?_
  simp only [Act.put, List.setIfInBounds_toArray, List.set_cons_succ, List.set_cons_zero]
  refine take_load 24 65 27 w3.heap.size [Value.slice sG DG.length tG, Value.slice sH DH.length tH, Value.slice sX DX.length tX, Value.slice sY DY.length tY] rfl rfl (by kernel_rfl) (by kernel_rfl) (by kernel_rfl) (fun _ _ _ h => h) (by rfl) (by rfl) (by rfl) (fun w hw => (HBRD.out.keep hw).range) Tryz.underlying27 rfl sizeDelta hHeld ?_
  simp only [Act.put, List.setIfInBounds_toArray, List.set_cons_succ, List.set_cons_zero]
  refine wpAnyH_ready (rs := [25]) (by kernel_rfl) (by simp) ?_
  refine AllReadyH.cons rfl (fun KK hKK => ?_) AllReadyH.nil
  go_simp
  refine (HSD.out _ hS').mono ?_
  rintro e wn ⟨rfl, hb⟩
  have hS' : Below WY.heap.size WY wn := Below.trans hS' (hb.mono (Below.size hS'))
  go_wp2_with fail
  refine hKK.out _ _ (hS') (fun hHeld => ?_)
  clear hKK KK
  refine take_yes 26 67 (v := ?_) rfl rfl (by kernel_rfl) (by kernel_rfl) (by kernel_rfl) (fun _ _ _ h => h) (by rfl) ?_ hHeld ?_
  rotate_left 1
  · (intro w hSw; go_simp; try with_reducible rfl)
  simp only [Act.put, List.setIfInBounds_toArray, List.set_cons_succ, List.set_cons_zero]
  refine take_yes 27 68 (v := ?_) rfl rfl (by kernel_rfl) (by kernel_rfl) (by kernel_rfl) (fun _ _ _ h => h) (by rfl) ?_ hHeld ?_
  rotate_left 1
  · (intro w hSw; go_simp; try with_reducible rfl)
  simp only [Act.put, List.setIfInBounds_toArray, List.set_cons_succ, List.set_cons_zero]
  refine take_yes 28 69 (v := ?_) rfl rfl (by kernel_rfl) (by kernel_rfl) (by kernel_rfl) (fun _ _ _ h => h) (by rfl) ?_ hHeld ?_
  rotate_left 1
  · (intro w hSw; go_simp; try with_reducible rfl)
  simp only [Act.put, List.setIfInBounds_toArray, List.set_cons_succ, List.set_cons_zero]
  refine take_yes 29 70 (v := ?_) rfl rfl (by kernel_rfl) (by kernel_rfl) (by kernel_rfl) (fun _ _ _ h => h) (by rfl) ?_ hHeld ?_
  rotate_left 1
  · (intro w hSw; go_simp; try with_reducible rfl)
  simp only [Act.put, List.setIfInBounds_toArray, List.set_cons_succ, List.set_cons_zero]
  refine take_yes 30 71 (v := ?_) rfl rfl (by kernel_rfl) (by kernel_rfl) (by kernel_rfl) (fun _ _ _ h => h) (by rfl) ?_ hHeld ?_
  rotate_left 1
  · (intro w hSw; go_simp; try with_reducible rfl)
  simp only [Act.put, List.setIfInBounds_toArray, List.set_cons_succ, List.set_cons_zero]
  refine take_yes 31 72 (v := ?_) rfl rfl (by kernel_rfl) (by kernel_rfl) (by kernel_rfl) (fun _ _ _ h => h) (by rfl) ?_ hHeld ?_
  rotate_left 1
  · (intro w hSw; go_simp; try with_reducible rfl)
  simp only [Act.put, List.setIfInBounds_toArray, List.set_cons_succ, List.set_cons_zero]
  refine take_yes 32 73 (v := ?_) rfl rfl (by kernel_rfl) (by kernel_rfl) (by kernel_rfl) (fun _ _ _ h => h) (by rfl) ?_ hHeld ?_
  rotate_left 1
  · (intro w hSw; go_simp; try with_reducible rfl)
  simp only [Act.put, List.setIfInBounds_toArray, List.set_cons_succ, List.set_cons_zero]
  refine take_load 33 74 25 w2.heap.size [Value.slice kR AR.length lR, Value.slice kK AK.length lK, Value.slice kV AV.length lV] rfl rfl (by kernel_rfl) (by kernel_rfl) (by kernel_rfl) (fun _ _ _ h => h) (by rfl) (by rfl) (by rfl) (fun w hw => (HBMV.out.keep hw).range) Tryz.underlying25 rfl sizeView hHeld ?_
  simp only [Act.put, List.setIfInBounds_toArray, List.set_cons_succ, List.set_cons_zero]
  refine take_load 34 75 25 w4.heap.size [Value.slice yR AR.length zR, Value.slice yK AK.length zK, Value.slice yV AV.length zV] rfl rfl (by kernel_rfl) (by kernel_rfl) (by kernel_rfl) (fun _ _ _ h => h) (by rfl) (by rfl) (by rfl) (fun w hw => (HBRV.out.keep hw).range) Tryz.underlying25 rfl sizeView hHeld ?_
  simp only [Act.put, List.setIfInBounds_toArray, List.set_cons_succ, List.set_cons_zero]
  refine wpAnyH_ready (rs := [35]) (by kernel_rfl) (by simp) ?_
  refine AllReadyH.cons rfl (fun KK hKK => ?_) AllReadyH.nil
  go_simp
  refine (HSV.out _ hS').mono ?_
  rintro e wn ⟨rfl, hb⟩
  have hS' : Below WY.heap.size WY wn := Below.trans hS' (hb.mono (Below.size hS'))
  go_wp2_with fail
  refine hKK.out _ _ (hS') (fun hHeld => ?_)
  clear hKK KK
  refine take_yes 36 77 (v := ?_) rfl rfl (by kernel_rfl) (by kernel_rfl) (by kernel_rfl) (fun _ _ _ h => h) (by rfl) ?_ hHeld ?_
  rotate_left 1
  · (intro w hSw; go_simp; try with_reducible rfl)
  simp only [Act.put, List.setIfInBounds_toArray, List.set_cons_succ, List.set_cons_zero]
  refine take_yes 37 8 (v := ?_) rfl rfl (by kernel_rfl) (by kernel_rfl) (by kernel_rfl) (fun _ _ _ h => h) (by rfl) ?_ hHeld ?_
  rotate_left 1
  · (intro w hSw; go_simp; try with_reducible rfl)
  simp only [Act.put, List.setIfInBounds_toArray, List.set_cons_succ, List.set_cons_zero]
  refine wpAnyH_done (by kernel_rfl) ?_ _
  go_wp2
  go_ret
  exact ⟨rfl, HB8.out.trans (hS'.mono HB8.out.size)⟩
end Go.Proofs.YtkjgoikcibgonacGreat

/- A tree that came in as an argument: which places it holds. -/
namespace Go.Proofs.YtkjgoikcibgonacGreat
open Go.ChangeShapes Go.WideShapes Go.ChangeAt Go.RowKit
open Orangery (Pl)

theorem cells3_of {w : World} {base : Nat} {a : Addr} {cs : List Value} (h : w.cells? base a 3 = some cs) :
    ∃ x y z, cs = [x, y, z] ∧ w.cell? (a.add 0) = some x ∧ w.cell? (a.add 1) = some y ∧ w.cell? (a.add 2) = some z := by
  unfold World.cells? at h
  split at h
  · simp only [show List.range 3 = [0, 1, 2] from rfl, List.mapM_cons, List.mapM_nil] at h
    cases h0 : w.cell? (a.add 0) with
    | none => simp [h0] at h
    | some x =>
      cases h1 : w.cell? (a.add 1) with
      | none => simp [h0, h1] at h
      | some y =>
        cases h2 : w.cell? (a.add 2) with
        | none => simp [h0, h1, h2] at h
        | some z =>
          simp [h0, h1, h2] at h
          exact ⟨x, y, z, h.symm, rfl, rfl, rfl⟩
  · simp at h

theorem add_at (b off i : Nat) : (⟨b, off, none⟩ : Addr).add i = ⟨b, off + i, none⟩ := by
  unfold Addr.add
  by_cases hz : i = 0 <;> simp [hz]

/-- a slice of places that is read -/
theorem open_places {H : Type} {enc : TypeId × Value → H} {w : World} {base fuel : Nat} {spare : Nat → Bool} {held : Bool} {v : Value} {x : DataW H × List MemPlace}
    (h : DataW.trod enc Tryz.prog w base spare held fuel 23 [v] = some x) : ∃ a c, ∃ l : List Pl, v = .slice a l.length c ∧ l.length ≤ maxLen ∧ SlP w a l := by
  rcases Go.Deep.open_slice Tryz.underlying23 h with ⟨hcs, _⟩ | ⟨a, len, cap, m, n, D, Pq, hcs, _, hle, hm, hmm, _, hel⟩
  · simp at hcs
    subst hcs
    exact ⟨none, 0, [], rfl, by simp, Or.inl rfl⟩
  · simp at hcs
    subst hcs
    have hlm : len ≤ m := by rw [hmm]; split <;> omega
    have hC : Tryz.prog.cellsOf 55 = 3 := by kernel_rfl
    have hI : Tryz.prog.cellsOf 3 = 1 := by kernel_rfl
    have key : ∀ i, i < len → ∃ q : Pl, w.cell? ((a.add (i * 3)).add 0) = some (.int .i64 q.1) ∧ w.cell? ((a.add (i * 3)).add 1) = some (.int .i64 q.2.1) ∧ w.cell? ((a.add (i * 3)).add 2) = some (.int .i64 q.2.2) := by
      intro i hi
      obtain ⟨cs', h1, h2⟩ := hel i (by omega)
      rw [hC] at h1
      obtain ⟨x, y, z, rfl, c0, c1, c2⟩ := cells3_of h1
      obtain ⟨y0, y1, y2, n', _, _, t0, t1, t2⟩ := Go.Deep.trod_struct3 Tryz.underlying55 h2
      simp [hI] at t0 t1 t2
      obtain ⟨q0, e0, _, _⟩ := DataW.trod_int Tryz.underlying3 t0
      obtain ⟨q1, e1, _, _⟩ := DataW.trod_int Tryz.underlying3 t1
      obtain ⟨q2, e2, _, _⟩ := DataW.trod_int Tryz.underlying3 t2
      simp at e0 e1 e2
      subst e0 e1 e2
      exact ⟨(q0, q1, q2), c0, c1, c2⟩
    obtain ⟨f, hf⟩ := Go.Deep.choose_lt key
    refine ⟨some a, cap, (List.range len).map f, by simp, by simp; omega, ?_⟩
    by_cases hz : len = 0
    · exact Or.inl (by simp [hz])
    · right
      have h0 := (hf 0 (by omega)).1
      obtain ⟨b, off, spot⟩ := a
      have hspot : spot = none := by simpa [Addr.add] using World.cell?_spot h0
      subst hspot
      have hb : b < w.heap.size := by
        have := World.block_lt_of_cell? w _ h0
        rw [add_at, add_at] at this
        exact this
      refine ⟨b, off, rfl, hb, fun i hi => ?_⟩
      have hi' : i < len := by simpa using hi
      have := hf i hi'
      rw [add_at, add_at, add_at, add_at] at this
      simpa using this

set_option maxRecDepth 100000 in
/-- a tree that came in -/
theorem open_tree {H : Type} {enc : TypeId × Value → H} {w : World} {r : Reach} {b0 base : Nat} {spare : Nat → Bool} {held : Bool} {v : Value} {d : DataW H} {p : List MemPlace}
    (hv : Value.okWide Tryz.prog w r b0 62 v) (h : DataW.Trod enc Tryz.prog w base spare held 62 v d p) : ∃ a c, ∃ l : List Pl, v = .agg #[.slice a l.length c] ∧ l.length ≤ maxLen ∧ SlP w a l := by
  obtain ⟨cs, rfl, hsz⟩ := okWide_struct Tryz.underlying62 hv
  have hC : Tryz.prog.cellsOf 62 = 1 := by kernel_rfl
  have hD : Tryz.prog.cellsOf 23 = 1 := by kernel_rfl
  rw [hC] at hsz
  obtain ⟨c0, rfl⟩ : ∃ c0, cs = #[c0] := by
    have h1 : cs.toList.length = 1 := by simpa using hsz
    obtain ⟨x, hx⟩ := List.length_eq_one_iff.1 h1
    exact ⟨x, by cases cs; simp_all⟩
  obtain ⟨fuel, hf⟩ := h
  obtain ⟨y0, n, _, _, h0⟩ := trod_struct1 Tryz.underlying62 hf
  simp [Value.cells, hD] at h0
  obtain ⟨a, c, l, rfl, h1, h2⟩ := open_places h0
  exact ⟨a, c, l, rfl, h1, h2⟩
end Go.Proofs.YtkjgoikcibgonacGreat

/- Operations and steps that came in as arguments. -/
namespace Go.Proofs.YtkjgoikcibgonacGreat
open Go.ChangeShapes Go.WideShapes Go.ChangeAt Go.RowKit
open Orangery (Pl Mv Stp)

theorem list7 {cs : List Value} (h : cs.length = 7) : ∃ a b c d e f g, cs = [a, b, c, d, e, f, g] := by
  match cs, h with
  | [a, b, c, d, e, f, g], _ => exact ⟨a, b, c, d, e, f, g, rfl⟩
theorem list11 {cs : List Value} (h : cs.length = 11) : ∃ a b c d e f g i j k l, cs = [a, b, c, d, e, f, g, i, j, k, l] := by
  match cs, h with
  | [a, b, c, d, e, f, g, i, j, k, l], _ => exact ⟨a, b, c, d, e, f, g, i, j, k, l, rfl⟩

set_option maxRecDepth 100000 in
theorem open_opC {H : Type} {enc : TypeId × Value → H} {w : World} {base fuel : Nat} {spare : Nat → Bool} {held : Bool} {cs : List Value} {x : DataW H × List MemPlace}
    (h : DataW.trod enc Tryz.prog w base spare held fuel 67 cs = some x) : ∃ o : Mv, cs = opC o := by
  obtain ⟨xs, n, _, _, hl, hlen, hf⟩ := DataW.trod_struct Tryz.underlying67 h
  have hC : Tryz.prog.cellsOf 67 = 7 := by kernel_rfl
  have hI : Tryz.prog.cellsOf 3 = 1 := by kernel_rfl
  have hT : Tryz.prog.cellsOf 65 = 2 := by kernel_rfl
  rw [hC] at hl
  obtain ⟨c0, c1, c2, c3, c4, c5, c6, rfl⟩ := list7 hl
  have hx : xs.length = 6 := hlen
  have g0 := hf 0 _ rfl
  have g1 := hf 1 _ rfl
  have g2 := hf 2 _ rfl
  have g3 := hf 3 _ rfl
  have g4 := hf 4 _ rfl
  have g5 := hf 5 _ rfl
  simp [hI, hT] at g0 g1 g2 g3 g4 g5
  rw [List.getElem?_eq_getElem (by omega)] at g0 g1 g2 g3 g4 g5
  obtain ⟨o3, e3, _, _⟩ := DataW.trod_int Tryz.underlying3 g1
  obtain ⟨o4, e4, _, _⟩ := DataW.trod_int Tryz.underlying3 g2
  obtain ⟨o5, e5, _, _⟩ := DataW.trod_int Tryz.underlying3 g3
  obtain ⟨o6, e6, _, _⟩ := DataW.trod_int Tryz.underlying3 g4
  obtain ⟨o7, e7, _, _⟩ := DataW.trod_int Tryz.underlying3 g5
  obtain ⟨y0, y1, n', _, _, t0, t1⟩ := trod_struct2 Tryz.underlying65 g0
  simp [hI] at t0 t1
  obtain ⟨o1, e1, _, _⟩ := DataW.trod_int Tryz.underlying3 t0
  obtain ⟨o2, e2, _, _⟩ := DataW.trod_int Tryz.underlying3 t1
  simp at e1 e2 e3 e4 e5 e6 e7
  subst e1 e2 e3 e4 e5 e6 e7
  exact ⟨(o1, o2, (o3, o4, o5), o6, o7), rfl⟩

set_option maxRecDepth 100000 in
/-- an operation that came in -/
theorem open_op {H : Type} {enc : TypeId × Value → H} {w : World} {r : Reach} {b0 base : Nat} {spare : Nat → Bool} {held : Bool} {v : Value} {d : DataW H} {p : List MemPlace}
    (hv : Value.okWide Tryz.prog w r b0 67 v) (h : DataW.Trod enc Tryz.prog w base spare held 67 v d p) : ∃ o : Mv, v = opV o := by
  obtain ⟨cs, rfl, hsz⟩ := okWide_struct Tryz.underlying67 hv
  obtain ⟨fuel, hf⟩ := h
  obtain ⟨o, ho⟩ := open_opC hf
  refine ⟨o, ?_⟩
  have : cs = (opC o).toArray := by rw [← ho]; simp [Value.cells]
  rw [this]
  rfl

set_option maxRecDepth 100000 in
theorem open_stC {H : Type} {enc : TypeId × Value → H} {w : World} {base fuel : Nat} {spare : Nat → Bool} {held : Bool} {cs : List Value} {x : DataW H × List MemPlace}
    (h : DataW.trod enc Tryz.prog w base spare held fuel 69 cs = some x) : ∃ s : Stp, cs = stC s := by
  obtain ⟨y0, y1, y2, n, _, hl, t0, t1, t2⟩ := Go.Deep.trod_struct3 Tryz.underlying69 h
  have hC : Tryz.prog.cellsOf 69 = 11 := by kernel_rfl
  have hO : Tryz.prog.cellsOf 67 = 7 := by kernel_rfl
  have hB : Tryz.prog.cellsOf 4 = 1 := by kernel_rfl
  have hP : Tryz.prog.cellsOf 55 = 3 := by kernel_rfl
  have hI : Tryz.prog.cellsOf 3 = 1 := by kernel_rfl
  rw [hC] at hl
  obtain ⟨c0, c1, c2, c3, c4, c5, c6, c7, c8, c9, c10, rfl⟩ := list11 hl
  simp [hO, hB, hP] at t0 t1 t2
  obtain ⟨o, ho⟩ := open_opC t0
  obtain ⟨b, hb, _⟩ := DataW.trod_bool Tryz.underlying4 t1
  obtain ⟨z0, z1, z2, n', _, _, q0, q1, q2⟩ := Go.Deep.trod_struct3 Tryz.underlying55 t2
  simp [hI] at q0 q1 q2
  obtain ⟨p1, e1, _, _⟩ := DataW.trod_int Tryz.underlying3 q0
  obtain ⟨p2, e2, _, _⟩ := DataW.trod_int Tryz.underlying3 q1
  obtain ⟨p3, e3, _, _⟩ := DataW.trod_int Tryz.underlying3 q2
  simp at e1 e2 e3 hb
  subst e1 e2 e3 hb
  simp [opC] at ho
  obtain ⟨rfl, rfl, rfl, rfl, rfl, rfl, rfl⟩ := ho
  exact ⟨(o, b, (p1, p2, p3)), rfl⟩

set_option maxRecDepth 100000 in
/-- a step that came in -/
theorem open_step {H : Type} {enc : TypeId × Value → H} {w : World} {r : Reach} {b0 base : Nat} {spare : Nat → Bool} {held : Bool} {v : Value} {d : DataW H} {p : List MemPlace}
    (hv : Value.okWide Tryz.prog w r b0 69 v) (h : DataW.Trod enc Tryz.prog w base spare held 69 v d p) : ∃ s : Stp, v = stV s := by
  obtain ⟨cs, rfl, hsz⟩ := okWide_struct Tryz.underlying69 hv
  obtain ⟨fuel, hf⟩ := h
  obtain ⟨o, ho⟩ := open_stC hf
  refine ⟨o, ?_⟩
  have : cs = (stC o).toArray := by rw [← ho]; simp [Value.cells]
  rw [this]
  rfl
end Go.Proofs.YtkjgoikcibgonacGreat

/- Slices of operations and histories that came in as arguments, and what they weigh. -/
namespace Go.Proofs.YtkjgoikcibgonacGreat
open Go.ChangeShapes Go.WideShapes Go.ChangeAt Go.RowKit
open Orangery (Pl Mv Stp)

/-- a slice of such elements that came in, with what it weighs -/
theorem open_slW {α : Type} [Inhabited α] {enc : α → List Value} {k : Nat} {H : Type} {en : TypeId × Value → H} {w : World} {base fuel : Nat} {spare : Nat → Bool} {held : Bool} {v : Value} {x : DataW H × List MemPlace} {t e : TypeId}
    (hk : ∀ x, (enc x).length = k) (hpos : 0 < k) (ht : Tryz.prog.underlying t = some (.slice e)) (hC : Tryz.prog.cellsOf e = k)
    (hel : ∀ (n : Nat) (cs : List Value) (y : DataW H × List MemPlace), DataW.trod en Tryz.prog w base spare held n e cs = some y → ∃ z : α, cs = enc z)
    (h : DataW.trod en Tryz.prog w base spare held fuel t [v] = some x) : ∃ a c, ∃ l : List α, v = .slice a l.length c ∧ l.length ≤ maxLen ∧ l.length ≤ c ∧ (c ≤ maxLen ∧ (a = none → c = 0)) ∧ SlE enc w a l ∧ (l = [] ∨ ∃ m, l.length ≤ m ∧ m * Tryz.prog.bytesOf e ∈ x.1.weights Tryz.prog t) := by
  rcases Go.Deep.open_slice ht h with ⟨hcs, _⟩ | ⟨a, len, cap, m, n, D, Pq, hcs, _, hle, hm, hmm, hxx, hx⟩
  · simp at hcs
    subst hcs
    exact ⟨none, 0, [], rfl, by simp, by simp, ⟨by simp, fun _ => rfl⟩, Or.inl rfl, Or.inl rfl⟩
  · simp at hcs
    subst hcs
    have hlm : len ≤ m := by rw [hmm]; split <;> omega
    have key : ∀ i, i < len → ∃ z : α, ∀ (j : Nat) (v : Value), (enc z)[j]? = some v → w.cell? ((a.add (i * k)).add j) = some v := by
      intro i hi
      obtain ⟨cs', h1, h2⟩ := hx i (by omega)
      rw [hC] at h1
      obtain ⟨z, rfl⟩ := hel _ _ _ h2
      exact ⟨z, (cells_range h1).2⟩
    obtain ⟨f, hf⟩ := Go.Deep.choose_lt key
    refine ⟨some a, cap, (List.range len).map f, by simp, by simp; omega, by simp; omega, ⟨hm, fun e => by simp at e⟩, ?_, Or.inr ⟨m, by simpa using hlm, ?_⟩⟩
    · by_cases hz : len = 0
      · exact Or.inl (by simp [hz])
      · right
        obtain ⟨u, hu⟩ : ∃ u, (enc (f 0))[0]? = some u := ⟨_, List.getElem?_eq_getElem (by rw [hk]; exact hpos)⟩
        have h0 := hf 0 (by omega) 0 u hu
        obtain ⟨b, off, spot⟩ := a
        have hspot : spot = none := by simpa [Addr.add] using World.cell?_spot h0
        subst hspot
        have hb : b < w.heap.size := by
          have := World.block_lt_of_cell? w _ h0
          rw [Addr.add_mid, Addr.add_mid] at this
          exact this
        refine ⟨b, off, rfl, hb, fun j v hv => ?_⟩
        have hj : j < len * k := by
          have := (List.getElem?_eq_some_iff.1 hv).1
          rw [flatE_len hk] at this
          simpa using this
        have hi : j / k < len := (Nat.div_lt_iff_lt_mul hpos).2 hj
        have hc : j % k < k := Nat.mod_lt _ hpos
        have e1 : j / k * k + j % k = j := by rw [Nat.mul_comm]; exact Nat.div_add_mod j k
        have e2 := flatE_get hk ((List.range len).map f) (j / k) (by simpa using hi) (j % k) hc
        rw [e1, hv] at e2
        have e3 := hf (j / k) hi (j % k) v (by simpa using e2.symm)
        rw [Addr.add_mid, Addr.add_mid] at e3
        rw [show off + j = off + j / k * k + j % k by omega]
        exact e3
    · subst hxx
      simp only [DataW.weights, ht]
      have e : ((List.range len).map D).length + ((List.range (m - len)).map fun j => D (len + j)).length = m := by simp; omega
      rw [e]
      exact List.mem_cons_self

end Go.Proofs.YtkjgoikcibgonacGreat

/- Ints, places with the room behind them, and views that came in as arguments. -/
namespace Go.Proofs.YtkjgoikcibgonacGreat
open Go.ChangeShapes Go.WideShapes Go.ChangeAt Go.RowKit
open Orangery (Pl)

def intC (x : Int) : List Value := [.int .i64 x]
theorem intC_len (x : Int) : (intC x).length = 1 := rfl

theorem sli_of {w : World} {a : Option Addr} {l : List Int} (h : SlE intC w a l) : SlI w a l := by
  rcases h with h | ⟨b, off, ha, hlt, hp⟩
  · exact Or.inl h
  · refine Or.inr ⟨b, off, ha, hlt, fun i hi => ?_⟩
    have := elemE intC_len hp i hi 0 (.int .i64 l[i]) rfl
    rw [Nat.mul_one, Nat.add_zero] at this
    exact this
theorem slp_of {w : World} {a : Option Addr} {l : List Pl} (h : SlE encPl w a l) : SlP w a l := by
  rcases h with h | ⟨b, off, ha, hlt, hp⟩
  · exact Or.inl h
  · refine Or.inr ⟨b, off, ha, hlt, fun i hi => ?_⟩
    have hr := elemE encPl_len hp i hi
    exact ⟨hr 0 _ rfl, hr 1 _ rfl, hr 2 _ rfl⟩

theorem open_intC {H : Type} {enc : TypeId × Value → H} {w : World} {base fuel : Nat} {spare : Nat → Bool} {held : Bool} {cs : List Value} {x : DataW H × List MemPlace}
    (h : DataW.trod enc Tryz.prog w base spare held fuel 3 cs = some x) : ∃ z : Int, cs = intC z := by
  obtain ⟨q, e, _, _⟩ := DataW.trod_int Tryz.underlying3 h
  exact ⟨q, e⟩
set_option maxRecDepth 100000 in
theorem open_plC {H : Type} {enc : TypeId × Value → H} {w : World} {base fuel : Nat} {spare : Nat → Bool} {held : Bool} {cs : List Value} {x : DataW H × List MemPlace}
    (h : DataW.trod enc Tryz.prog w base spare held fuel 55 cs = some x) : ∃ z : Pl, cs = encPl z := by
  obtain ⟨y0, y1, y2, n', _, hl, t0, t1, t2⟩ := Go.Deep.trod_struct3 Tryz.underlying55 h
  have hC : Tryz.prog.cellsOf 55 = 3 := by kernel_rfl
  have hI : Tryz.prog.cellsOf 3 = 1 := by kernel_rfl
  rw [hC] at hl
  obtain ⟨c0, c1, c2, rfl⟩ : ∃ c0 c1 c2, cs = [c0, c1, c2] := by
    match cs, hl with
    | [x, y, z], _ => exact ⟨x, y, z, rfl⟩
  simp [hI] at t0 t1 t2
  obtain ⟨q0, e0, _, _⟩ := DataW.trod_int Tryz.underlying3 t0
  obtain ⟨q1, e1, _, _⟩ := DataW.trod_int Tryz.underlying3 t1
  obtain ⟨q2, e2, _, _⟩ := DataW.trod_int Tryz.underlying3 t2
  simp at e0 e1 e2
  subst e0 e1 e2
  exact ⟨(q0, q1, q2), rfl⟩

set_option maxRecDepth 100000 in
/-- ints that came in -/
theorem open_ints {H : Type} {enc : TypeId × Value → H} {w : World} {r : Reach} {b0 base : Nat} {spare : Nat → Bool} {held : Bool} {v : Value} {d : DataW H} {p : List MemPlace}
    (hv : Value.okWide Tryz.prog w r b0 22 v) (h : DataW.Trod enc Tryz.prog w base spare held 22 v d p) : ∃ a c, ∃ l : List Int, v = .slice a l.length c ∧ l.length ≤ maxLen ∧ (l.length ≤ c ∧ c ≤ maxLen) ∧ SlI w a l := by
  obtain ⟨a', n', c', rfl⟩ := okWide_slice Tryz.underlying22 hv
  obtain ⟨fuel, hf⟩ := h
  obtain ⟨a, c, l, e, h1, h2, ⟨h4, _⟩, h3, _⟩ := open_slW intC_len (by omega) Tryz.underlying22 (by kernel_rfl) (fun n cs y hy => open_intC hy) hf
  exact ⟨a, c, l, e, h1, ⟨h2, h4⟩, sli_of h3⟩

set_option maxRecDepth 100000 in
theorem open_view {H : Type} {enc : TypeId × Value → H} {w : World} {r : Reach} {b0 base : Nat} {spare : Nat → Bool} {held : Bool} {v : Value} {d : DataW H} {p : List MemPlace}
    (hv : Value.okWide Tryz.prog w r b0 25 v) (h : DataW.Trod enc Tryz.prog w base spare held 25 v d p) :
    ∃ aR aK aW cR cK cW, ∃ (R : List Int) (K W : List Pl), v = .agg #[.slice aR R.length cR, .slice aK K.length cK, .slice aW W.length cW] ∧ (R.length ≤ maxLen ∧ K.length ≤ maxLen ∧ W.length ≤ maxLen) ∧ ((aK = none → cK = 0) ∧ (aW = none → cW = 0)) ∧ SlI w aR R ∧ SlP w aK K ∧ SlP w aW W := by
  obtain ⟨cs, rfl, hsz⟩ := okWide_struct Tryz.underlying25 hv
  have hC : Tryz.prog.cellsOf 25 = 3 := by kernel_rfl
  have hD : Tryz.prog.cellsOf 22 = 1 := by kernel_rfl
  have hF : Tryz.prog.cellsOf 23 = 1 := by kernel_rfl
  rw [hC] at hsz
  obtain ⟨c0, c1, c2, rfl⟩ : ∃ c0 c1 c2, cs = #[c0, c1, c2] := by
    have h1 : cs.toList.length = 3 := by simpa using hsz
    cases cs with
    | mk l =>
      match l, h1 with
      | [x, y, z], _ => exact ⟨x, y, z, rfl⟩
  obtain ⟨fuel, hf⟩ := h
  obtain ⟨y0, y1, y2, n, _, _, h0, h1, h2⟩ := Go.Deep.trod_struct3 Tryz.underlying25 hf
  simp [Value.cells, hD, hF] at h0 h1 h2
  obtain ⟨aR, cR, R, rfl, m0, _, _, hR, _⟩ := open_slW intC_len (by omega) Tryz.underlying22 (by kernel_rfl) (fun n cs y hy => open_intC hy) h0
  obtain ⟨aK, cK, K, rfl, m1, _, ⟨_, n1⟩, hK, _⟩ := open_slW encPl_len (by omega) Tryz.underlying23 (by kernel_rfl) (fun n cs y hy => open_plC hy) h1
  obtain ⟨aW, cW, W, rfl, m2, _, ⟨_, n2⟩, hW, _⟩ := open_slW encPl_len (by omega) Tryz.underlying23 (by kernel_rfl) (fun n cs y hy => open_plC hy) h2
  exact ⟨aR, aK, aW, cR, cK, cW, R, K, W, rfl, ⟨m0, m1, m2⟩, ⟨n1, n2⟩, sli_of hR, slp_of hK, slp_of hW⟩
end Go.Proofs.YtkjgoikcibgonacGreat

/- Deltas that came in as arguments. -/
namespace Go.Proofs.YtkjgoikcibgonacGreat
open Go.ChangeShapes Go.WideShapes Go.ChangeAt Go.RowKit
open Orangery (Pl)

set_option maxRecDepth 100000 in
theorem open_delta {H : Type} {enc : TypeId × Value → H} {w : World} {r : Reach} {b0 base : Nat} {spare : Nat → Bool} {held : Bool} {v : Value} {d : DataW H} {p : List MemPlace}
    (hv : Value.okWide Tryz.prog w r b0 27 v) (h : DataW.Trod enc Tryz.prog w base spare held 27 v d p) :
    ∃ aG aH aX aY cG cH cX cY, ∃ (G : List Int) (H : List Pl) (X : List Int) (Y : List Pl), v = .agg #[.slice aG G.length cG, .slice aH H.length cH, .slice aX X.length cX, .slice aY Y.length cY] ∧ (G.length ≤ maxLen ∧ H.length ≤ maxLen ∧ X.length ≤ maxLen ∧ Y.length ≤ maxLen) ∧ ((aH = none → cH = 0) ∧ (aY = none → cY = 0)) ∧ SlI w aG G ∧ SlP w aH H ∧ SlI w aX X ∧ SlP w aY Y := by
  obtain ⟨cs, rfl, hsz⟩ := okWide_struct Tryz.underlying27 hv
  have hC : Tryz.prog.cellsOf 27 = 4 := by kernel_rfl
  have hD : Tryz.prog.cellsOf 22 = 1 := by kernel_rfl
  have hF : Tryz.prog.cellsOf 23 = 1 := by kernel_rfl
  rw [hC] at hsz
  obtain ⟨c0, c1, c2, c3, rfl⟩ := Go.Joins.array4 hsz
  obtain ⟨fuel, hf⟩ := h
  obtain ⟨y0, y1, y2, y3, n, _, _, h0, h1, h2, h3⟩ := Go.Joins.trod_struct4 Tryz.underlying27 hf
  simp [Value.cells, hD, hF] at h0 h1 h2 h3
  obtain ⟨aG, cG, G, rfl, m0, _, _, hG, _⟩ := open_slW intC_len (by omega) Tryz.underlying22 (by kernel_rfl) (fun n cs y hy => open_intC hy) h0
  obtain ⟨aH, cH, H', rfl, m1, _, ⟨_, n1⟩, hH, _⟩ := open_slW encPl_len (by omega) Tryz.underlying23 (by kernel_rfl) (fun n cs y hy => open_plC hy) h1
  obtain ⟨aX, cX, X, rfl, m2, _, _, hX, _⟩ := open_slW intC_len (by omega) Tryz.underlying22 (by kernel_rfl) (fun n cs y hy => open_intC hy) h2
  obtain ⟨aY, cY, Y, rfl, m3, _, ⟨_, n3⟩, hY, _⟩ := open_slW encPl_len (by omega) Tryz.underlying23 (by kernel_rfl) (fun n cs y hy => open_plC hy) h3
  exact ⟨aG, aH, aX, aY, cG, cH, cX, cY, G, H', X, Y, rfl, ⟨m0, m1, m2, m3⟩, ⟨n1, n3⟩, sli_of hG, slp_of hH, sli_of hX, slp_of hY⟩
end Go.Proofs.YtkjgoikcibgonacGreat

/- For every two views and every two deltas orangerylaw.DeltaSays answers true: what changes is told, a delta is checked, held against another one, applied, as the reference does, errors too. No condition. -/
namespace Go.Proofs.YtkjgoikcibgonacGreat.deltaSays
open Go.ChangeShapes Go.WideShapes Go.ChangeAt Go.RowKit
set_option linter.unusedVariables false

theorem own : ownKnob Tryz.prog.godebug = none := by kernel_rfl
theorem laidOut : laidOutB Tryz.prog = true := by kernel_rfl

set_option maxRecDepth 100000 in
theorem lifted (os : Os) (started : os.Started) (H : Type) (enc : TypeId × Value → H) :
    ReturnsInHanded {} Tryz.checked os 3 .any (Rows.deltaSaysSpec.pre6 enc Tryz.prog Tryz.f3 Rows.deltaSaysRow.domain false) (Rows.deltaSaysSpec.post enc Tryz.prog Tryz.f3 false true false false) := by
  refine returnsInHanded_of_change (C := Tryz.checked) own started (by kernel_rfl) Tryz.func3
    (ChangeSpec.witness6 (enc := enc) (C := Tryz.checked) false ⟨#[], #[.agg #[.slice none 0 0, .slice none 0 0, .slice none 0 0], .agg #[.slice none 0 0, .slice none 0 0, .slice none 0 0], .agg #[.slice none 0 0, .slice none 0 0, .slice none 0 0, .slice none 0 0], .agg #[.slice none 0 0, .slice none 0 0, .slice none 0 0, .slice none 0 0]], []⟩ 8 (by kernel_rfl) (by kernel_rfl) (by kernel_rfl) (by kernel_rfl)) ?_
  intro W base args ds gs before hval0 hW hcnd _
  have hval : ∀ (j : Nat) t v, Tryz.f3.params[j]? = some t → args[j]? = some v → Value.okWide Tryz.prog W .any base t v := hval0
  have hW' := hW
  obtain ⟨p, q, hA0, hV, rfl, hfz, hnd⟩ := hW
  have hA : DataW.TrodAll enc Tryz.prog W 0 (fun _ => true) true Tryz.f3.params.toList args.toList ds p := hA0
  rw [Tryz.params3] at hA hval
  obtain ⟨v0, vs0, d0, ds0, p0, q0, hargs, rfl, rfl, h0, r0⟩ := trodAll_cons hA
  obtain ⟨v1, vs1, d1, ds1, p1, q1, rfl, rfl, rfl, h1, r1⟩ := trodAll_cons r0
  obtain ⟨v2, vs2, d2, ds2, p2, q2, rfl, rfl, rfl, h2, r2⟩ := trodAll_cons r1
  obtain ⟨v3, vs3, d3, ds3, p3, q3, rfl, rfl, rfl, h3, r3⟩ := trodAll_cons r2
  obtain ⟨rfl, rfl, rfl⟩ := trodAll_nil r3
  obtain rfl : args = #[v0, v1, v2, v3] := by cases args; simp_all
  obtain ⟨rfl, rfl⟩ := trodVars_none hV
  have k0 := h0
  have lt0 : ∀ x ∈ p0, x.block < W.heap.size := by obtain ⟨m, hm⟩ := k0; exact DataW.trod_lt m _ _ _ hm
  obtain ⟨aR0, aK0, aW0, cR0, cK0, cW0, R0, K0, W0, rfl, m0, n0, PR0, PK0, PW0⟩ := open_view (hval 0 25 v0 rfl rfl) h0
  have k1 := h1
  have lt1 : ∀ x ∈ p1, x.block < W.heap.size := by obtain ⟨m, hm⟩ := k1; exact DataW.trod_lt m _ _ _ hm
  obtain ⟨aR1, aK1, aW1, cR1, cK1, cW1, R1, K1, W1, rfl, m1, n1, PR1, PK1, PW1⟩ := open_view (hval 1 25 v1 rfl rfl) h1
  have k2 := h2
  have lt2 : ∀ x ∈ p2, x.block < W.heap.size := by obtain ⟨m, hm⟩ := k2; exact DataW.trod_lt m _ _ _ hm
  obtain ⟨aG2, aH2, aX2, aY2, cG2, cH2, cX2, cY2, G2, H2, X2, Y2, rfl, m2, n2, PG2, PH2, PX2, PY2⟩ := open_delta (hval 2 27 v2 rfl rfl) h2
  have k3 := h3
  have lt3 : ∀ x ∈ p3, x.block < W.heap.size := by obtain ⟨m, hm⟩ := k3; exact DataW.trod_lt m _ _ _ hm
  obtain ⟨aG3, aH3, aX3, aY3, cG3, cH3, cX3, cY3, G3, H3, X3, Y3, rfl, m3, n3, PG3, PH3, PX3, PY3⟩ := open_delta (hval 3 27 v3 rfl rfl) h3
  clear hA0 hval0
  refine (deltaSays_any W aR0 aK0 aW0 cR0 cK0 cW0 R0 K0 W0 aR1 aK1 aW1 cR1 cK1 cW1 R1 K1 W1 aG2 aH2 aX2 aY2 cG2 cH2 cX2 cY2 G2 H2 X2 Y2 aG3 aH3 aX3 aY3 cG3 cH3 cX3 cY3 G3 H3 X3 Y3 m0 n0 PR0 PK0 PW0 m1 n1 PR1 PK1 PW1 m2 n2 PG2 PH2 PX2 PY2 m3 n3 PG3 PH3 PX3 PY3).mono fun e W' ⟨he, bel⟩ => ?_
  subst he
  exact ⟨_, rfl, _, _, _, [], _, [], hW', trodAll_mk1 (shut_bool Tryz.underlying4 _), (trodAll_cons_mk (Below.trod laidOut (by kernel_rfl) (of_decide_eq_true (by kernel_rfl)) k0 bel lt0) (trodAll_cons_mk (Below.trod laidOut (by kernel_rfl) (of_decide_eq_true (by kernel_rfl)) k1 bel lt1) (trodAll_cons_mk (Below.trod laidOut (by kernel_rfl) (of_decide_eq_true (by kernel_rfl)) k2 bel lt2) (trodAll_cons_mk (Below.trod laidOut (by kernel_rfl) (of_decide_eq_true (by kernel_rfl)) k3 bel lt3) trodAll_mk0)))), rfl, bel.frame _, fun h => by cases h⟩

theorem over : Rows.deltaSaysRow.holds Tryz.pinned (OpenSpec.ofChange Rows.deltaSaysSpec) :=
  OpenClaim.holds_of_wide 3 Tryz.f3 rfl rfl rfl rfl rfl rfl rfl ⟨rfl, rfl, rfl, rfl, rfl⟩ rfl rfl rfl rfl rfl (by kernel_rfl) Tryz.func3 (by kernel_rfl)
    (of_decide_eq_true (by kernel_rfl)) (by unfold Func.isWrapper; first | (rw [if_pos (by decide +kernel)]; kernel_rfl) | (rw [if_neg (by decide +kernel)]; exact ⟨rfl, rfl⟩))
    (fun os started H enc _ => lifted os started H enc)

/-- The statement. -/
theorem proved : Rows.DeltaSaysSaid :=
  over
#print axioms proved
end Go.Proofs.YtkjgoikcibgonacGreat.deltaSays

