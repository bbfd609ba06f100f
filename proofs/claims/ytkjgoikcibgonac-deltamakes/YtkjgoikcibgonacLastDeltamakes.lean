/- For every three trees and every roots orangerylaw.DeltaMakes answers true: a delta applied to the one view makes the other one, of like views there is none, one behind the other they make what the last one makes. No condition. -/
import Derived.Deep.Slices
import Derived.Deep.Strs
import Derived.ChangeOld
import Derived.SizedLaws
import Derived.Test.YtkjgoikcibgonacP11
import Derived.Test.YtkjgoikcibgonacP01
import Derived.Test.YtkjgoikcibgonacP03
import Derived.Test.YtkjgoikcibgonacP04
import Derived.Test.YtkjgoikcibgonacP06
/- orangerylaw.DeltaMakes: the walk. -/
namespace Go.Proofs.Ytkjgoikcibgonac
open Go.ChangeShapes Go.WideShapes Go.ChangeAt Go.RowKit
open Orangery (Pl ofE ofR ofK ofW viewK viewW viewE goneL hereL deltaE sameV)

theorem SlP.elder {W w : World} {a : Option Addr} {l : List Pl} {g : Nat} (h0 : SlP W a l) (h : SlP w a l) (hg : W.heap.size ≤ g) : ∀ (us : List Value) (o : Nat), SlP (w.setCells g o us) a l := by
  rcases h0 with rfl | ⟨b, off, rfl, hlt, _⟩
  · exact fun _ _ => Or.inl rfl
  · intro us
    induction us generalizing w with
    | nil => intro o; exact h
    | cons u us ih => intro o; exact ih (h.other g (fun b' off' e => by simp at e; omega) o u) (o + 1)
theorem SlI.elder {W w : World} {a : Option Addr} {l : List Int} {g : Nat} (h0 : SlI W a l) (h : SlI w a l) (hg : W.heap.size ≤ g) (us : List Value) (o : Nat) : SlI (w.setCells g o us) a l := by
  refine h.others g (fun hn b off e => ?_) us o
  rcases h0 with h0 | ⟨b', off', e', hlt, _⟩
  · exact absurd h0 hn
  · rw [e] at e'
    simp at e'
    omega
theorem SlI.fresh {w : World} {a : Option Addr} {l : List Int} {B g : Nat} (h : SlI w a l) (hf : Fresh B a) (hg : g < B) (us : List Value) (o : Nat) : SlI (w.setCells g o us) a l :=
  h.others g (fun _ b off e => by have := hf b off e; omega) us o

theorem small_view {R : List Int} {K V : List Pl} (h : viewE R K V = 0) : R.length ≤ maxLen ∧ K.length ≤ maxLen ∧ V.length ≤ maxLen := by
  have h1 := Orangery.rootsOk_len (Orangery.view_parts h).1
  have h2 := Orangery.scan_small (Orangery.view_scan h).1
  have h3 := Orangery.scan_small (Orangery.view_scan h).2
  unfold maxLen
  omega
theorem small_delta {G : List Int} {H : List Pl} {X : List Int} {Y : List Pl} (h : deltaE G H X Y = 0) : G.length ≤ maxLen ∧ H.length ≤ maxLen ∧ X.length ≤ maxLen ∧ Y.length ≤ maxLen := by
  rw [Orangery.delta_or] at h
  obtain ⟨h1, h2⟩ := Orangery.orI_zero h
  have h3 := Orangery.half_zero h1
  have h4 := Orangery.half_zero h2
  unfold maxLen
  omega
theorem dof_ok (w : World) (aR aK aV bR bK bV : Option Addr) (cR cK cV dR dK dV : Nat) (R : List Int) (K V K' V' : List Pl) (v1 : viewE R K V = 0) (v2 : viewE R K' V' = 0)
    (hc : (aV = none → cV = 0) ∧ (bV = none → dV = 0)) (h1 : SlI w aR R) (h2 : SlP w aK K) (h3 : SlP w aV V) (h4 : SlI w bR R) (h5 : SlP w bK K') (h6 : SlP w bV V') :
    Calls Try.prog 6 #[viV (.slice aR R.length cR) (.slice aK K.length cK) (.slice aV V.length cV), viV (.slice bR R.length dR) (.slice bK K'.length dK) (.slice bV V'.length dV)] w (Deltas w (goneL K K') (hereL K K') (goneL V V') (hereL V V') 0) := by
  have h := dof_any w aR aK aV bR bK bV cR cK cV dR dK dV R R K K' V V' ⟨small_view v1, small_view v2⟩ hc h1 h2 h3 h4 h5 h6
  obtain ⟨e1, _⟩ := Orangery.made_of v1 v2
  rw [e1, (Orangery.df_ok K K' rfl).1, (Orangery.df_ok K K' rfl).2, (Orangery.df_ok V V' rfl).1, (Orangery.df_ok V V' rfl).2] at h
  exact h
theorem apply_ok (w : World) (aR aK aV aG aH aX aY : Option Addr) (cR cK cV cG cH cX cY : Nat) (R : List Int) (K V K' V' : List Pl) (v1 : viewE R K V = 0) (v2 : viewE R K' V' = 0)
    (hc : (aV = none → cV = 0) ∧ (aH = none → cH = 0) ∧ (aY = none → cY = 0)) (h1 : SlI w aR R) (h2 : SlP w aK K) (h3 : SlP w aV V) (h4 : SlI w aG (goneL K K')) (h5 : SlP w aH (hereL K K')) (h6 : SlI w aX (goneL V V')) (h7 : SlP w aY (hereL V V')) :
    Calls Try.prog 7 #[viV (.slice aR R.length cR) (.slice aK K.length cK) (.slice aV V.length cV), deV (.slice aG (goneL K K').length cG) (.slice aH (hereL K K').length cH) (.slice aX (goneL V V').length cX) (.slice aY (hereL V V').length cY)] w (Views w aR R K' V' 0) := by
  obtain ⟨_, e2, e3, e4, e5⟩ := Orangery.made_of v1 v2
  have h := apply_any w aR aK aV aG aH aX aY cR cK cV cG cH cX cY R K V _ _ _ _ ⟨small_view v1, small_delta e2⟩ hc h1 h2 h3 h4 h5 h6 h7
  rw [e3, Orangery.ap_ok rfl, Orangery.al_ok rfl, Orangery.al_ok rfl, e4, e5] at h
  exact h
theorem dof_none (w : World) (aR aK aV : Option Addr) (cR cK cV : Nat) (R : List Int) (K V : List Pl) (v1 : viewE R K V = 0) (hc : aV = none → cV = 0) (h1 : SlI w aR R) (h2 : SlP w aK K) (h3 : SlP w aV V) :
    Calls Try.prog 6 #[viV (.slice aR R.length cR) (.slice aK K.length cK) (.slice aV V.length cV), viV (.slice aR R.length cR) (.slice aK K.length cK) (.slice aV V.length cV)] w
      fun e w' => ∃ aG aH aX aY cG cH cX cY, e = .returned (.tuple #[deV (.slice aG 0 cG) (.slice aH 0 cH) (.slice aX 0 cX) (.slice aY 0 cY), .int .i64 0]) ∧ Below w.heap.size w w' := by
  refine (dof_ok w aR aK aV aR aK aV cR cK cV cR cK cV R K V K V v1 v1 ⟨hc, hc⟩ h1 h2 h3 h1 h2 h3).mono ?_
  obtain ⟨e1, e2, e3, e4⟩ := Orangery.made_none v1
  rw [e1, e2, e3, e4]
  rintro e w' ⟨aG, aH, aX, aY, cG, cH, cX, cY, rfl, _, _, _, _, _, _, hb⟩
  exact ⟨aG, aH, aX, aY, cG, cH, cX, cY, rfl, hb⟩
theorem sameV_one (R : List Int) (K V : List Pl) : sameV R R K K V V = true := by simp [sameV]

set_option maxHeartbeats 8000000 in
set_option maxRecDepth 100000 in
theorem deltaMakes_any (w : World) (a0 : Option Addr) (c0 : Nat) (l0 : List Pl) (a1 : Option Addr) (c1 : Nat) (l1 : List Pl) (a2 : Option Addr) (c2 : Nat) (l2 : List Pl) (a3 : Option Addr) (c3 : Nat) (R : List Int)
    (m0 : l0.length ≤ maxLen) (h0 : SlP w a0 l0) (m1 : l1.length ≤ maxLen) (h1 : SlP w a1 l1) (m2 : l2.length ≤ maxLen) (h2 : SlP w a2 l2) (m3 : R.length ≤ maxLen) (h3 : SlI w a3 R) :
    Calls Try.prog 3 #[.agg #[.slice a0 l0.length c0], .agg #[.slice a1 l1.length c1], .agg #[.slice a2 l2.length c2], .slice a3 R.length c3] w
      fun e w' => e = .returned (.bool true) ∧ Below w.heap.size w w' := by
  have HOF0 : Hid (∀ W, Below w.heap.size w W → Calls Try.prog 4 #[.agg #[.slice a0 l0.length c0], .slice a3 R.length c3] W (Views W a3 (ofR l0 R) (ofK l0 R) (ofW l0 R) (ofE l0 R))) := fun W hb => of_any W a0 a3 c0 c3 l0 R m0 m3 (h0.below hb) (h3.below hb)
  have HG0 : Hid (ofE l0 R = 0 → R = ofR l0 R ∧ viewE R (ofK l0 R) (ofW l0 R) = 0) := fun h => by obtain ⟨e1, e2, e3⟩ := Orangery.of_ok h; rw [e2, e3]; exact ⟨e1.symm, Orangery.view_ok l0 R h⟩
  have HOF1 : Hid (∀ W, Below w.heap.size w W → Calls Try.prog 4 #[.agg #[.slice a1 l1.length c1], .slice a3 R.length c3] W (Views W a3 (ofR l1 R) (ofK l1 R) (ofW l1 R) (ofE l1 R))) := fun W hb => of_any W a1 a3 c1 c3 l1 R m1 m3 (h1.below hb) (h3.below hb)
  have HG1 : Hid (ofE l1 R = 0 → R = ofR l1 R ∧ viewE R (ofK l1 R) (ofW l1 R) = 0) := fun h => by obtain ⟨e1, e2, e3⟩ := Orangery.of_ok h; rw [e2, e3]; exact ⟨e1.symm, Orangery.view_ok l1 R h⟩
  have HOF2 : Hid (∀ W, Below w.heap.size w W → Calls Try.prog 4 #[.agg #[.slice a2 l2.length c2], .slice a3 R.length c3] W (Views W a3 (ofR l2 R) (ofK l2 R) (ofW l2 R) (ofE l2 R))) := fun W hb => of_any W a2 a3 c2 c3 l2 R m2 m3 (h2.below hb) (h3.below hb)
  have HG2 : Hid (ofE l2 R = 0 → R = ofR l2 R ∧ viewE R (ofK l2 R) (ofW l2 R) = 0) := fun h => by obtain ⟨e1, e2, e3⟩ := Orangery.of_ok h; rw [e2, e3]; exact ⟨e1.symm, Orangery.view_ok l2 R h⟩
  generalize ofR l0 R = R0 at *
  generalize ofK l0 R = K0 at *
  generalize ofW l0 R = V0 at *
  generalize ofE l0 R = E0 at *
  generalize ofR l1 R = R1 at *
  generalize ofK l1 R = K1 at *
  generalize ofW l1 R = V1 at *
  generalize ofE l1 R = E1 at *
  generalize ofR l2 R = R2 at *
  generalize ofK l2 R = K2 at *
  generalize ofW l2 R = V2 at *
  generalize ofE l2 R = E2 at *
  obtain ⟨W0, hW, BT, BU, BS, hb, -⟩ := laid3 w [Value.slice a0 l0.length c0] 24 [Value.slice a1 l1.length c1] 24 [Value.slice a2 l2.length c2] 24
  have HB0 : Hid (Below w.heap.size w W0) := hb
  clear h0 h1 h2 h3 m0 m1 m2 m3 hb
  have BT0 := BT
  have BU0 := BU
  have BS0 := BS
  clear BT BU BS
  have t0 := BT0.at 0 rfl
  go_enter Try.func3, Try.ntmps3
  go_wp2_with fail
  clear hW t0
  refine (HOF0.out W0 HB0.out).mono ?_
  rintro e w1 ⟨uR, uK, uV, pR, pK, pV, rfl, nn, -, q1, q2, q3, hb⟩
  have HN0 : Hid ((uK = none → pK = 0) ∧ (uV = none → pV = 0)) := nn
  clear nn
  have BT1 := BT0.keep hb
  have BU1 := BU0.keep hb
  have BS1 := BS0.keep hb
  have HB1 : Hid (Below w.heap.size w w1) := HB0.out.trans (hb.mono HB0.out.size)
  clear BT0 BU0 BS0 HB0
  clear hb
  clear BT1
  have XR1 := q1
  have XK1 := q2
  have XV1 := q3
  clear q1 q2 q3
  obtain ⟨W1, hW1, B_, hb, -⟩ := laid1 w1 [Value.slice uR R0.length pR, Value.slice uK K0.length pK, Value.slice uV V0.length pV] 27
  have BU2 := BU1.keep hb
  have BS2 := BS1.keep hb
  have XR2 := XR1.below hb
  have XK2 := XK1.below hb
  have XV2 := XV1.below hb
  have HB2 : Hid (Below w.heap.size w W1) := HB1.out.trans (hb.mono HB1.out.size)
  clear BU1 BS1 XR1 XK1 XV1 HB1
  clear hb
  have BX2 := B_
  clear B_
  have t0 := BU2.at 0 rfl
  go_wp2_with fail
  clear hW1 t0
  refine (HOF1.out W1 HB2.out).mono ?_
  rintro e w2 ⟨vR, vK, vV, qR, qK, qV, rfl, nn, -, q1, q2, q3, hb⟩
  have HN1 : Hid ((vK = none → qK = 0) ∧ (vV = none → qV = 0)) := nn
  clear nn
  have BU3 := BU2.keep hb
  have BS3 := BS2.keep hb
  have XR3 := XR2.below hb
  have XK3 := XK2.below hb
  have XV3 := XV2.below hb
  have BX3 := BX2.keep hb
  have HB3 : Hid (Below w.heap.size w w2) := HB2.out.trans (hb.mono HB2.out.size)
  clear BU2 BS2 XR2 XK2 XV2 BX2 HB2
  clear hb
  clear BU3
  have YR3 := q1
  have YK3 := q2
  have YV3 := q3
  clear q1 q2 q3
  obtain ⟨W2, hW2, B_, hb, -⟩ := laid1 w2 [Value.slice vR R1.length qR, Value.slice vK K1.length qK, Value.slice vV V1.length qV] 27
  have BS4 := BS3.keep hb
  have XR4 := XR3.below hb
  have XK4 := XK3.below hb
  have XV4 := XV3.below hb
  have BX4 := BX3.keep hb
  have YR4 := YR3.below hb
  have YK4 := YK3.below hb
  have YV4 := YV3.below hb
  have HB4 : Hid (Below w.heap.size w W2) := HB3.out.trans (hb.mono HB3.out.size)
  clear BS3 XR3 XK3 XV3 BX3 YR3 YK3 YV3 HB3
  clear hb
  have BY4 := B_
  clear B_
  have t0 := BS4.at 0 rfl
  go_wp2_with fail
  clear hW2 t0
  refine (HOF2.out W2 HB4.out).mono ?_
  rintro e w3 ⟨zR, zK, zV, rR, rK, rV, rfl, nn, -, q1, q2, q3, hb⟩
  have HN2 : Hid ((zK = none → rK = 0) ∧ (zV = none → rV = 0)) := nn
  clear nn
  have BS5 := BS4.keep hb
  have XR5 := XR4.below hb
  have XK5 := XK4.below hb
  have XV5 := XV4.below hb
  have BX5 := BX4.keep hb
  have YR5 := YR4.below hb
  have YK5 := YK4.below hb
  have YV5 := YV4.below hb
  have BY5 := BY4.keep hb
  have HB5 : Hid (Below w.heap.size w w3) := HB4.out.trans (hb.mono HB4.out.size)
  clear BS4 XR4 XK4 XV4 BX4 YR4 YK4 YV4 BY4 HB4
  clear hb
  clear BS5
  have ZR5 := q1
  have ZK5 := q2
  have ZV5 := q3
  clear q1 q2 q3
  obtain ⟨W3, hW3, B_, hb, -⟩ := laid1 w3 [Value.slice zR R2.length rR, Value.slice zK K2.length rK, Value.slice zV V2.length rV] 27
  have XR6 := XR5.below hb
  have XK6 := XK5.below hb
  have XV6 := XV5.below hb
  have BX6 := BX5.keep hb
  have YR6 := YR5.below hb
  have YK6 := YK5.below hb
  have YV6 := YV5.below hb
  have BY6 := BY5.keep hb
  have ZR6 := ZR5.below hb
  have ZK6 := ZK5.below hb
  have ZV6 := ZV5.below hb
  have HB6 : Hid (Below w.heap.size w W3) := HB5.out.trans (hb.mono HB5.out.size)
  clear XR5 XK5 XV5 BX5 YR5 YK5 YV5 BY5 ZR5 ZK5 ZV5 HB5
  clear hb
  have BZ6 := B_
  clear B_
  go_wp2_with fail
  clear hW3 HOF0 HOF1 HOF2
  refine (differs_any W3).mono ?_
  rintro e w4 ⟨rfl, hb⟩
  have XR7 := XR6.below hb
  have XK7 := XK6.below hb
  have XV7 := XV6.below hb
  have BX7 := BX6.keep hb
  have YR7 := YR6.below hb
  have YK7 := YK6.below hb
  have YV7 := YV6.below hb
  have BY7 := BY6.keep hb
  have ZR7 := ZR6.below hb
  have ZK7 := ZK6.below hb
  have ZV7 := ZV6.below hb
  have BZ7 := BZ6.keep hb
  have HB7 : Hid (Below w.heap.size w w4) := HB6.out.trans (hb.mono HB6.out.size)
  clear XR6 XK6 XV6 BX6 YR6 YK6 YV6 BY6 ZR6 ZK6 ZV6 BZ6 HB6
  clear hb
  by_cases hz0 : ¬ E0 = 0
  · have hz' : (E0 != 0) = true := by simpa using hz0
    clear XR7 XK7 XV7 BX7 YR7 YK7 YV7 BY7 ZR7 ZK7 ZV7 BZ7
    clear hz0
    go_wp2_with fail
    refine (differs_any w4).mono ?_
    rintro e w5 ⟨rfl, hb⟩
    have HB' : Hid (Below w.heap.size w w5) := HB7.out.trans (hb.mono HB7.out.size)
    clear hb
    go_wp2
    go_ret
    exact ⟨rfl, HB'.out⟩
  replace hz0 := Decidable.of_not_not hz0
  subst hz0
  by_cases hz1 : ¬ E1 = 0
  · have hz' : (E1 != 0) = true := by simpa using hz1
    clear XR7 XK7 XV7 BX7 YR7 YK7 YV7 BY7 ZR7 ZK7 ZV7 BZ7
    clear hz1
    go_wp2_with fail
    refine (differs_any w4).mono ?_
    rintro e w5 ⟨rfl, hb⟩
    have HB' : Hid (Below w.heap.size w w5) := HB7.out.trans (hb.mono HB7.out.size)
    clear hb
    go_wp2
    go_ret
    exact ⟨rfl, HB'.out⟩
  replace hz1 := Decidable.of_not_not hz1
  subst hz1
  by_cases hz2 : ¬ E2 = 0
  · have hz' : (E2 != 0) = true := by simpa using hz2
    clear XR7 XK7 XV7 BX7 YR7 YK7 YV7 BY7 ZR7 ZK7 ZV7 BZ7
    clear hz2
    go_wp2_with fail
    refine (differs_any w4).mono ?_
    rintro e w5 ⟨rfl, hb⟩
    have HB' : Hid (Below w.heap.size w w5) := HB7.out.trans (hb.mono HB7.out.size)
    clear hb
    go_wp2
    go_ret
    exact ⟨rfl, HB'.out⟩
  replace hz2 := Decidable.of_not_not hz2
  subst hz2
  obtain ⟨e0, v0⟩ := HG0.out rfl
  have HV0 : Hid (viewE R K0 V0 = 0) := v0
  subst e0
  clear v0 HG0
  obtain ⟨e1, v1⟩ := HG1.out rfl
  have HV1 : Hid (viewE R K1 V1 = 0) := v1
  subst e1
  clear v1 HG1
  obtain ⟨e2, v2⟩ := HG2.out rfl
  have HV2 : Hid (viewE R K2 V2 = 0) := v2
  subst e2
  clear v2 HG2
  have bx_0 := BX7.at 0 rfl
  have bx_1 := BX7.at 1 rfl
  have bx_2 := BX7.at 2 rfl
  have by_0 := BY7.at 0 rfl
  have by_1 := BY7.at 1 rfl
  have by_2 := BY7.at 2 rfl
  go_wp2_with fail
  clear bx_0 bx_1 bx_2 by_0 by_1 by_2
  refine (dof_ok w4 uR uK uV vR vK vV pR pK pV qR qK qV R K0 V0 K1 V1 HV0.out HV1.out ⟨HN0.out.2, HN1.out.2⟩ XR7 XK7 XV7 YR7 YK7 YV7).mono ?_
  have HD0 : Hid (deltaE (goneL K0 K1) (hereL K0 K1) (goneL V0 V1) (hereL V0 V1) = 0) := (Orangery.made_of HV0.out HV1.out).2.1
  have HAP : Hid (∀ (W : World) (dG dH dX dY : Option Addr) (eG eH eX eY : Nat), ((dH = none → eH = 0) ∧ (dY = none → eY = 0)) → SlI W uR R → SlP W uK K0 → SlP W uV V0 → SlI W dG (goneL K0 K1) → SlP W dH (hereL K0 K1) → SlI W dX (goneL V0 V1) → SlP W dY (hereL V0 V1) → Calls Try.prog 7 #[viV (.slice uR R.length pR) (.slice uK K0.length pK) (.slice uV V0.length pV), deV (.slice dG (goneL K0 K1).length eG) (.slice dH (hereL K0 K1).length eH) (.slice dX (goneL V0 V1).length eX) (.slice dY (hereL V0 V1).length eY)] W (Views W uR R K1 V1 0)) := fun W dG dH dX dY eG eH eX eY hn i1 i2 i3 i4 i5 i6 i7 => apply_ok W uR uK uV dG dH dX dY pR pK pV eG eH eX eY R K0 V0 K1 V1 HV0.out HV1.out ⟨HN0.out.2, hn.1, hn.2⟩ i1 i2 i3 i4 i5 i6 i7
  generalize goneL K0 K1 = G1 at *
  generalize hereL K0 K1 = H1 at *
  generalize goneL V0 V1 = X1 at *
  generalize hereL V0 V1 = Y1 at *
  rintro e w5 ⟨dG, dH, dX, dY, eG, eH, eX, eY, rfl, nn, -, q1, q2, q3, q4, hb⟩
  have HND : Hid ((dH = none → eH = 0) ∧ (dY = none → eY = 0)) := nn
  clear nn
  have XR8 := XR7.below hb
  have XK8 := XK7.below hb
  have XV8 := XV7.below hb
  have BX8 := BX7.keep hb
  have YR8 := YR7.below hb
  have YK8 := YK7.below hb
  have YV8 := YV7.below hb
  have BY8 := BY7.keep hb
  have ZR8 := ZR7.below hb
  have ZK8 := ZK7.below hb
  have ZV8 := ZV7.below hb
  have BZ8 := BZ7.keep hb
  have HB8 : Hid (Below w.heap.size w w5) := HB7.out.trans (hb.mono HB7.out.size)
  clear XR7 XK7 XV7 BX7 YR7 YK7 YV7 BY7 ZR7 ZK7 ZV7 BZ7 HB7
  clear hb
  have DG8 := q1
  have DH8 := q2
  have DX8 := q3
  have DY8 := q4
  clear q1 q2 q3 q4
  have HNE1 : Hid (w3.heap.size < w5.heap.size ∧ w.heap.size ≤ w5.heap.size) := ⟨BZ8.lt, HB8.out.size⟩
  have HOZ : Hid (SlI w5 zR R ∧ SlP w5 zK K2 ∧ SlP w5 zV V2 ∧ SlI w5 uR R) := ⟨ZR8, ZK8, ZV8, XR8⟩
  obtain ⟨W5, hW5, B_, hb, hsz_⟩ := laid1 w5 [Value.slice dG G1.length eG, Value.slice dH H1.length eH, Value.slice dX X1.length eX, Value.slice dY Y1.length eY] 33
  have HSZ5 : Hid (W5.heap.size = w5.heap.size + 1) := hsz_
  clear hsz_
  have XR9 := XR8.below hb
  have XK9 := XK8.below hb
  have XV9 := XV8.below hb
  have BX9 := BX8.keep hb
  have YR9 := YR8.below hb
  have YK9 := YK8.below hb
  have YV9 := YV8.below hb
  have BY9 := BY8.keep hb
  have ZR9 := ZR8.below hb
  have ZK9 := ZK8.below hb
  have ZV9 := ZV8.below hb
  have BZ9 := BZ8.keep hb
  have DG9 := DG8.below hb
  have DH9 := DH8.below hb
  have DX9 := DX8.below hb
  have DY9 := DY8.below hb
  have HB9 : Hid (Below w.heap.size w W5) := HB8.out.trans (hb.mono HB8.out.size)
  clear XR8 XK8 XV8 BX8 YR8 YK8 YV8 BY8 ZR8 ZK8 ZV8 BZ8 DG8 DH8 DX8 DY8 HB8
  clear hb
  have BD9 := B_
  clear B_
  have bx_0 := BX9.at 0 rfl
  have bx_1 := BX9.at 1 rfl
  have bx_2 := BX9.at 2 rfl
  have bd_0 := BD9.at 0 rfl
  have bd_1 := BD9.at 1 rfl
  have bd_2 := BD9.at 2 rfl
  have bd_3 := BD9.at 3 rfl
  go_wp2_with fail
  clear hW5 bx_0 bx_1 bx_2 bd_0 bd_1 bd_2 bd_3
  refine (HAP.out W5 dG dH dX dY eG eH eX eY HND.out XR9 XK9 XV9 DG9 DH9 DX9 DY9).mono ?_
  rintro e w6 ⟨xR, xK, xV, tR, tK, tV, rfl, nn, ff, q1, q2, q3, hb⟩
  have HNX : Hid ((xK = none → tK = 0) ∧ (xV = none → tV = 0)) := nn
  clear nn
  have HFX : Hid (Fresh W5.heap.size xK ∧ Fresh W5.heap.size xV ∧ (xR = uR ∨ Fresh W5.heap.size xR)) := ff
  clear ff HAP
  have XR10 := XR9.below hb
  have XK10 := XK9.below hb
  have XV10 := XV9.below hb
  have BX10 := BX9.keep hb
  have YR10 := YR9.below hb
  have YK10 := YK9.below hb
  have YV10 := YV9.below hb
  have BY10 := BY9.keep hb
  have ZR10 := ZR9.below hb
  have ZK10 := ZK9.below hb
  have ZV10 := ZV9.below hb
  have BZ10 := BZ9.keep hb
  have DG10 := DG9.below hb
  have DH10 := DH9.below hb
  have DX10 := DX9.below hb
  have DY10 := DY9.below hb
  have BD10 := BD9.keep hb
  have HB10 : Hid (Below w.heap.size w w6) := HB9.out.trans (hb.mono HB9.out.size)
  clear XR9 XK9 XV9 BX9 YR9 YK9 YV9 BY9 ZR9 ZK9 ZV9 BZ9 DG9 DH9 DX9 DY9 BD9 HB9
  clear hb
  clear XR10 XK10 XV10 BX10
  have HNE2 : Hid (w5.heap.size < w6.heap.size) := BD10.lt
  have QR10 := q1
  have QK10 := q2
  have QV10 := q3
  clear q1 q2 q3
  obtain ⟨W6, hW6, B_, hb, -⟩ := laid1 w6 [Value.slice xR R.length tR, Value.slice xK K1.length tK, Value.slice xV V1.length tV] 27
  have YR11 := YR10.below hb
  have YK11 := YK10.below hb
  have YV11 := YV10.below hb
  have BY11 := BY10.keep hb
  have ZR11 := ZR10.below hb
  have ZK11 := ZK10.below hb
  have ZV11 := ZV10.below hb
  have BZ11 := BZ10.keep hb
  have DG11 := DG10.below hb
  have DH11 := DH10.below hb
  have DX11 := DX10.below hb
  have DY11 := DY10.below hb
  have BD11 := BD10.keep hb
  have QR11 := QR10.below hb
  have QK11 := QK10.below hb
  have QV11 := QV10.below hb
  have HB11 : Hid (Below w.heap.size w W6) := HB10.out.trans (hb.mono HB10.out.size)
  clear YR10 YK10 YV10 BY10 ZR10 ZK10 ZV10 BZ10 DG10 DH10 DX10 DY10 BD10 QR10 QK10 QV10 HB10
  clear hb
  have BP11 := B_
  clear B_
  have bd_0 := BD11.at 0 rfl
  have bd_1 := BD11.at 1 rfl
  have bd_2 := BD11.at 2 rfl
  have bd_3 := BD11.at 3 rfl
  go_wp2_with fail
  clear hW6 bd_0 bd_1 bd_2 bd_3
  refine (dcheck_any W6 dG dH dX dY eG eH eX eY G1 H1 X1 Y1 (small_delta HD0.out) DG11 DH11 DX11 DY11).mono ?_
  rintro e w7 ⟨rfl, hb⟩
  rw [HD0.out]
  have YR12 := YR11.below hb
  have YK12 := YK11.below hb
  have YV12 := YV11.below hb
  have BY12 := BY11.keep hb
  have ZR12 := ZR11.below hb
  have ZK12 := ZK11.below hb
  have ZV12 := ZV11.below hb
  have BZ12 := BZ11.keep hb
  have DG12 := DG11.below hb
  have DH12 := DH11.below hb
  have DX12 := DX11.below hb
  have DY12 := DY11.below hb
  have BD12 := BD11.keep hb
  have QR12 := QR11.below hb
  have QK12 := QK11.below hb
  have QV12 := QV11.below hb
  have BP12 := BP11.keep hb
  have HB12 : Hid (Below w.heap.size w w7) := HB11.out.trans (hb.mono HB11.out.size)
  clear YR11 YK11 YV11 BY11 ZR11 ZK11 ZV11 BZ11 DG11 DH11 DX11 DY11 BD11 QR11 QK11 QV11 BP11 HB11
  clear hb
  clear DG12 DH12 DX12 DY12
  have bp_0 := BP12.at 0 rfl
  have bp_1 := BP12.at 1 rfl
  have bp_2 := BP12.at 2 rfl
  have by_0 := BY12.at 0 rfl
  have by_1 := BY12.at 1 rfl
  have by_2 := BY12.at 2 rfl
  go_wp2_with fail
  clear bp_0 bp_1 bp_2 by_0 by_1 by_2
  refine (vsame_any w7 xR xK xV vR vK vV tR tK tV qR qK qV R R K1 K1 V1 V1 (small_view HV1.out).1 (small_view HV1.out).2.1 (small_view HV1.out).2.2 QR12 QK12 QV12 YR12 YK12 YV12).mono ?_
  rintro e w8 ⟨rfl, hb⟩
  rw [sameV_one]
  have YR13 := YR12.below hb
  have YK13 := YK12.below hb
  have YV13 := YV12.below hb
  have BY13 := BY12.keep hb
  have ZR13 := ZR12.below hb
  have ZK13 := ZK12.below hb
  have ZV13 := ZV12.below hb
  have BZ13 := BZ12.keep hb
  have BD13 := BD12.keep hb
  have QR13 := QR12.below hb
  have QK13 := QK12.below hb
  have QV13 := QV12.below hb
  have BP13 := BP12.keep hb
  have HB13 : Hid (Below w.heap.size w w8) := HB12.out.trans (hb.mono HB12.out.size)
  clear YR12 YK12 YV12 BY12 ZR12 ZK12 ZV12 BZ12 BD12 QR12 QK12 QV12 BP12 HB12
  clear hb
  clear YR13 YK13 YV13 BY13
  have bp_0 := BP13.at 0 rfl
  have bp_1 := BP13.at 1 rfl
  have bp_2 := BP13.at 2 rfl
  have bz_0 := BZ13.at 0 rfl
  have bz_1 := BZ13.at 1 rfl
  have bz_2 := BZ13.at 2 rfl
  go_wp2_with fail
  clear bp_0 bp_1 bp_2 bz_0 bz_1 bz_2
  refine (dof_ok w8 xR xK xV zR zK zV tR tK tV rR rK rV R K1 V1 K2 V2 HV1.out HV2.out ⟨HNX.out.2, HN2.out.2⟩ QR13 QK13 QV13 ZR13 ZK13 ZV13).mono ?_
  have HAP : Hid (∀ (W : World) (dG dH dX dY : Option Addr) (eG eH eX eY : Nat), ((dH = none → eH = 0) ∧ (dY = none → eY = 0)) → SlI W xR R → SlP W xK K1 → SlP W xV V1 → SlI W dG (goneL K1 K2) → SlP W dH (hereL K1 K2) → SlI W dX (goneL V1 V2) → SlP W dY (hereL V1 V2) → Calls Try.prog 7 #[viV (.slice xR R.length tR) (.slice xK K1.length tK) (.slice xV V1.length tV), deV (.slice dG (goneL K1 K2).length eG) (.slice dH (hereL K1 K2).length eH) (.slice dX (goneL V1 V2).length eX) (.slice dY (hereL V1 V2).length eY)] W (Views W xR R K2 V2 0)) := fun W dG dH dX dY eG eH eX eY hn i1 i2 i3 i4 i5 i6 i7 => apply_ok W xR xK xV dG dH dX dY tR tK tV eG eH eX eY R K1 V1 K2 V2 HV1.out HV2.out ⟨HNX.out.2, hn.1, hn.2⟩ i1 i2 i3 i4 i5 i6 i7
  generalize goneL K1 K2 = G2 at *
  generalize hereL K1 K2 = H2 at *
  generalize goneL V1 V2 = X2 at *
  generalize hereL V1 V2 = Y2 at *
  rintro e w9 ⟨jG, jH, jX, jY, kG, kH, kX, kY, rfl, nn, ff, q1, q2, q3, q4, hb⟩
  have HNJ : Hid ((jH = none → kH = 0) ∧ (jY = none → kY = 0)) := nn
  clear nn
  have hlt8 : w5.heap.size < w8.heap.size := BD13.lt
  have HFJ : Hid (Fresh w8.heap.size jG ∧ Fresh w8.heap.size jH ∧ Fresh w8.heap.size jX ∧ Fresh w8.heap.size jY) := ff
  clear ff
  have ZR14 := ZR13.below hb
  have ZK14 := ZK13.below hb
  have ZV14 := ZV13.below hb
  have BZ14 := BZ13.keep hb
  have BD14 := BD13.keep hb
  have QR14 := QR13.below hb
  have QK14 := QK13.below hb
  have QV14 := QV13.below hb
  have BP14 := BP13.keep hb
  have HB14 : Hid (Below w.heap.size w w9) := HB13.out.trans (hb.mono HB13.out.size)
  clear ZR13 ZK13 ZV13 BZ13 BD13 QR13 QK13 QV13 BP13 HB13
  clear hb
  have HB' : Hid (Below w.heap.size w (w9.setCells w5.heap.size 0 [Value.slice jG G2.length kG, Value.slice jH H2.length kH, Value.slice jX X2.length kX, Value.slice jY Y2.length kY])) := below_sets HB14.out w5.heap.size HNE1.out.2 [Value.slice jG G2.length kG, Value.slice jH H2.length kH, Value.slice jX X2.length kX, Value.slice jY Y2.length kY] 0
  have hlo5 : w5.heap.size < W5.heap.size := by have := HSZ5.out; omega
  have f1 : Hid (SlI (w9.setCells w5.heap.size 0 [Value.slice jG G2.length kG, Value.slice jH H2.length kH, Value.slice jX X2.length kX, Value.slice jY Y2.length kY]) xR R ∧ SlP (w9.setCells w5.heap.size 0 [Value.slice jG G2.length kG, Value.slice jH H2.length kH, Value.slice jX X2.length kX, Value.slice jY Y2.length kY]) xK K1 ∧ SlP (w9.setCells w5.heap.size 0 [Value.slice jG G2.length kG, Value.slice jH H2.length kH, Value.slice jX X2.length kX, Value.slice jY Y2.length kY]) xV V1) := ⟨HFX.out.2.2.elim (fun e => by rw [e]; exact SlI.elder HOZ.out.2.2.2 (by rw [← e]; exact QR14) (Nat.le_refl _) _ 0) (fun e => SlI.fresh QR14 e hlo5 _ 0), SlP.apart QK14 HFX.out.1 hlo5 _ 0, SlP.apart QV14 HFX.out.2.1 hlo5 _ 0⟩
  have f2 : Hid (SlI (w9.setCells w5.heap.size 0 [Value.slice jG G2.length kG, Value.slice jH H2.length kH, Value.slice jX X2.length kX, Value.slice jY Y2.length kY]) zR R ∧ SlP (w9.setCells w5.heap.size 0 [Value.slice jG G2.length kG, Value.slice jH H2.length kH, Value.slice jX X2.length kX, Value.slice jY Y2.length kY]) zK K2 ∧ SlP (w9.setCells w5.heap.size 0 [Value.slice jG G2.length kG, Value.slice jH H2.length kH, Value.slice jX X2.length kX, Value.slice jY Y2.length kY]) zV V2) := ⟨SlI.elder HOZ.out.1 ZR14 (Nat.le_refl _) _ 0, SlP.elder HOZ.out.2.1 ZK14 (Nat.le_refl _) _ 0, SlP.elder HOZ.out.2.2.1 ZV14 (Nat.le_refl _) _ 0⟩
  have f3 : Hid (SlI (w9.setCells w5.heap.size 0 [Value.slice jG G2.length kG, Value.slice jH H2.length kH, Value.slice jX X2.length kX, Value.slice jY Y2.length kY]) jG G2 ∧ SlP (w9.setCells w5.heap.size 0 [Value.slice jG G2.length kG, Value.slice jH H2.length kH, Value.slice jX X2.length kX, Value.slice jY Y2.length kY]) jH H2 ∧ SlI (w9.setCells w5.heap.size 0 [Value.slice jG G2.length kG, Value.slice jH H2.length kH, Value.slice jX X2.length kX, Value.slice jY Y2.length kY]) jX X2 ∧ SlP (w9.setCells w5.heap.size 0 [Value.slice jG G2.length kG, Value.slice jH H2.length kH, Value.slice jX X2.length kX, Value.slice jY Y2.length kY]) jY Y2) := ⟨SlI.fresh q1 HFJ.out.1 hlt8 _ 0, SlP.apart q2 HFJ.out.2.1 hlt8 _ 0, SlI.fresh q3 HFJ.out.2.2.1 hlt8 _ 0, SlP.apart q4 HFJ.out.2.2.2 hlt8 _ 0⟩
  have f4 : Hid (Blk (w9.setCells w5.heap.size 0 [Value.slice jG G2.length kG, Value.slice jH H2.length kH, Value.slice jX X2.length kX, Value.slice jY Y2.length kY]) w5.heap.size [Value.slice jG G2.length kG, Value.slice jH H2.length kH, Value.slice jX X2.length kX, Value.slice jY Y2.length kY] ∧ Blk (w9.setCells w5.heap.size 0 [Value.slice jG G2.length kG, Value.slice jH H2.length kH, Value.slice jX X2.length kX, Value.slice jY Y2.length kY]) w6.heap.size [Value.slice xR R.length tR, Value.slice xK K1.length tK, Value.slice xV V1.length tV] ∧ Blk (w9.setCells w5.heap.size 0 [Value.slice jG G2.length kG, Value.slice jH H2.length kH, Value.slice jX X2.length kX, Value.slice jY Y2.length kY]) w3.heap.size [Value.slice zR R.length rR, Value.slice zK K2.length rK, Value.slice zV V2.length rV]) := ⟨BD14.sets _ rfl, BP14.others (by have := HNE2.out; omega) _ 0, BZ14.others (by have := HNE1.out.1; omega) _ 0⟩
  have bd_0 := BD14.at 0 rfl
  have bd_1 := BD14.at 1 rfl
  have bd_2 := BD14.at 2 rfl
  have bd_3 := BD14.at 3 rfl
  have bdf := BD14.frz
  clear q1 q2 q3 q4 ZR14 ZK14 ZV14 BZ14 BD14 QR14 QK14 QV14 BP14
  go_upto_region 11 with fail
  clear bd_0 bd_1 bd_2 bd_3 bdf
  obtain ⟨Wn, hWn⟩ : ∃ Wn, ((((w9.setCell ⟨w5.heap.size, 0, none⟩ (Value.slice jG G2.length kG)).setCell ⟨w5.heap.size, 1, none⟩ (Value.slice jH H2.length kH)).setCell ⟨w5.heap.size, 2, none⟩ (Value.slice jX X2.length kX)).setCell ⟨w5.heap.size, 3, none⟩ (Value.slice jY Y2.length kY)) = Wn := ⟨_, rfl⟩
  rw [hWn]
  have hWn' : w9.setCells w5.heap.size 0 [Value.slice jG G2.length kG, Value.slice jH H2.length kH, Value.slice jX X2.length kX, Value.slice jY Y2.length kY] = Wn := hWn
  rw [hWn'] at f1 f2 f3 f4 HB'
  clear hWn hWn'
  have HB15 : Hid (Below w.heap.size w Wn) := HB'
  clear HB' HB14
  have QR15 := f1.out.1
  have QK15 := f1.out.2.1
  have QV15 := f1.out.2.2
  have ZR15 := f2.out.1
  have ZK15 := f2.out.2.1
  have ZV15 := f2.out.2.2
  have JG15 := f3.out.1
  have JH15 := f3.out.2.1
  have JX15 := f3.out.2.2.1
  have JY15 := f3.out.2.2.2
  have BD15 := f4.out.1
  have BP15 := f4.out.2.1
  have BZ15 := f4.out.2.2
  clear f1 f2 f3 f4
  have bp_0 := BP15.at 0 rfl
  have bp_1 := BP15.at 1 rfl
  have bp_2 := BP15.at 2 rfl
  have bd_0 := BD15.at 0 rfl
  have bd_1 := BD15.at 1 rfl
  have bd_2 := BD15.at 2 rfl
  have bd_3 := BD15.at 3 rfl
  go_wp2_with fail
  clear bp_0 bp_1 bp_2 bd_0 bd_1 bd_2 bd_3
  refine (HAP.out Wn jG jH jX jY kG kH kX kY HNJ.out QR15 QK15 QV15 JG15 JH15 JX15 JY15).mono ?_
  rintro e w10 ⟨yR, yK, yV, sR, sK, sV, rfl, -, -, q1, q2, q3, hb⟩
  have QR16 := QR15.below hb
  have QK16 := QK15.below hb
  have QV16 := QV15.below hb
  have ZR16 := ZR15.below hb
  have ZK16 := ZK15.below hb
  have ZV16 := ZV15.below hb
  have JG16 := JG15.below hb
  have JH16 := JH15.below hb
  have JX16 := JX15.below hb
  have JY16 := JY15.below hb
  have BD16 := BD15.keep hb
  have BP16 := BP15.keep hb
  have BZ16 := BZ15.keep hb
  have HB16 : Hid (Below w.heap.size w w10) := HB15.out.trans (hb.mono HB15.out.size)
  clear QR15 QK15 QV15 ZR15 ZK15 ZV15 JG15 JH15 JX15 JY15 BD15 BP15 BZ15 HB15
  clear hb
  clear QR16 QK16 QV16 JG16 JH16 JX16 JY16 BD16 BP16
  have YR16 := q1
  have YK16 := q2
  have YV16 := q3
  clear q1 q2 q3
  obtain ⟨WB, hWB, B_, hb, -⟩ := laid1 w10 [Value.slice yR R.length sR, Value.slice yK K2.length sK, Value.slice yV V2.length sV] 27
  have ZR17 := ZR16.below hb
  have ZK17 := ZK16.below hb
  have ZV17 := ZV16.below hb
  have BZ17 := BZ16.keep hb
  have YR17 := YR16.below hb
  have YK17 := YK16.below hb
  have YV17 := YV16.below hb
  have HB17 : Hid (Below w.heap.size w WB) := HB16.out.trans (hb.mono HB16.out.size)
  clear ZR16 ZK16 ZV16 BZ16 YR16 YK16 YV16 HB16
  clear hb
  have BY17 := B_
  clear B_
  have bz_0 := BZ17.at 0 rfl
  have bz_1 := BZ17.at 1 rfl
  have bz_2 := BZ17.at 2 rfl
  go_wp2_with fail
  clear hWB bz_0 bz_1 bz_2
  refine (dof_none WB zR zK zV rR rK rV R K2 V2 HV2.out HN2.out.2 ZR17 ZK17 ZV17).mono ?_
  rintro e w11 ⟨nG, nH, nX, nY, oG, oH, oX, oY, rfl, hb⟩
  have ZR18 := ZR17.below hb
  have ZK18 := ZK17.below hb
  have ZV18 := ZV17.below hb
  have BZ18 := BZ17.keep hb
  have YR18 := YR17.below hb
  have YK18 := YK17.below hb
  have YV18 := YV17.below hb
  have BY18 := BY17.keep hb
  have HB18 : Hid (Below w.heap.size w w11) := HB17.out.trans (hb.mono HB17.out.size)
  clear ZR17 ZK17 ZV17 BZ17 YR17 YK17 YV17 BY17 HB17
  clear hb
  obtain ⟨WC, hWC, B_, hb, -⟩ := laid1 w11 [Value.slice nG 0 oG, Value.slice nH 0 oH, Value.slice nX 0 oX, Value.slice nY 0 oY] 33
  have ZR19 := ZR18.below hb
  have ZK19 := ZK18.below hb
  have ZV19 := ZV18.below hb
  have BZ19 := BZ18.keep hb
  have YR19 := YR18.below hb
  have YK19 := YK18.below hb
  have YV19 := YV18.below hb
  have BY19 := BY18.keep hb
  have HB19 : Hid (Below w.heap.size w WC) := HB18.out.trans (hb.mono HB18.out.size)
  clear ZR18 ZK18 ZV18 BZ18 YR18 YK18 YV18 BY18 HB18
  clear hb
  have BN19 := B_
  clear B_
  have by_0 := BY19.at 0 rfl
  have by_1 := BY19.at 1 rfl
  have by_2 := BY19.at 2 rfl
  have bz_0 := BZ19.at 0 rfl
  have bz_1 := BZ19.at 1 rfl
  have bz_2 := BZ19.at 2 rfl
  have bn_0 := BN19.at 0 rfl
  have bn_1 := BN19.at 1 rfl
  have bn_2 := BN19.at 2 rfl
  have bn_3 := BN19.at 3 rfl
  go_wp2_with fail
  clear hWC by_0 by_1 by_2 bz_0 bz_1 bz_2 bn_0 bn_1 bn_2 bn_3
  refine (vsame_any WC yR yK yV zR zK zV sR sK sV rR rK rV R R K2 K2 V2 V2 (small_view HV2.out).1 (small_view HV2.out).2.1 (small_view HV2.out).2.2 YR19 YK19 YV19 ZR19 ZK19 ZV19).mono ?_
  rintro e w12 ⟨rfl, hb⟩
  rw [sameV_one]
  have ZR20 := ZR19.below hb
  have ZK20 := ZK19.below hb
  have ZV20 := ZV19.below hb
  have BZ20 := BZ19.keep hb
  have YR20 := YR19.below hb
  have YK20 := YK19.below hb
  have YV20 := YV19.below hb
  have BY20 := BY19.keep hb
  have BN20 := BN19.keep hb
  have HB20 : Hid (Below w.heap.size w w12) := HB19.out.trans (hb.mono HB19.out.size)
  clear ZR19 ZK19 ZV19 BZ19 YR19 YK19 YV19 BY19 BN19 HB19
  clear hb
  have bn_0 := BN20.at 0 rfl
  have bn_1 := BN20.at 1 rfl
  have bn_2 := BN20.at 2 rfl
  have bn_3 := BN20.at 3 rfl
  clear ZR20 ZK20 ZV20 BZ20 YR20 YK20 YV20 BY20 BN20
  go_wp2
  go_ret
  exact ⟨rfl, HB20.out⟩
end Go.Proofs.Ytkjgoikcibgonac

/- A tree that came in as an argument: which places it holds. -/
namespace Go.Proofs.Ytkjgoikcibgonac
open Go.ChangeShapes Go.WideShapes Go.ChangeAt Go.RowKit
open Orangery (Pl)

theorem cells3_of {w : World} {base : Nat} {a : Addr} {cs : List Value} (h : w.cells? base a 3 = some cs) :
    ∃ x y z, cs = [x, y, z] ∧ w.cell? (a.add 0) = some x ∧ w.cell? (a.add 1) = some y ∧ w.cell? (a.add 2) = some z := by
  unfold World.cells? at h
  split at h
  · simp only [show List.range 3 = [0, 1, 2] from rfl, List.mapM_cons, List.mapM_nil] at h
    cases h0 : w.cell? (a.add 0) with
    | none => simp [h0] at h
    | some x =>
      cases h1 : w.cell? (a.add 1) with
      | none => simp [h0, h1] at h
      | some y =>
        cases h2 : w.cell? (a.add 2) with
        | none => simp [h0, h1, h2] at h
        | some z =>
          simp [h0, h1, h2] at h
          exact ⟨x, y, z, h.symm, rfl, rfl, rfl⟩
  · simp at h

theorem add_at (b off i : Nat) : (⟨b, off, none⟩ : Addr).add i = ⟨b, off + i, none⟩ := by
  unfold Addr.add
  by_cases hz : i = 0 <;> simp [hz]

/-- a slice of places that is read -/
theorem open_places {H : Type} {enc : TypeId × Value → H} {w : World} {base fuel : Nat} {spare : Nat → Bool} {held : Bool} {v : Value} {x : DataW H × List MemPlace}
    (h : DataW.trod enc Try.prog w base spare held fuel 22 [v] = some x) : ∃ a c, ∃ l : List Pl, v = .slice a l.length c ∧ l.length ≤ maxLen ∧ SlP w a l := by
  rcases Go.Deep.open_slice Try.underlying22 h with ⟨hcs, _⟩ | ⟨a, len, cap, m, n, D, Pq, hcs, _, hle, hm, hmm, _, hel⟩
  · simp at hcs
    subst hcs
    exact ⟨none, 0, [], rfl, by simp, Or.inl rfl⟩
  · simp at hcs
    subst hcs
    have hlm : len ≤ m := by rw [hmm]; split <;> omega
    have hC : Try.prog.cellsOf 53 = 3 := by kernel_rfl
    have hI : Try.prog.cellsOf 3 = 1 := by kernel_rfl
    have key : ∀ i, i < len → ∃ q : Pl, w.cell? ((a.add (i * 3)).add 0) = some (.int .i64 q.1) ∧ w.cell? ((a.add (i * 3)).add 1) = some (.int .i64 q.2.1) ∧ w.cell? ((a.add (i * 3)).add 2) = some (.int .i64 q.2.2) := by
      intro i hi
      obtain ⟨cs', h1, h2⟩ := hel i (by omega)
      rw [hC] at h1
      obtain ⟨x, y, z, rfl, c0, c1, c2⟩ := cells3_of h1
      obtain ⟨y0, y1, y2, n', _, _, t0, t1, t2⟩ := Go.Deep.trod_struct3 Try.underlying53 h2
      simp [hI] at t0 t1 t2
      obtain ⟨q0, e0, _, _⟩ := DataW.trod_int Try.underlying3 t0
      obtain ⟨q1, e1, _, _⟩ := DataW.trod_int Try.underlying3 t1
      obtain ⟨q2, e2, _, _⟩ := DataW.trod_int Try.underlying3 t2
      simp at e0 e1 e2
      subst e0 e1 e2
      exact ⟨(q0, q1, q2), c0, c1, c2⟩
    obtain ⟨f, hf⟩ := Go.Deep.choose_lt key
    refine ⟨some a, cap, (List.range len).map f, by simp, by simp; omega, ?_⟩
    by_cases hz : len = 0
    · exact Or.inl (by simp [hz])
    · right
      have h0 := (hf 0 (by omega)).1
      obtain ⟨b, off, spot⟩ := a
      have hspot : spot = none := by simpa [Addr.add] using World.cell?_spot h0
      subst hspot
      have hb : b < w.heap.size := by
        have := World.block_lt_of_cell? w _ h0
        rw [add_at, add_at] at this
        exact this
      refine ⟨b, off, rfl, hb, fun i hi => ?_⟩
      have hi' : i < len := by simpa using hi
      have := hf i hi'
      rw [add_at, add_at, add_at, add_at] at this
      simpa using this

set_option maxRecDepth 100000 in
/-- a tree that came in -/
theorem open_tree {H : Type} {enc : TypeId × Value → H} {w : World} {r : Reach} {b0 base : Nat} {spare : Nat → Bool} {held : Bool} {v : Value} {d : DataW H} {p : List MemPlace}
    (hv : Value.okWide Try.prog w r b0 24 v) (h : DataW.Trod enc Try.prog w base spare held 24 v d p) : ∃ a c, ∃ l : List Pl, v = .agg #[.slice a l.length c] ∧ l.length ≤ maxLen ∧ SlP w a l := by
  obtain ⟨cs, rfl, hsz⟩ := okWide_struct Try.underlying24 hv
  have hC : Try.prog.cellsOf 24 = 1 := by kernel_rfl
  have hD : Try.prog.cellsOf 22 = 1 := by kernel_rfl
  rw [hC] at hsz
  obtain ⟨c0, rfl⟩ : ∃ c0, cs = #[c0] := by
    have h1 : cs.toList.length = 1 := by simpa using hsz
    obtain ⟨x, hx⟩ := List.length_eq_one_iff.1 h1
    exact ⟨x, by cases cs; simp_all⟩
  obtain ⟨fuel, hf⟩ := h
  obtain ⟨y0, n, _, _, h0⟩ := trod_struct1 Try.underlying24 hf
  simp [Value.cells, hD] at h0
  obtain ⟨a, c, l, rfl, h1, h2⟩ := open_places h0
  exact ⟨a, c, l, rfl, h1, h2⟩
end Go.Proofs.Ytkjgoikcibgonac

/- Operations and steps that came in as arguments. -/
namespace Go.Proofs.Ytkjgoikcibgonac
open Go.ChangeShapes Go.WideShapes Go.ChangeAt Go.RowKit
open Orangery (Pl Mv Stp)

theorem list7 {cs : List Value} (h : cs.length = 7) : ∃ a b c d e f g, cs = [a, b, c, d, e, f, g] := by
  match cs, h with
  | [a, b, c, d, e, f, g], _ => exact ⟨a, b, c, d, e, f, g, rfl⟩
theorem list11 {cs : List Value} (h : cs.length = 11) : ∃ a b c d e f g i j k l, cs = [a, b, c, d, e, f, g, i, j, k, l] := by
  match cs, h with
  | [a, b, c, d, e, f, g, i, j, k, l], _ => exact ⟨a, b, c, d, e, f, g, i, j, k, l, rfl⟩

set_option maxRecDepth 100000 in
theorem open_opC {H : Type} {enc : TypeId × Value → H} {w : World} {base fuel : Nat} {spare : Nat → Bool} {held : Bool} {cs : List Value} {x : DataW H × List MemPlace}
    (h : DataW.trod enc Try.prog w base spare held fuel 51 cs = some x) : ∃ o : Mv, cs = opC o := by
  obtain ⟨xs, n, _, _, hl, hlen, hf⟩ := DataW.trod_struct Try.underlying51 h
  have hC : Try.prog.cellsOf 51 = 7 := by kernel_rfl
  have hI : Try.prog.cellsOf 3 = 1 := by kernel_rfl
  have hT : Try.prog.cellsOf 49 = 2 := by kernel_rfl
  rw [hC] at hl
  obtain ⟨c0, c1, c2, c3, c4, c5, c6, rfl⟩ := list7 hl
  have hx : xs.length = 6 := hlen
  have g0 := hf 0 _ rfl
  have g1 := hf 1 _ rfl
  have g2 := hf 2 _ rfl
  have g3 := hf 3 _ rfl
  have g4 := hf 4 _ rfl
  have g5 := hf 5 _ rfl
  simp [hI, hT] at g0 g1 g2 g3 g4 g5
  rw [List.getElem?_eq_getElem (by omega)] at g0 g1 g2 g3 g4 g5
  obtain ⟨o3, e3, _, _⟩ := DataW.trod_int Try.underlying3 g1
  obtain ⟨o4, e4, _, _⟩ := DataW.trod_int Try.underlying3 g2
  obtain ⟨o5, e5, _, _⟩ := DataW.trod_int Try.underlying3 g3
  obtain ⟨o6, e6, _, _⟩ := DataW.trod_int Try.underlying3 g4
  obtain ⟨o7, e7, _, _⟩ := DataW.trod_int Try.underlying3 g5
  obtain ⟨y0, y1, n', _, _, t0, t1⟩ := trod_struct2 Try.underlying49 g0
  simp [hI] at t0 t1
  obtain ⟨o1, e1, _, _⟩ := DataW.trod_int Try.underlying3 t0
  obtain ⟨o2, e2, _, _⟩ := DataW.trod_int Try.underlying3 t1
  simp at e1 e2 e3 e4 e5 e6 e7
  subst e1 e2 e3 e4 e5 e6 e7
  exact ⟨(o1, o2, (o3, o4, o5), o6, o7), rfl⟩

set_option maxRecDepth 100000 in
/-- an operation that came in -/
theorem open_op {H : Type} {enc : TypeId × Value → H} {w : World} {r : Reach} {b0 base : Nat} {spare : Nat → Bool} {held : Bool} {v : Value} {d : DataW H} {p : List MemPlace}
    (hv : Value.okWide Try.prog w r b0 51 v) (h : DataW.Trod enc Try.prog w base spare held 51 v d p) : ∃ o : Mv, v = opV o := by
  obtain ⟨cs, rfl, hsz⟩ := okWide_struct Try.underlying51 hv
  obtain ⟨fuel, hf⟩ := h
  obtain ⟨o, ho⟩ := open_opC hf
  refine ⟨o, ?_⟩
  have : cs = (opC o).toArray := by rw [← ho]; simp [Value.cells]
  rw [this]
  rfl

set_option maxRecDepth 100000 in
theorem open_stC {H : Type} {enc : TypeId × Value → H} {w : World} {base fuel : Nat} {spare : Nat → Bool} {held : Bool} {cs : List Value} {x : DataW H × List MemPlace}
    (h : DataW.trod enc Try.prog w base spare held fuel 55 cs = some x) : ∃ s : Stp, cs = stC s := by
  obtain ⟨y0, y1, y2, n, _, hl, t0, t1, t2⟩ := Go.Deep.trod_struct3 Try.underlying55 h
  have hC : Try.prog.cellsOf 55 = 11 := by kernel_rfl
  have hO : Try.prog.cellsOf 51 = 7 := by kernel_rfl
  have hB : Try.prog.cellsOf 4 = 1 := by kernel_rfl
  have hP : Try.prog.cellsOf 53 = 3 := by kernel_rfl
  have hI : Try.prog.cellsOf 3 = 1 := by kernel_rfl
  rw [hC] at hl
  obtain ⟨c0, c1, c2, c3, c4, c5, c6, c7, c8, c9, c10, rfl⟩ := list11 hl
  simp [hO, hB, hP] at t0 t1 t2
  obtain ⟨o, ho⟩ := open_opC t0
  obtain ⟨b, hb, _⟩ := DataW.trod_bool Try.underlying4 t1
  obtain ⟨z0, z1, z2, n', _, _, q0, q1, q2⟩ := Go.Deep.trod_struct3 Try.underlying53 t2
  simp [hI] at q0 q1 q2
  obtain ⟨p1, e1, _, _⟩ := DataW.trod_int Try.underlying3 q0
  obtain ⟨p2, e2, _, _⟩ := DataW.trod_int Try.underlying3 q1
  obtain ⟨p3, e3, _, _⟩ := DataW.trod_int Try.underlying3 q2
  simp at e1 e2 e3 hb
  subst e1 e2 e3 hb
  simp [opC] at ho
  obtain ⟨rfl, rfl, rfl, rfl, rfl, rfl, rfl⟩ := ho
  exact ⟨(o, b, (p1, p2, p3)), rfl⟩

set_option maxRecDepth 100000 in
/-- a step that came in -/
theorem open_step {H : Type} {enc : TypeId × Value → H} {w : World} {r : Reach} {b0 base : Nat} {spare : Nat → Bool} {held : Bool} {v : Value} {d : DataW H} {p : List MemPlace}
    (hv : Value.okWide Try.prog w r b0 55 v) (h : DataW.Trod enc Try.prog w base spare held 55 v d p) : ∃ s : Stp, v = stV s := by
  obtain ⟨cs, rfl, hsz⟩ := okWide_struct Try.underlying55 hv
  obtain ⟨fuel, hf⟩ := h
  obtain ⟨o, ho⟩ := open_stC hf
  refine ⟨o, ?_⟩
  have : cs = (stC o).toArray := by rw [← ho]; simp [Value.cells]
  rw [this]
  rfl
end Go.Proofs.Ytkjgoikcibgonac

/- Slices of operations and histories that came in as arguments, and what they weigh. -/
namespace Go.Proofs.Ytkjgoikcibgonac
open Go.ChangeShapes Go.WideShapes Go.ChangeAt Go.RowKit
open Orangery (Pl Mv Stp)

/-- a slice of such elements that came in, with what it weighs -/
theorem open_slW {α : Type} [Inhabited α] {enc : α → List Value} {k : Nat} {H : Type} {en : TypeId × Value → H} {w : World} {base fuel : Nat} {spare : Nat → Bool} {held : Bool} {v : Value} {x : DataW H × List MemPlace} {t e : TypeId}
    (hk : ∀ x, (enc x).length = k) (hpos : 0 < k) (ht : Try.prog.underlying t = some (.slice e)) (hC : Try.prog.cellsOf e = k)
    (hel : ∀ (n : Nat) (cs : List Value) (y : DataW H × List MemPlace), DataW.trod en Try.prog w base spare held n e cs = some y → ∃ z : α, cs = enc z)
    (h : DataW.trod en Try.prog w base spare held fuel t [v] = some x) : ∃ a c, ∃ l : List α, v = .slice a l.length c ∧ l.length ≤ maxLen ∧ l.length ≤ c ∧ (c ≤ maxLen ∧ (a = none → c = 0)) ∧ SlE enc w a l ∧ (l = [] ∨ ∃ m, l.length ≤ m ∧ m * Try.prog.bytesOf e ∈ x.1.weights Try.prog t) := by
  rcases Go.Deep.open_slice ht h with ⟨hcs, _⟩ | ⟨a, len, cap, m, n, D, Pq, hcs, _, hle, hm, hmm, hxx, hx⟩
  · simp at hcs
    subst hcs
    exact ⟨none, 0, [], rfl, by simp, by simp, ⟨by simp, fun _ => rfl⟩, Or.inl rfl, Or.inl rfl⟩
  · simp at hcs
    subst hcs
    have hlm : len ≤ m := by rw [hmm]; split <;> omega
    have key : ∀ i, i < len → ∃ z : α, ∀ (j : Nat) (v : Value), (enc z)[j]? = some v → w.cell? ((a.add (i * k)).add j) = some v := by
      intro i hi
      obtain ⟨cs', h1, h2⟩ := hx i (by omega)
      rw [hC] at h1
      obtain ⟨z, rfl⟩ := hel _ _ _ h2
      exact ⟨z, (cells_range h1).2⟩
    obtain ⟨f, hf⟩ := Go.Deep.choose_lt key
    refine ⟨some a, cap, (List.range len).map f, by simp, by simp; omega, by simp; omega, ⟨hm, fun e => by simp at e⟩, ?_, Or.inr ⟨m, by simpa using hlm, ?_⟩⟩
    · by_cases hz : len = 0
      · exact Or.inl (by simp [hz])
      · right
        obtain ⟨u, hu⟩ : ∃ u, (enc (f 0))[0]? = some u := ⟨_, List.getElem?_eq_getElem (by rw [hk]; exact hpos)⟩
        have h0 := hf 0 (by omega) 0 u hu
        obtain ⟨b, off, spot⟩ := a
        have hspot : spot = none := by simpa [Addr.add] using World.cell?_spot h0
        subst hspot
        have hb : b < w.heap.size := by
          have := World.block_lt_of_cell? w _ h0
          rw [Addr.add_mid, Addr.add_mid] at this
          exact this
        refine ⟨b, off, rfl, hb, fun j v hv => ?_⟩
        have hj : j < len * k := by
          have := (List.getElem?_eq_some_iff.1 hv).1
          rw [flatE_len hk] at this
          simpa using this
        have hi : j / k < len := (Nat.div_lt_iff_lt_mul hpos).2 hj
        have hc : j % k < k := Nat.mod_lt _ hpos
        have e1 : j / k * k + j % k = j := by rw [Nat.mul_comm]; exact Nat.div_add_mod j k
        have e2 := flatE_get hk ((List.range len).map f) (j / k) (by simpa using hi) (j % k) hc
        rw [e1, hv] at e2
        have e3 := hf (j / k) hi (j % k) v (by simpa using e2.symm)
        rw [Addr.add_mid, Addr.add_mid] at e3
        rw [show off + j = off + j / k * k + j % k by omega]
        exact e3
    · subst hxx
      simp only [DataW.weights, ht]
      have e : ((List.range len).map D).length + ((List.range (m - len)).map fun j => D (len + j)).length = m := by simp; omega
      rw [e]
      exact List.mem_cons_self

end Go.Proofs.Ytkjgoikcibgonac

/- Ints, places with the room behind them, and views that came in as arguments. -/
namespace Go.Proofs.Ytkjgoikcibgonac
open Go.ChangeShapes Go.WideShapes Go.ChangeAt Go.RowKit
open Orangery (Pl)

def intC (x : Int) : List Value := [.int .i64 x]
theorem intC_len (x : Int) : (intC x).length = 1 := rfl

theorem sli_of {w : World} {a : Option Addr} {l : List Int} (h : SlE intC w a l) : SlI w a l := by
  rcases h with h | ⟨b, off, ha, hlt, hp⟩
  · exact Or.inl h
  · refine Or.inr ⟨b, off, ha, hlt, fun i hi => ?_⟩
    have := elemE intC_len hp i hi 0 (.int .i64 l[i]) rfl
    rw [Nat.mul_one, Nat.add_zero] at this
    exact this
theorem slp_of {w : World} {a : Option Addr} {l : List Pl} (h : SlE encPl w a l) : SlP w a l := by
  rcases h with h | ⟨b, off, ha, hlt, hp⟩
  · exact Or.inl h
  · refine Or.inr ⟨b, off, ha, hlt, fun i hi => ?_⟩
    have hr := elemE encPl_len hp i hi
    exact ⟨hr 0 _ rfl, hr 1 _ rfl, hr 2 _ rfl⟩

theorem open_intC {H : Type} {enc : TypeId × Value → H} {w : World} {base fuel : Nat} {spare : Nat → Bool} {held : Bool} {cs : List Value} {x : DataW H × List MemPlace}
    (h : DataW.trod enc Try.prog w base spare held fuel 3 cs = some x) : ∃ z : Int, cs = intC z := by
  obtain ⟨q, e, _, _⟩ := DataW.trod_int Try.underlying3 h
  exact ⟨q, e⟩
set_option maxRecDepth 100000 in
theorem open_plC {H : Type} {enc : TypeId × Value → H} {w : World} {base fuel : Nat} {spare : Nat → Bool} {held : Bool} {cs : List Value} {x : DataW H × List MemPlace}
    (h : DataW.trod enc Try.prog w base spare held fuel 53 cs = some x) : ∃ z : Pl, cs = encPl z := by
  obtain ⟨y0, y1, y2, n', _, hl, t0, t1, t2⟩ := Go.Deep.trod_struct3 Try.underlying53 h
  have hC : Try.prog.cellsOf 53 = 3 := by kernel_rfl
  have hI : Try.prog.cellsOf 3 = 1 := by kernel_rfl
  rw [hC] at hl
  obtain ⟨c0, c1, c2, rfl⟩ : ∃ c0 c1 c2, cs = [c0, c1, c2] := by
    match cs, hl with
    | [x, y, z], _ => exact ⟨x, y, z, rfl⟩
  simp [hI] at t0 t1 t2
  obtain ⟨q0, e0, _, _⟩ := DataW.trod_int Try.underlying3 t0
  obtain ⟨q1, e1, _, _⟩ := DataW.trod_int Try.underlying3 t1
  obtain ⟨q2, e2, _, _⟩ := DataW.trod_int Try.underlying3 t2
  simp at e0 e1 e2
  subst e0 e1 e2
  exact ⟨(q0, q1, q2), rfl⟩

set_option maxRecDepth 100000 in
/-- ints that came in -/
theorem open_ints {H : Type} {enc : TypeId × Value → H} {w : World} {r : Reach} {b0 base : Nat} {spare : Nat → Bool} {held : Bool} {v : Value} {d : DataW H} {p : List MemPlace}
    (hv : Value.okWide Try.prog w r b0 25 v) (h : DataW.Trod enc Try.prog w base spare held 25 v d p) : ∃ a c, ∃ l : List Int, v = .slice a l.length c ∧ l.length ≤ maxLen ∧ (l.length ≤ c ∧ c ≤ maxLen) ∧ SlI w a l := by
  obtain ⟨a', n', c', rfl⟩ := okWide_slice Try.underlying25 hv
  obtain ⟨fuel, hf⟩ := h
  obtain ⟨a, c, l, e, h1, h2, ⟨h4, _⟩, h3, _⟩ := open_slW intC_len (by omega) Try.underlying25 (by kernel_rfl) (fun n cs y hy => open_intC hy) hf
  exact ⟨a, c, l, e, h1, ⟨h2, h4⟩, sli_of h3⟩

set_option maxRecDepth 100000 in
theorem open_view {H : Type} {enc : TypeId × Value → H} {w : World} {r : Reach} {b0 base : Nat} {spare : Nat → Bool} {held : Bool} {v : Value} {d : DataW H} {p : List MemPlace}
    (hv : Value.okWide Try.prog w r b0 27 v) (h : DataW.Trod enc Try.prog w base spare held 27 v d p) :
    ∃ aR aK aW cR cK cW, ∃ (R : List Int) (K W : List Pl), v = .agg #[.slice aR R.length cR, .slice aK K.length cK, .slice aW W.length cW] ∧ (R.length ≤ maxLen ∧ K.length ≤ maxLen ∧ W.length ≤ maxLen) ∧ ((aK = none → cK = 0) ∧ (aW = none → cW = 0)) ∧ SlI w aR R ∧ SlP w aK K ∧ SlP w aW W := by
  obtain ⟨cs, rfl, hsz⟩ := okWide_struct Try.underlying27 hv
  have hC : Try.prog.cellsOf 27 = 3 := by kernel_rfl
  have hD : Try.prog.cellsOf 25 = 1 := by kernel_rfl
  have hF : Try.prog.cellsOf 22 = 1 := by kernel_rfl
  rw [hC] at hsz
  obtain ⟨c0, c1, c2, rfl⟩ : ∃ c0 c1 c2, cs = #[c0, c1, c2] := by
    have h1 : cs.toList.length = 3 := by simpa using hsz
    cases cs with
    | mk l =>
      match l, h1 with
      | [x, y, z], _ => exact ⟨x, y, z, rfl⟩
  obtain ⟨fuel, hf⟩ := h
  obtain ⟨y0, y1, y2, n, _, _, h0, h1, h2⟩ := Go.Deep.trod_struct3 Try.underlying27 hf
  simp [Value.cells, hD, hF] at h0 h1 h2
  obtain ⟨aR, cR, R, rfl, m0, _, _, hR, _⟩ := open_slW intC_len (by omega) Try.underlying25 (by kernel_rfl) (fun n cs y hy => open_intC hy) h0
  obtain ⟨aK, cK, K, rfl, m1, _, ⟨_, n1⟩, hK, _⟩ := open_slW encPl_len (by omega) Try.underlying22 (by kernel_rfl) (fun n cs y hy => open_plC hy) h1
  obtain ⟨aW, cW, W, rfl, m2, _, ⟨_, n2⟩, hW, _⟩ := open_slW encPl_len (by omega) Try.underlying22 (by kernel_rfl) (fun n cs y hy => open_plC hy) h2
  exact ⟨aR, aK, aW, cR, cK, cW, R, K, W, rfl, ⟨m0, m1, m2⟩, ⟨n1, n2⟩, sli_of hR, slp_of hK, slp_of hW⟩
end Go.Proofs.Ytkjgoikcibgonac

/- For every three trees and every roots orangerylaw.DeltaMakes answers true: a delta applied to the one view makes the other one, of like views there is none, one behind the other they make what the last one makes. No condition. -/
namespace Go.Proofs.Ytkjgoikcibgonac.deltaMakes
open Go.ChangeShapes Go.WideShapes Go.ChangeAt Go.RowKit
set_option linter.unusedVariables false

theorem own : ownKnob Try.prog.godebug = none := by kernel_rfl
theorem laidOut : laidOutB Try.prog = true := by kernel_rfl

set_option maxRecDepth 100000 in
theorem lifted (os : Os) (started : os.Started) (H : Type) (enc : TypeId × Value → H) :
    ReturnsInHanded {} Try.checked os 3 .any (Rows.deltaMakesSpec.pre6 enc Try.prog Try.f3 Rows.deltaMakesRow.domain false) (Rows.deltaMakesSpec.post enc Try.prog Try.f3 false true false false) := by
  refine returnsInHanded_of_change (C := Try.checked) own started (by kernel_rfl) Try.func3
    (ChangeSpec.witness6 (enc := enc) (C := Try.checked) false ⟨#[], #[.agg #[.slice none 0 0], .agg #[.slice none 0 0], .agg #[.slice none 0 0], .slice none 0 0], []⟩ 8 (by kernel_rfl) (by kernel_rfl) (by kernel_rfl) (by kernel_rfl)) ?_
  intro W base args ds gs before hval0 hW hcnd _
  have hval : ∀ (j : Nat) t v, Try.f3.params[j]? = some t → args[j]? = some v → Value.okWide Try.prog W .any base t v := hval0
  have hW' := hW
  obtain ⟨p, q, hA0, hV, rfl, hfz, hnd⟩ := hW
  have hA : DataW.TrodAll enc Try.prog W 0 (fun _ => true) true Try.f3.params.toList args.toList ds p := hA0
  rw [Try.params3] at hA hval
  obtain ⟨v0, vs0, d0, ds0, p0, q0, hargs, rfl, rfl, h0, r0⟩ := trodAll_cons hA
  obtain ⟨v1, vs1, d1, ds1, p1, q1, rfl, rfl, rfl, h1, r1⟩ := trodAll_cons r0
  obtain ⟨v2, vs2, d2, ds2, p2, q2, rfl, rfl, rfl, h2, r2⟩ := trodAll_cons r1
  obtain ⟨v3, vs3, d3, ds3, p3, q3, rfl, rfl, rfl, h3, r3⟩ := trodAll_cons r2
  obtain ⟨rfl, rfl, rfl⟩ := trodAll_nil r3
  obtain rfl : args = #[v0, v1, v2, v3] := by cases args; simp_all
  obtain ⟨rfl, rfl⟩ := trodVars_none hV
  have k0 := h0
  have lt0 : ∀ x ∈ p0, x.block < W.heap.size := by obtain ⟨m, hm⟩ := k0; exact DataW.trod_lt m _ _ _ hm
  obtain ⟨a0, c0, l0, rfl, m0, P0⟩ := open_tree (hval 0 24 v0 rfl rfl) h0
  have k1 := h1
  have lt1 : ∀ x ∈ p1, x.block < W.heap.size := by obtain ⟨m, hm⟩ := k1; exact DataW.trod_lt m _ _ _ hm
  obtain ⟨a1, c1, l1, rfl, m1, P1⟩ := open_tree (hval 1 24 v1 rfl rfl) h1
  have k2 := h2
  have lt2 : ∀ x ∈ p2, x.block < W.heap.size := by obtain ⟨m, hm⟩ := k2; exact DataW.trod_lt m _ _ _ hm
  obtain ⟨a2, c2, l2, rfl, m2, P2⟩ := open_tree (hval 2 24 v2 rfl rfl) h2
  have k3 := h3
  have lt3 : ∀ x ∈ p3, x.block < W.heap.size := by obtain ⟨m, hm⟩ := k3; exact DataW.trod_lt m _ _ _ hm
  obtain ⟨a3, c3, l3, rfl, m3, b3, P3⟩ := open_ints (hval 3 25 v3 rfl rfl) h3
  clear hA0 hval0
  refine (deltaMakes_any W a0 c0 l0 a1 c1 l1 a2 c2 l2 a3 c3 l3 m0 P0 m1 P1 m2 P2 m3 P3).mono fun e W' ⟨he, bel⟩ => ?_
  subst he
  exact ⟨_, rfl, _, _, _, [], _, [], hW', trodAll_mk1 (shut_bool Try.underlying4 _), (trodAll_cons_mk (Below.trod laidOut (by kernel_rfl) (of_decide_eq_true (by kernel_rfl)) k0 bel lt0) (trodAll_cons_mk (Below.trod laidOut (by kernel_rfl) (of_decide_eq_true (by kernel_rfl)) k1 bel lt1) (trodAll_cons_mk (Below.trod laidOut (by kernel_rfl) (of_decide_eq_true (by kernel_rfl)) k2 bel lt2) (trodAll_cons_mk (Below.trod laidOut (by kernel_rfl) (of_decide_eq_true (by kernel_rfl)) k3 bel lt3) trodAll_mk0)))), rfl, bel.frame _, fun h => by cases h⟩

theorem over : Rows.deltaMakesRow.holds Try.pinned (OpenSpec.ofChange Rows.deltaMakesSpec) :=
  OpenClaim.holds_of_wide 3 Try.f3 rfl rfl rfl rfl rfl rfl rfl ⟨rfl, rfl, rfl, rfl, rfl⟩ rfl rfl rfl rfl rfl (by kernel_rfl) Try.func3 (by kernel_rfl)
    (of_decide_eq_true (by kernel_rfl)) (by unfold Func.isWrapper; first | (rw [if_pos (by decide +kernel)]; kernel_rfl) | (rw [if_neg (by decide +kernel)]; exact ⟨rfl, rfl⟩))
    (fun os started H enc _ => lifted os started H enc)

/-- The statement. -/
theorem proved : Rows.DeltaMakesSaid :=
  over
#print axioms proved
end Go.Proofs.Ytkjgoikcibgonac.deltaMakes

