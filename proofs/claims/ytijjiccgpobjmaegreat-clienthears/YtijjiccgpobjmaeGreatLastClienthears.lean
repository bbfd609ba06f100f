/- ClientHears returns true for every client, every number and every mail: any client hears any mail as the reference says, errors too. Its condition: no list of an argument weighs more than the reach that every row has (the sized builder). -/
import Derived.Test.YtijjiccgpobjmaeGreatP23
import Derived.Test.YtijjiccgpobjmaeGreatP25
import Derived.Test.YtijjiccgpobjmaeGreatP26
/- orangerylaw.ClientHears: the walk. -/
namespace Go.Proofs.YtijjiccgpobjmaeGreat
open Go.ChangeShapes Go.WideShapes Go.ChangeAt Go.RowKit
open Orangery (Pl Mv Vw Ml Cl hearE hearC)

set_option maxHeartbeats 8000000 in
set_option maxRecDepth 100000 in
theorem clientHears_any (w : World) (x : Cm) (me : Int) (y : Mm) (hx : ClIn w x) (hy : MlIn w y) (hn : MlNil y) :
    Calls Tryz.prog 4 #[x.val, .int .i64 me, y.val] w fun e w' => e = .returned (.bool true) ∧ Below w.heap.size w w' := by
  have C1 := Lib.hid (fun W h1 h2 => chear_any W x me y h1 h2 hn)
  have C2 := Lib.hid (fun W h1 h2 => rheard_any W x me y h1 h2)
  obtain ⟨⟨⟨f, t, s, v⟩, P, R, K, V⟩, ⟨aP, cP⟩, ⟨aR, cR⟩, ⟨aK, cK⟩, ⟨aV, cV⟩⟩ := x
  obtain ⟨cy, hcy⟩ : ∃ c, c = mlC y := ⟨_, rfl⟩
  show Calls Tryz.prog _ #[.agg #[Value.int .i64 f, .int .i64 t, .int .i64 s, .slice aP P.length cP, .int .i64 v, .slice aR R.length cR, .slice aK K.length cK, .slice aV V.length cV], .int .i64 me, .agg (mlC y).toArray] w _
  rw [← hcy]
  obtain ⟨W0, hW, hN, hM, hB, -⟩ := laid2 w [Value.int .i64 f, .int .i64 t, .int .i64 s, .slice aP P.length cP, .int .i64 v, .slice aR R.length cR, .slice aK K.length cK, .slice aV V.length cV] 28 cy 52
  rw [hcy] at hM
  clear hcy
  have HX := Lib.hid hx
  have HY := Lib.hid hy
  have HB := Lib.hid hB
  have HN := Lib.hid hN
  have HM := Lib.hid hM
  have HRG := Lib.hid hN.range
  have HRM := Lib.hid hM.range
  clear hx hy hn hB hN hM
  go_enter Tryz.func4, Tryz.ntmps4
  go_wp2_with (first | (refine wpList_load_mid rfl 28 _ rfl w.heap.size 0 rfl [Value.int .i64 f, .int .i64 t, .int .i64 s, .slice aP P.length cP, .int .i64 v, .slice aR R.length cR, .slice aK K.length cK, .slice aV V.length cV] _ HRG.out Tryz.underlying28 rfl sizeClient ?_) | (refine wpList_load_mid rfl 52 _ rfl (w.heap.size + 1) 0 rfl (mlC y) _ HRM.out Tryz.underlying52 rfl (sizeMailC y) ?_) | fail)
  clear hW
  refine (C1.out W0 (HX.out.keep HB.out) (HY.out.keep HB.out)).mono ?_
  rintro e w1 ⟨⟨⟨⟨f1, t1, s1, v1⟩, P1, R1, K1, V1⟩, ⟨p1, q1⟩, ⟨r1, k1⟩, ⟨l1, m1⟩, ⟨n1, z1⟩⟩, rfl, hz1, hi1, hb1⟩
  rw [show Cm.val (((f1, t1, s1, v1), P1, R1, K1, V1), (p1, q1), (r1, k1), (l1, m1), (n1, z1)) = Value.agg #[Value.int .i64 f1, .int .i64 t1, .int .i64 s1, .slice p1 P1.length q1, .int .i64 v1, .slice r1 R1.length k1, .slice l1 K1.length m1, .slice n1 V1.length z1] from rfl]
  obtain ⟨W2, hW2, hN2, hb2, -⟩ := laid1 w1 [Value.int .i64 f1, .int .i64 t1, .int .i64 s1, .slice p1 P1.length q1, .int .i64 v1, .slice r1 R1.length k1, .slice l1 K1.length m1, .slice n1 V1.length z1] 28
  have hb02 : Below W0.heap.size W0 W2 := hb1.trans (hb2.mono hb1.size)
  have HN2 := Lib.hid (HN.out.keep hb02)
  have HM2 := Lib.hid (HM.out.keep hb02)
  have HRG2 := Lib.hid HN2.out.range
  have HRM2 := Lib.hid HM2.out.range
  have HB2 := Lib.hid (HB.out.trans (hb02.mono HB.out.size))
  have HA2 := Lib.hid hN2
  have HI2 := Lib.hid (hi1.keep hb2)
  have HZ1 := Lib.hid hz1
  clear hz1 hi1 hb1 hN2 hb2 hb02 HN HM HB HRG HRM C1
  go_wp2_with (first | (refine wpList_load_mid rfl 28 _ rfl w.heap.size 0 rfl [Value.int .i64 f, .int .i64 t, .int .i64 s, .slice aP P.length cP, .int .i64 v, .slice aR R.length cR, .slice aK K.length cK, .slice aV V.length cV] _ HRG2.out Tryz.underlying28 rfl sizeClient ?_) | (refine wpList_load_mid rfl 52 _ rfl (w.heap.size + 1) 0 rfl (mlC y) _ HRM2.out Tryz.underlying52 rfl (sizeMailC y) ?_) | fail)
  clear hW2
  refine (C2.out W2 (HX.out.keep HB2.out) (HY.out.keep HB2.out)).mono ?_
  rintro e w3 ⟨⟨⟨⟨f2, t2, s2, v2⟩, P2, R2, K2, V2⟩, ⟨p2, q2⟩, ⟨r2, k2⟩, ⟨l2, m2⟩, ⟨n2, z2⟩⟩, rfl, hz2, hi2, hb3⟩
  rw [show Cm.val (((f2, t2, s2, v2), P2, R2, K2, V2), (p2, q2), (r2, k2), (l2, m2), (n2, z2)) = Value.agg #[Value.int .i64 f2, .int .i64 t2, .int .i64 s2, .slice p2 P2.length q2, .int .i64 v2, .slice r2 R2.length k2, .slice l2 K2.length m2, .slice n2 V2.length z2] from rfl]
  obtain ⟨W4, hW4, hN4, hb4, -⟩ := laid1 w3 [Value.int .i64 f2, .int .i64 t2, .int .i64 s2, .slice p2 P2.length q2, .int .i64 v2, .slice r2 R2.length k2, .slice l2 K2.length m2, .slice n2 V2.length z2] 28
  have hb24 : Below W2.heap.size W2 W4 := hb3.trans (hb4.mono hb3.size)
  have HA4 := Lib.hid (HA2.out.keep hb24)
  have HI4 := Lib.hid (HI2.out.keep hb24)
  have HB4 := Lib.hid (HB2.out.trans (hb24.mono HB2.out.size))
  have HE4 := Lib.hid hN4
  have HJ4 := Lib.hid (hi2.keep hb4)
  have HZ2 := Lib.hid hz2
  have de : (hearE ((f, t, s, v), P, R, K, V) me y.1 == hearE ((f, t, s, v), P, R, K, V) me y.1) = true := by simp
  clear hz2 hi2 hb3 hN4 hb4 hb24 HN2 HM2 HRG2 HRM2 HB2 HA2 HI2 C2
  generalize hearE ((f, t, s, v), P, R, K, V) me y.1 = E at *
  go_wp2_with fail
  clear hW4
  refine (lives_any W4).mono ?_
  rintro e w5 ⟨rfl, hb5⟩
  have HB5 := Lib.hid (HB4.out.trans (hb5.mono HB4.out.size))
  have HI5 := Lib.hid (HI4.out.keep hb5)
  have HJ5 := Lib.hid (HJ4.out.keep hb5)
  have hA5 := HA4.out.keep hb5
  have hE5 := HE4.out.keep hb5
  have a0 := hA5.at 0 rfl
  have e0 := hE5.at 0 rfl
  have a1 := hA5.at 1 rfl
  have e1 := hE5.at 1 rfl
  have a2 := hA5.at 2 rfl
  have e2 := hE5.at 2 rfl
  have a3 := hA5.at 3 rfl
  have e3 := hE5.at 3 rfl
  have a4 := hA5.at 4 rfl
  have e4 := hE5.at 4 rfl
  have a5 := hA5.at 5 rfl
  have e5 := hE5.at 5 rfl
  have a6 := hA5.at 6 rfl
  have e6 := hE5.at 6 rfl
  have a7 := hA5.at 7 rfl
  have e7 := hE5.at 7 rfl
  clear hA5 hE5
  clear hb5 HB4 HI4 HJ4 HA4 HE4
  have hs := rsameClient_any w5 (((f1, t1, s1, v1), P1, R1, K1, V1), (p1, q1), (r1, k1), (l1, m1), (n1, z1)) (((f2, t2, s2, v2), P2, R2, K2, V2), (p2, q2), (r2, k2), (l2, m2), (n2, z2)) HI5.out HJ5.out
  rw [(sameCl_iff _ _).2 (HZ1.out.trans HZ2.out.symm)] at hs
  have HS := Lib.hid hs
  clear hs HI5 HJ5
  go_wp2_with fail
  refine HS.out.mono ?_
  rintro e w6 ⟨rfl, hb6⟩
  have HB6 := Lib.hid (HB5.out.trans (hb6.mono HB5.out.size))
  clear hb6
  go_wp2
  go_ret
  exact ⟨rfl, HB6.out⟩
end Go.Proofs.YtijjiccgpobjmaeGreat

/- ClientHears returns true for every client, every number and every mail: any client hears any mail as the reference says, errors too. Its condition: no list of an argument weighs more than the reach that every row has (the sized builder). -/
namespace Go.Proofs.YtijjiccgpobjmaeGreat.clientHears
open Go.ChangeShapes Go.WideShapes Go.ChangeAt Go.RowKit
set_option linter.unusedVariables false

theorem own : ownKnob Tryz.prog.godebug = none := by kernel_rfl
theorem laidOut : laidOutB Tryz.prog = true := by kernel_rfl

set_option maxHeartbeats 2000000 in
set_option maxRecDepth 100000 in
theorem lifted (os : Os) (started : os.Started) (H : Type) (enc : TypeId × Value → H) :
    ReturnsInHanded {} Tryz.checked os 4 .any (Rows.clientHearsSpec.pre6 enc Tryz.prog Tryz.f4 Rows.clientHearsRow.domain false) (Rows.clientHearsSpec.post enc Tryz.prog Tryz.f4 false true false false) := by
  refine returnsInHanded_of_change_sized (C := Tryz.checked) own started (by kernel_rfl) Tryz.func4
    (ChangeSpec.witness6 (enc := enc) (C := Tryz.checked) false ⟨#[], #[.agg #[.int .i64 0, .int .i64 0, .int .i64 0, .slice none 0 0, .int .i64 0, .slice none 0 0, .slice none 0 0, .slice none 0 0], .int .i64 0, .agg #[.int .i64 0, .int .i64 0, .int .i64 0, .int .i64 0, .int .i64 0, .int .i64 0, .int .i64 0, .int .i64 0, .int .i64 0, .int .i64 0, .int .i64 0, .int .i64 0, .int .i64 0, .int .i64 0, .slice none 0 0, .slice none 0 0, .slice none 0 0, .slice none 0 0, .slice none 0 0, .slice none 0 0, .slice none 0 0]], []⟩ 8 (by kernel_rfl) (by kernel_rfl) (by kernel_rfl) (by kernel_rfl)) ?_
  intro W base args ds gs before hval0 hW hcnd hsz0 _
  have hval : ∀ (j : Nat) t v, Tryz.f4.params[j]? = some t → args[j]? = some v → Value.okWide Tryz.prog W .any base t v := hval0
  have hW' := hW
  obtain ⟨p, q, hA0, hV, rfl, hfz, hnd⟩ := hW
  have hA : DataW.TrodAll enc Tryz.prog W 0 (fun _ => true) true Tryz.f4.params.toList args.toList ds p := hA0
  have hsz : (DataW.weightsEach Tryz.prog (Tryz.f4.params.toList ++ Rows.clientHearsSpec.plain.varTypes Tryz.prog) (ds ++ gs)).all (· ≤ reachBytes) = true := hsz0
  rw [Tryz.params4] at hA hval hsz
  obtain ⟨v0, vs0, d0, ds0, p0, q0, hargs, rfl, rfl, h0, r0⟩ := trodAll_cons hA
  obtain ⟨v1, vs1, d1, ds1, p1, q1, rfl, rfl, rfl, h1, r1⟩ := trodAll_cons r0
  obtain ⟨v2, vs2, d2, ds2, p2, q2, rfl, rfl, rfl, h2, r2⟩ := trodAll_cons r1
  obtain ⟨rfl, rfl, rfl⟩ := trodAll_nil r2
  obtain rfl : args = #[v0, v1, v2] := by cases args; simp_all
  obtain ⟨rfl, rfl⟩ := trodVars_none hV
  have k0 := h0
  have lt0 : ∀ x ∈ p0, x.block < W.heap.size := by obtain ⟨m, hm⟩ := k0; exact DataW.trod_lt m _ _ _ hm
  obtain ⟨x0, rfl, P0, N0, C0⟩ := open_client (hval 0 28 v0 rfl rfl) h0 (sized_at hsz (j := 0) rfl rfl)
  obtain ⟨x1, rfl, rfl, rfl, g1⟩ := open_int Tryz.underlying3 (hval 1 3 v1 rfl rfl) h1
  have k2 := h2
  have lt2 : ∀ x ∈ p2, x.block < W.heap.size := by obtain ⟨m, hm⟩ := k2; exact DataW.trod_lt m _ _ _ hm
  obtain ⟨x2, rfl, P2, N2⟩ := open_mailN (hval 2 52 v2 rfl rfl) h2 (sized_at hsz (j := 2) rfl rfl)
  clear hA0 hval0
  refine (clientHears_any W x0 x1 x2 P0 P2 N2).mono fun e W' ⟨he, bel⟩ => ?_
  subst he
  exact ⟨_, rfl, _, _, _, [], _, [], hW', trodAll_mk1 (shut_bool Tryz.underlying4 _), (trodAll_cons_mk (Below.trod laidOut (by kernel_rfl) (of_decide_eq_true (by kernel_rfl)) k0 bel lt0) (trodAll_cons_mk (shut_int Tryz.underlying3 g1) (trodAll_cons_mk (Below.trod laidOut (by kernel_rfl) (of_decide_eq_true (by kernel_rfl)) k2 bel lt2) trodAll_mk0))), rfl, bel.frame _, fun h => by cases h⟩

theorem over : Rows.clientHearsRow.holds Tryz.pinned (OpenSpec.ofChange Rows.clientHearsSpec) :=
  OpenClaim.holds_of_wide 4 Tryz.f4 rfl rfl rfl rfl rfl rfl rfl ⟨rfl, rfl, rfl, rfl, rfl⟩ rfl rfl rfl rfl rfl (by kernel_rfl) Tryz.func4 (by kernel_rfl)
    (of_decide_eq_true (by kernel_rfl)) (by unfold Func.isWrapper; first | (rw [if_pos (by decide +kernel)]; kernel_rfl) | (rw [if_neg (by decide +kernel)]; exact ⟨rfl, rfl⟩))
    (fun os started H enc _ => lifted os started H enc)

/-- The statement. -/
theorem proved : Rows.ClientHearsSaid :=
  over
#print axioms proved
end Go.Proofs.YtijjiccgpobjmaeGreat.clientHears

