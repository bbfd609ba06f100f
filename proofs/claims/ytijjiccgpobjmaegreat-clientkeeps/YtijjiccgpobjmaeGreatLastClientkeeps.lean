/- ClientKeeps returns true for every client, every number and every mail: a client stays one, whatever it hears, never goes back, hears twice what it hears once, and forgets nothing that is not accepted. Its condition: no list of an argument weighs more than the reach that every row has (the sized builder). -/
import Derived.Test.YtijjiccgpobjmaeGreatP20
import Derived.Test.YtijjiccgpobjmaeGreatP25
import Derived.Test.YtijjiccgpobjmaeGreatP26
/- orangerylaw.ClientKeeps: the walk. -/
namespace Go.Proofs.YtijjiccgpobjmaeGreat
open Go.ChangeShapes Go.WideShapes Go.ChangeAt Go.RowKit
open Orangery (Pl Mv Vw Ml Cl hearE hearC clE)

theorem drop_flatE {α : Type} {enc : α → List Value} {k : Nat} (hk : ∀ x, (enc x).length = k) (l : List α) (i : Nat) : (l.flatMap enc).drop (i * k) = (l.drop i).flatMap enc := by
  induction l generalizing i with
  | nil => simp
  | cons x l ih =>
    cases i with
    | zero => simp
    | succ i =>
      simp only [List.flatMap_cons, List.drop_succ_cons]
      rw [show (i + 1) * k = (enc x).length + i * k by rw [hk, Nat.succ_mul]; omega, List.drop_length_add_append, ih]

set_option maxHeartbeats 16000000 in
set_option maxRecDepth 100000 in
theorem clientKeeps_any (w : World) (x : Cm) (me : Int) (y : Mm) (hx : ClIn w x) (hcap : x.1.2.1.length ≤ x.2.1.2) (hy : MlIn w y) (hn : MlNil y) :
    Calls Tryz.prog 5 #[x.val, .int .i64 me, y.val] w fun e w' => e = .returned (.bool true) ∧ Below w.heap.size w w' := by
  have C1 := Lib.hid (fun W h1 h2 => chear_any W x me y h1 h2 hn)
  obtain ⟨⟨⟨f, t, s, v⟩, P, R, K, V⟩, ⟨aP, cP⟩, ⟨aR, cR⟩, ⟨aK, cK⟩, ⟨aV, cV⟩⟩ := x
  obtain ⟨cy, hcy⟩ : ∃ c, c = mlC y := ⟨_, rfl⟩
  show Calls Tryz.prog _ #[.agg #[Value.int .i64 f, .int .i64 t, .int .i64 s, .slice aP P.length cP, .int .i64 v, .slice aR R.length cR, .slice aK K.length cK, .slice aV V.length cV], .int .i64 me, .agg (mlC y).toArray] w _
  rw [← hcy]
  obtain ⟨W0, hW, hN, hM, hB, -⟩ := laid2 w [Value.int .i64 f, .int .i64 t, .int .i64 s, .slice aP P.length cP, .int .i64 v, .slice aR R.length cR, .slice aK K.length cK, .slice aV V.length cV] 28 cy 52
  rw [hcy] at hM
  clear hcy
  simp only at hcap
  have HCAP := Lib.hid hcap
  have HX := Lib.hid hx
  have HY := Lib.hid hy
  have HNIL := Lib.hid hn
  have HB := Lib.hid hB
  have HN := Lib.hid hN
  have HM := Lib.hid hM
  have HRG := Lib.hid hN.range
  have HRM := Lib.hid hM.range
  clear hx hy hn hB hN hM hcap
  go_enter Tryz.func5, Tryz.ntmps5
  go_wp2_with (first | (refine wpList_load_mid rfl 28 _ rfl w.heap.size 0 rfl [Value.int .i64 f, .int .i64 t, .int .i64 s, .slice aP P.length cP, .int .i64 v, .slice aR R.length cR, .slice aK K.length cK, .slice aV V.length cV] _ HRG.out Tryz.underlying28 rfl sizeClient ?_) | (refine wpList_load_mid rfl 52 _ rfl (w.heap.size + 1) 0 rfl (mlC y) _ HRM.out Tryz.underlying52 rfl (sizeMailC y) ?_) | fail)
  clear hW
  refine (C1.out W0 (HX.out.keep HB.out) (HY.out.keep HB.out)).mono ?_
  rintro e w1 ⟨⟨⟨⟨f1, t1, s1, v1⟩, P1, R1, K1, V1⟩, ⟨p1, q1⟩, ⟨r1, k1⟩, ⟨l1, m1⟩, ⟨n1, z1⟩⟩, rfl, hz1, hi1, hb1⟩
  rw [show Cm.val (((f1, t1, s1, v1), P1, R1, K1, V1), (p1, q1), (r1, k1), (l1, m1), (n1, z1)) = Value.agg #[Value.int .i64 f1, .int .i64 t1, .int .i64 s1, .slice p1 P1.length q1, .int .i64 v1, .slice r1 R1.length k1, .slice l1 K1.length m1, .slice n1 V1.length z1] from rfl]
  obtain ⟨W2, hW2, hN2, hb2, -⟩ := laid1 w1 [Value.int .i64 f1, .int .i64 t1, .int .i64 s1, .slice p1 P1.length q1, .int .i64 v1, .slice r1 R1.length k1, .slice l1 K1.length m1, .slice n1 V1.length z1] 28
  have hb02 : Below W0.heap.size W0 W2 := hb1.trans (hb2.mono hb1.size)
  have HN2 := Lib.hid (HN.out.keep hb02)
  have HM2 := Lib.hid (HM.out.keep hb02)
  have HB2 := Lib.hid (HB.out.trans (hb02.mono HB.out.size))
  have HA2 := Lib.hid hN2
  have HI2 := Lib.hid (hi1.keep hb2)
  have HZ1 := Lib.hid hz1
  clear hz1 hi1 hb1 hN2 hb2 hb02 HN HM HB HRG HRM C1
  obtain ⟨E, hE⟩ : ∃ E, E = hearE ((f, t, s, v), P, R, K, V) me y.1 := ⟨_, rfl⟩
  rw [show hearE (Prod.fst (((f, t, s, v), P, R, K, V), (aP, cP), (aR, cR), (aK, cK), (aV, cV))) me y.1 = E from hE.symm]
  have HE := Lib.hid hE
  clear hE
  go_wp2_with fail
  clear hW2
  refine (lives_any W2).mono ?_
  rintro e w3 ⟨rfl, hb3⟩
  have HN3 := Lib.hid (HN2.out.keep hb3)
  have HM3 := Lib.hid (HM2.out.keep hb3)
  have HB3 := Lib.hid (HB2.out.trans (hb3.mono HB2.out.size))
  have HA3 := Lib.hid (HA2.out.keep hb3)
  have HI3 := Lib.hid (HI2.out.keep hb3)
  clear hb3 HN2 HM2 HB2 HA2 HI2
  by_cases hz : E = 0
  case neg =>
    have d1 : (E != 0) = true := by simpa using hz
    clear hz HN3 HM3 HA3 HI3 HZ1 HE
    go_wp2_with fail
    refine (lives_any w3).mono ?_
    rintro e w4 ⟨rfl, hb4⟩
    have HB4 := Lib.hid (HB3.out.trans (hb4.mono HB3.out.size))
    clear hb4
    go_wp2
    go_ret
    exact ⟨rfl, HB4.out⟩
  have hz0 : hearE ((f, t, s, v), P, R, K, V) me y.1 = 0 := by rw [← HE.out]; exact hz
  have hz1' : ((f1, t1, s1, v1), P1, R1, K1, V1) = hearC ((f, t, s, v), P, R, K, V) me y.1 := HZ1.out
  have HOK : Hid (clE ((f1, t1, s1, v1), P1, R1, K1, V1) me = 0) := by show _ = _; rw [hz1']; exact Orangery.hear_ok hz0
  have HTW : Hid (hearE ((f1, t1, s1, v1), P1, R1, K1, V1) me y.1 = 0 ∧ hearC ((f1, t1, s1, v1), P1, R1, K1, V1) me y.1 = ((f1, t1, s1, v1), P1, R1, K1, V1)) := by show _ ∧ _; rw [hz1']; exact Orangery.hear_twice hz0
  have hnb := Orangery.hear_not_back hz0
  have hpe := Orangery.hear_pending hz0
  rw [← hz1'] at hnb hpe
  simp only at hnb hpe
  have HNB := Lib.hid hnb
  have HPE := Lib.hid hpe
  rw [hz]
  clear hz hz0 hz1' hnb hpe HZ1 HE
  have HRA := Lib.hid HA3.out.range
  have HRM := Lib.hid HM3.out.range
  have C2 := chear_any w3 (((f1, t1, s1, v1), P1, R1, K1, V1), (p1, q1), (r1, k1), (l1, m1), (n1, z1)) me y HI3.out (HY.out.keep HB3.out) HNIL.out
  have C2 := Lib.hid C2
  go_wp2_with (first | (refine wpList_load_mid rfl 28 _ rfl w1.heap.size 0 rfl [Value.int .i64 f1, .int .i64 t1, .int .i64 s1, .slice p1 P1.length q1, .int .i64 v1, .slice r1 R1.length k1, .slice l1 K1.length m1, .slice n1 V1.length z1] _ HRA.out Tryz.underlying28 rfl sizeClient ?_) | (refine wpList_load_mid rfl 52 _ rfl (w.heap.size + 1) 0 rfl (mlC y) _ HRM.out Tryz.underlying52 rfl (sizeMailC y) ?_) | fail)
  refine C2.out.mono ?_
  rintro e w4 ⟨⟨⟨⟨f2, t2, s2, v2⟩, P2, R2, K2, V2⟩, ⟨p2, q2⟩, ⟨r2, k2⟩, ⟨l2, m2⟩, ⟨n2, z2⟩⟩, rfl, hz2, hi2, hb4⟩
  rw [HTW.out.1]
  have hz2' : ((f2, t2, s2, v2), P2, R2, K2, V2) = ((f1, t1, s1, v1), P1, R1, K1, V1) := hz2.trans HTW.out.2
  rw [show Cm.val (((f2, t2, s2, v2), P2, R2, K2, V2), (p2, q2), (r2, k2), (l2, m2), (n2, z2)) = Value.agg #[Value.int .i64 f2, .int .i64 t2, .int .i64 s2, .slice p2 P2.length q2, .int .i64 v2, .slice r2 R2.length k2, .slice l2 K2.length m2, .slice n2 V2.length z2] from rfl]
  obtain ⟨W5, hW5, hN5, hb5, -⟩ := laid1 w4 [Value.int .i64 f2, .int .i64 t2, .int .i64 s2, .slice p2 P2.length q2, .int .i64 v2, .slice r2 R2.length k2, .slice l2 K2.length m2, .slice n2 V2.length z2] 28
  have hb35 : Below w3.heap.size w3 W5 := hb4.trans (hb5.mono hb4.size)
  have HN5 := Lib.hid (HN3.out.keep hb35)
  have HM5 := Lib.hid (HM3.out.keep hb35)
  have HB5 := Lib.hid (HB3.out.trans (hb35.mono HB3.out.size))
  have HA5 := Lib.hid (HA3.out.keep hb35)
  have HI5 := Lib.hid (HI3.out.keep hb35)
  have HJ5 := Lib.hid (hi2.keep hb5)
  have hs := csame_any W5 (((f1, t1, s1, v1), P1, R1, K1, V1), (p1, q1), (r1, k1), (l1, m1), (n1, z1)) (((f2, t2, s2, v2), P2, R2, K2, V2), (p2, q2), (r2, k2), (l2, m2), (n2, z2)) HI5.out HJ5.out
  rw [(sameCl_iff _ _).2 hz2'.symm] at hs
  have HS := Lib.hid hs
  have hA5 := HA5.out
  have a0 := hA5.at 0 rfl
  have a1 := hA5.at 1 rfl
  have a2 := hA5.at 2 rfl
  have a3 := hA5.at 3 rfl
  have a4 := hA5.at 4 rfl
  have a5 := hA5.at 5 rfl
  have a6 := hA5.at 6 rfl
  have a7 := hA5.at 7 rfl
  have b0 := hN5.at 0 rfl
  have b1 := hN5.at 1 rfl
  have b2 := hN5.at 2 rfl
  have b3 := hN5.at 3 rfl
  have b4 := hN5.at 4 rfl
  have b5 := hN5.at 5 rfl
  have b6 := hN5.at 6 rfl
  have b7 := hN5.at 7 rfl
  clear hz2 hz2' hi2 hb4 hb5 hb35 hN5 hs hA5 HN3 HM3 HB3 HA3 HI3 HRA HRM C2 HTW HJ5
  go_wp2_with fail
  clear hW5 b0 b1 b2 b3 b4 b5 b6 b7
  refine HS.out.mono ?_
  rintro e w6 ⟨rfl, hb6⟩
  have HN6 := Lib.hid (HN5.out.keep hb6)
  have HM6 := Lib.hid (HM5.out.keep hb6)
  have HB6 := Lib.hid (HB5.out.trans (hb6.mono HB5.out.size))
  have HA6 := Lib.hid (HA5.out.keep hb6)
  have HI6 := Lib.hid (HI5.out.keep hb6)
  have hc := ccheck_any w6 (((f1, t1, s1, v1), P1, R1, K1, V1), (p1, q1), (r1, k1), (l1, m1), (n1, z1)) me HI6.out
  rw [HOK.out] at hc
  have HC := Lib.hid hc
  have hA6 := HA6.out
  clear a0 a1 a2 a3 a4 a5 a6 a7
  have a0 := hA6.at 0 rfl
  have a1 := hA6.at 1 rfl
  have a2 := hA6.at 2 rfl
  have a3 := hA6.at 3 rfl
  have a4 := hA6.at 4 rfl
  have a5 := hA6.at 5 rfl
  have a6 := hA6.at 6 rfl
  have a7 := hA6.at 7 rfl
  clear hb6 hc hA6 HN5 HM5 HB5 HA5 HI5 HS
  go_wp2_with fail
  refine HC.out.mono ?_
  rintro e w7 ⟨rfl, hb7⟩
  have HN7 := Lib.hid (HN6.out.keep hb7)
  have HM7 := Lib.hid (HM6.out.keep hb7)
  have HB7 := Lib.hid (HB6.out.trans (hb7.mono HB6.out.size))
  have HA7 := Lib.hid (HA6.out.keep hb7)
  have HI7 := Lib.hid (HI6.out.keep hb7)
  have hA7 := HA7.out
  have hN7 := HN7.out
  clear a0 a1 a2 a3 a4 a5 a6 a7
  have a0 := hA7.at 0 rfl
  have a1 := hA7.at 1 rfl
  have a2 := hA7.at 2 rfl
  have a3 := hA7.at 3 rfl
  have a4 := hA7.at 4 rfl
  have a5 := hA7.at 5 rfl
  have a6 := hA7.at 6 rfl
  have a7 := hA7.at 7 rfl
  have b0 := hN7.at 0 rfl
  have b1 := hN7.at 1 rfl
  have b2 := hN7.at 2 rfl
  have b3 := hN7.at 3 rfl
  have b4 := hN7.at 4 rfl
  have b5 := hN7.at 5 rfl
  have b6 := hN7.at 6 rfl
  have b7 := hN7.at 7 rfl
  obtain ⟨hn1, hn2, hn3, hn4⟩ := HNB.out
  have g1 : decide (v1 < v) = false := by simp; omega
  have g2 : decide (t1 < t) = false := by simp; omega
  have g3 : (f1 != f) = false := by simp [hn3]
  have g4 : (s1 != s) = false := by simp [hn4]
  obtain ⟨n, hnl, hdrop, htake⟩ := HPE.out
  have hl1 : P1.length = P.length - n := by rw [hdrop, List.length_drop]
  have hfew := HX.out.few.1
  simp only at hfew
  have hw64 : wrap64 ((P.length : Int) - (P1.length : Int)) = (n : Int) := by rw [hl1]; unfold wrap64; omega
  have g5 : decide ((n : Int) < 0) = false := by simp
  have HNL := Lib.hid hnl
  have HDR := Lib.hid hdrop
  have HTK := Lib.hid htake
  have HL1 := Lib.hid hl1
  clear hn1 hn2 hn3 hn4 hnl hdrop htake hl1 hb7 HN6 HM6 HB6 HA6 HI6 HC hA7 hN7
  go_upto_region 8 with fail
  rw [hw64]
  clear hw64
  go_cut [94] from 83 to 93 (fun u wc => u = .bool false ∧ Below w7.heap.size w7 wc)
  case first =>
    have hcap := HCAP.out
    have hnl := HNL.out
    have HEQ : Hid (∀ W a' c', Below w7.heap.size w7 W → SlE opC W a' (P.drop n) → Calls Tryz.prog 21 #[.slice p1 P1.length q1, .slice a' (P.length - n) c'] W fun e w' => e = .returned (.bool true) ∧ Below W.heap.size W w') := by
      intro W a' c' hb h
      have := equalOps_any W p1 a' q1 c' P1 (P.drop n) (by have := HX.out.few.1; simp only at this; have := HL1.out; unfold maxLen; omega) (HI7.out.lp.below hb) h
      rw [List.length_drop, show eqOs P1 (P.drop n) = true by unfold eqOs; rw [HDR.out]; simp] at this
      exact this
    have HP7 := Lib.hid (HX.out.lp.below HB7.out)
    by_cases hp : P = []
    · have HPN := Lib.hid hp
      clear hp
      cases aP with
      | none =>
        refine wp_region_held_drew (S := fun w' => Blk w' w1.heap.size [Value.int .i64 f1, .int .i64 t1, .int .i64 s1, .slice p1 P1.length q1, .int .i64 v1, .slice r1 R1.length k1, .slice l1 K1.length m1, .slice n1 V1.length z1] ∧ Blk w' w.heap.size [Value.int .i64 f, .int .i64 t, .int .i64 s, .slice none P.length cP, .int .i64 v, .slice aR R.length cR, .slice aK K.length cK, .slice aV V.length cV] ∧ Below w7.heap.size w7 w') (by kernel_rfl) ⟨HA7.out, HN7.out, (Below.refl _ w7).drew⟩ (fun hHeld => ?_)
        refine take_yes 0 83 (v := ?_) rfl rfl (by kernel_rfl) (by kernel_rfl) (by kernel_rfl) (fun _ _ _ h => h) (by rfl) ?_ hHeld ?_
        rotate_left 1
        · (intro w9 hSw; skip; go_simp; try with_reducible rfl)
        simp only [Act.put, List.setIfInBounds_toArray, List.set_cons_succ, List.set_cons_zero]
        refine take_yes 1 84 (v := ?_) rfl rfl (by kernel_rfl) (by kernel_rfl) (by kernel_rfl) (fun _ _ _ h => h) (by rfl) ?_ hHeld ?_
        rotate_left 1
        · (intro w9 hSw; skip; go_simp; try with_reducible rfl)
        simp only [Act.put, List.setIfInBounds_toArray, List.set_cons_succ, List.set_cons_zero]
        refine take_yes 2 85 (v := ?_) rfl rfl (by kernel_rfl) (by kernel_rfl) (by kernel_rfl) (fun _ _ _ h => h) (by rfl) ?_ hHeld ?_
        rotate_left 1
        · (intro w9 hSw; skip; go_simp; try with_reducible rfl)
        simp only [Act.put, List.setIfInBounds_toArray, List.set_cons_succ, List.set_cons_zero]
        refine take_yes 3 86 (v := ?_) rfl rfl (by kernel_rfl) (by kernel_rfl) (by kernel_rfl) (fun _ _ _ h => h) (by rfl) ?_ hHeld ?_
        rotate_left 1
        · (intro w9 hSw; skip; go_simp; try with_reducible rfl)
        simp only [Act.put, List.setIfInBounds_toArray, List.set_cons_succ, List.set_cons_zero]
        refine take_yes 4 87 (v := ?_) rfl rfl (by kernel_rfl) (by kernel_rfl) (by kernel_rfl) (fun _ _ _ h => h) (by rfl) ?_ hHeld ?_
        rotate_left 1
        · (intro w9 hSw; have q3 := hSw.1.at 3 rfl; go_simp; try with_reducible rfl)
        simp only [Act.put, List.setIfInBounds_toArray, List.set_cons_succ, List.set_cons_zero]
        refine take_yes 5 88 (v := ?_) rfl rfl (by kernel_rfl) (by kernel_rfl) (by kernel_rfl) (fun _ _ _ h => h) (by rfl) ?_ hHeld ?_
        rotate_left 1
        · (intro w9 hSw; skip; go_simp; try with_reducible rfl)
        simp only [Act.put, List.setIfInBounds_toArray, List.set_cons_succ, List.set_cons_zero]
        refine take_yes 6 89 (v := ?_) rfl rfl (by kernel_rfl) (by kernel_rfl) (by kernel_rfl) (fun _ _ _ h => h) (by rfl) ?_ hHeld ?_
        rotate_left 1
        · (intro w9 hSw; have q3 := hSw.2.1.at 3 rfl; go_simp; try with_reducible rfl)
        simp only [Act.put, List.setIfInBounds_toArray, List.set_cons_succ, List.set_cons_zero]
        refine take_yes 7 90 (v := ?_) rfl rfl (by kernel_rfl) (by kernel_rfl) (by kernel_rfl) (fun _ _ _ h => h) (by rfl) ?_ hHeld ?_
        rotate_left 1
        · (intro w9 hSw; skip; go_simp; try with_reducible rfl)
        simp only [Act.put, List.setIfInBounds_toArray, List.set_cons_succ, List.set_cons_zero]
        refine take_yes 8 91 (v := ?_) rfl rfl (by kernel_rfl) (by kernel_rfl) (by kernel_rfl) (fun _ _ _ h => h) (by rfl) ?_ hHeld ?_
        rotate_left 1
        · (intro w9 hSw; skip; go_simp; try with_reducible rfl)
        simp only [Act.put, List.setIfInBounds_toArray, List.set_cons_succ, List.set_cons_zero]
        refine wpAnyH_ready (rs := [9]) (by kernel_rfl) (by simp) ?_
        refine AllReadyH.cons rfl (fun KK hKK => ?_) AllReadyH.nil
        go_simp
        refine (HEQ.out _ _ _ hHeld.2.2 (Or.inl (by rw [HPN.out]; simp))).mono ?_
        rintro e w8 ⟨rfl, hb8⟩
        have hS8 := And.intro (hHeld.1.keep hb8) (And.intro (hHeld.2.1.keep hb8) (hHeld.2.2.trans (hb8.mono hHeld.2.2.size)))
        go_wp2_with fail
        refine hKK.out _ _ hS8 (fun hHeld => ?_)
        clear hKK KK hS8 hb8
        refine take_yes 10 93 (v := ?_) rfl rfl (by kernel_rfl) (by kernel_rfl) (by kernel_rfl) (fun _ _ _ h => h) (by rfl) ?_ hHeld ?_
        rotate_left 1
        · (intro w9 hSw; skip; go_simp; try with_reducible rfl)
        simp only [Act.put, List.setIfInBounds_toArray, List.set_cons_succ, List.set_cons_zero]
        refine take_yes 11 94 (v := ?_) rfl rfl (by kernel_rfl) (by kernel_rfl) (by kernel_rfl) (fun _ _ _ h => h) (by rfl) ?_ hHeld ?_
        rotate_left 1
        · (intro w9 hSw; skip; go_simp; try with_reducible rfl)
        simp only [Act.put, List.setIfInBounds_toArray, List.set_cons_succ, List.set_cons_zero]
        refine wpAnyH_done (by kernel_rfl) ?_ _
        have HR := Lib.hid hHeld.2.2
        clear hHeld
        go_wp2
        go_meet
        case rel => exact ⟨rfl, HR.out⟩
      | some ad =>
        have haa : ∃ a, a = if cP = n then some ad else some (ad.add (n * 7)) := ⟨_, rfl⟩
        obtain ⟨aa, haa⟩ := haa
        have HAA : Hid ((if cP = n then some ad else some (ad.add (n * 7))) = aa) := haa.symm
        clear haa
        refine wp_region_held_drew (S := fun w' => Blk w' w1.heap.size [Value.int .i64 f1, .int .i64 t1, .int .i64 s1, .slice p1 P1.length q1, .int .i64 v1, .slice r1 R1.length k1, .slice l1 K1.length m1, .slice n1 V1.length z1] ∧ Blk w' w.heap.size [Value.int .i64 f, .int .i64 t, .int .i64 s, .slice (some ad) P.length cP, .int .i64 v, .slice aR R.length cR, .slice aK K.length cK, .slice aV V.length cV] ∧ Below w7.heap.size w7 w') (by kernel_rfl) ⟨HA7.out, HN7.out, (Below.refl _ w7).drew⟩ (fun hHeld => ?_)
        refine take_yes 0 83 (v := ?_) rfl rfl (by kernel_rfl) (by kernel_rfl) (by kernel_rfl) (fun _ _ _ h => h) (by rfl) ?_ hHeld ?_
        rotate_left 1
        · (intro w9 hSw; skip; go_simp; try with_reducible rfl)
        simp only [Act.put, List.setIfInBounds_toArray, List.set_cons_succ, List.set_cons_zero]
        refine take_yes 1 84 (v := ?_) rfl rfl (by kernel_rfl) (by kernel_rfl) (by kernel_rfl) (fun _ _ _ h => h) (by rfl) ?_ hHeld ?_
        rotate_left 1
        · (intro w9 hSw; skip; go_simp; try with_reducible rfl)
        simp only [Act.put, List.setIfInBounds_toArray, List.set_cons_succ, List.set_cons_zero]
        refine take_yes 2 85 (v := ?_) rfl rfl (by kernel_rfl) (by kernel_rfl) (by kernel_rfl) (fun _ _ _ h => h) (by rfl) ?_ hHeld ?_
        rotate_left 1
        · (intro w9 hSw; skip; go_simp; try with_reducible rfl)
        simp only [Act.put, List.setIfInBounds_toArray, List.set_cons_succ, List.set_cons_zero]
        refine take_yes 3 86 (v := ?_) rfl rfl (by kernel_rfl) (by kernel_rfl) (by kernel_rfl) (fun _ _ _ h => h) (by rfl) ?_ hHeld ?_
        rotate_left 1
        · (intro w9 hSw; skip; go_simp; try with_reducible rfl)
        simp only [Act.put, List.setIfInBounds_toArray, List.set_cons_succ, List.set_cons_zero]
        refine take_yes 4 87 (v := ?_) rfl rfl (by kernel_rfl) (by kernel_rfl) (by kernel_rfl) (fun _ _ _ h => h) (by rfl) ?_ hHeld ?_
        rotate_left 1
        · (intro w9 hSw; have q3 := hSw.1.at 3 rfl; go_simp; try with_reducible rfl)
        simp only [Act.put, List.setIfInBounds_toArray, List.set_cons_succ, List.set_cons_zero]
        refine take_yes 5 88 (v := ?_) rfl rfl (by kernel_rfl) (by kernel_rfl) (by kernel_rfl) (fun _ _ _ h => h) (by rfl) ?_ hHeld ?_
        rotate_left 1
        · (intro w9 hSw; skip; go_simp; try with_reducible rfl)
        simp only [Act.put, List.setIfInBounds_toArray, List.set_cons_succ, List.set_cons_zero]
        refine take_yes 6 89 (v := ?_) rfl rfl (by kernel_rfl) (by kernel_rfl) (by kernel_rfl) (fun _ _ _ h => h) (by rfl) ?_ hHeld ?_
        rotate_left 1
        · (intro w9 hSw; have q3 := hSw.2.1.at 3 rfl; go_simp; try with_reducible rfl)
        simp only [Act.put, List.setIfInBounds_toArray, List.set_cons_succ, List.set_cons_zero]
        refine take_yes 7 90 (v := ?_) rfl rfl (by kernel_rfl) (by kernel_rfl) (by kernel_rfl) (fun _ _ _ h => h) (by rfl) ?_ hHeld ?_
        rotate_left 1
        · (intro w9 hSw; skip; go_simp; try with_reducible rfl)
        simp only [Act.put, List.setIfInBounds_toArray, List.set_cons_succ, List.set_cons_zero]
        refine take_yes 8 91 (v := .slice aa (P.length - n) (cP - n)) rfl rfl (by kernel_rfl) (by kernel_rfl) (by kernel_rfl) (fun _ _ _ h => h) (by rfl) ?_ hHeld ?_
        · (intro w9 hSw; go_simp; rw [HAA.out])
        simp only [Act.put, List.setIfInBounds_toArray, List.set_cons_succ, List.set_cons_zero]
        refine wpAnyH_ready (rs := [9]) (by kernel_rfl) (by simp) ?_
        refine AllReadyH.cons rfl (fun KK hKK => ?_) AllReadyH.nil
        go_simp
        refine (HEQ.out _ _ _ hHeld.2.2 (Or.inl (by rw [HPN.out]; simp))).mono ?_
        rintro e w8 ⟨rfl, hb8⟩
        have hS8 := And.intro (hHeld.1.keep hb8) (And.intro (hHeld.2.1.keep hb8) (hHeld.2.2.trans (hb8.mono hHeld.2.2.size)))
        go_wp2_with fail
        refine hKK.out _ _ hS8 (fun hHeld => ?_)
        clear hKK KK hS8 hb8
        refine take_yes 10 93 (v := ?_) rfl rfl (by kernel_rfl) (by kernel_rfl) (by kernel_rfl) (fun _ _ _ h => h) (by rfl) ?_ hHeld ?_
        rotate_left 1
        · (intro w9 hSw; skip; go_simp; try with_reducible rfl)
        simp only [Act.put, List.setIfInBounds_toArray, List.set_cons_succ, List.set_cons_zero]
        refine take_yes 11 94 (v := ?_) rfl rfl (by kernel_rfl) (by kernel_rfl) (by kernel_rfl) (fun _ _ _ h => h) (by rfl) ?_ hHeld ?_
        rotate_left 1
        · (intro w9 hSw; skip; go_simp; try with_reducible rfl)
        simp only [Act.put, List.setIfInBounds_toArray, List.set_cons_succ, List.set_cons_zero]
        refine wpAnyH_done (by kernel_rfl) ?_ _
        have HR := Lib.hid hHeld.2.2
        clear hHeld
        go_wp2
        go_meet
        case rel => exact ⟨rfl, HR.out⟩
    · rcases HP7.out with h | ⟨b, off, rfl, hbl, hrr⟩
      · exact absurd h hp
      have HSL : Hid (∀ W, Below w7.heap.size w7 W → SlE opC W (some ⟨b, off + n * 7, none⟩) (P.drop n)) := by
        intro W hb
        refine Or.inr ⟨b, off + n * 7, rfl, Nat.lt_of_lt_of_le hbl hb.size, ?_⟩
        intro j u hj
        have h1 := hrr (n * 7 + j) u (by rw [← List.getElem?_drop, drop_flatE opC_len]; exact hj)
        rw [← h1, hb.cell hbl]
        congr 2
        omega
      have HLE : Hid (cP = n → P.drop n = []) := fun h => List.drop_of_length_le (by omega)
      clear hrr hp
      have haa : ∃ a, a = if cP = n then some (⟨b, off, none⟩ : Addr) else some ((⟨b, off + n * 7, none⟩ : Addr)) := ⟨_, rfl⟩
      obtain ⟨aa, haa⟩ := haa
      have HAA : Hid ((if cP = n then some (⟨b, off, none⟩ : Addr) else some ((⟨b, off + n * 7, none⟩ : Addr))) = aa) := haa.symm
      clear haa
      refine wp_region_held_drew (S := fun w' => Blk w' w1.heap.size [Value.int .i64 f1, .int .i64 t1, .int .i64 s1, .slice p1 P1.length q1, .int .i64 v1, .slice r1 R1.length k1, .slice l1 K1.length m1, .slice n1 V1.length z1] ∧ Blk w' w.heap.size [Value.int .i64 f, .int .i64 t, .int .i64 s, .slice (some ⟨b, off, none⟩) P.length cP, .int .i64 v, .slice aR R.length cR, .slice aK K.length cK, .slice aV V.length cV] ∧ Below w7.heap.size w7 w') (by kernel_rfl) ⟨HA7.out, HN7.out, (Below.refl _ w7).drew⟩ (fun hHeld => ?_)
      refine take_yes 0 83 (v := ?_) rfl rfl (by kernel_rfl) (by kernel_rfl) (by kernel_rfl) (fun _ _ _ h => h) (by rfl) ?_ hHeld ?_
      rotate_left 1
      · (intro w9 hSw; skip; go_simp; try with_reducible rfl)
      simp only [Act.put, List.setIfInBounds_toArray, List.set_cons_succ, List.set_cons_zero]
      refine take_yes 1 84 (v := ?_) rfl rfl (by kernel_rfl) (by kernel_rfl) (by kernel_rfl) (fun _ _ _ h => h) (by rfl) ?_ hHeld ?_
      rotate_left 1
      · (intro w9 hSw; skip; go_simp; try with_reducible rfl)
      simp only [Act.put, List.setIfInBounds_toArray, List.set_cons_succ, List.set_cons_zero]
      refine take_yes 2 85 (v := ?_) rfl rfl (by kernel_rfl) (by kernel_rfl) (by kernel_rfl) (fun _ _ _ h => h) (by rfl) ?_ hHeld ?_
      rotate_left 1
      · (intro w9 hSw; skip; go_simp; try with_reducible rfl)
      simp only [Act.put, List.setIfInBounds_toArray, List.set_cons_succ, List.set_cons_zero]
      refine take_yes 3 86 (v := ?_) rfl rfl (by kernel_rfl) (by kernel_rfl) (by kernel_rfl) (fun _ _ _ h => h) (by rfl) ?_ hHeld ?_
      rotate_left 1
      · (intro w9 hSw; skip; go_simp; try with_reducible rfl)
      simp only [Act.put, List.setIfInBounds_toArray, List.set_cons_succ, List.set_cons_zero]
      refine take_yes 4 87 (v := ?_) rfl rfl (by kernel_rfl) (by kernel_rfl) (by kernel_rfl) (fun _ _ _ h => h) (by rfl) ?_ hHeld ?_
      rotate_left 1
      · (intro w9 hSw; have q3 := hSw.1.at 3 rfl; go_simp; try with_reducible rfl)
      simp only [Act.put, List.setIfInBounds_toArray, List.set_cons_succ, List.set_cons_zero]
      refine take_yes 5 88 (v := ?_) rfl rfl (by kernel_rfl) (by kernel_rfl) (by kernel_rfl) (fun _ _ _ h => h) (by rfl) ?_ hHeld ?_
      rotate_left 1
      · (intro w9 hSw; skip; go_simp; try with_reducible rfl)
      simp only [Act.put, List.setIfInBounds_toArray, List.set_cons_succ, List.set_cons_zero]
      refine take_yes 6 89 (v := ?_) rfl rfl (by kernel_rfl) (by kernel_rfl) (by kernel_rfl) (fun _ _ _ h => h) (by rfl) ?_ hHeld ?_
      rotate_left 1
      · (intro w9 hSw; have q3 := hSw.2.1.at 3 rfl; go_simp; try with_reducible rfl)
      simp only [Act.put, List.setIfInBounds_toArray, List.set_cons_succ, List.set_cons_zero]
      refine take_yes 7 90 (v := ?_) rfl rfl (by kernel_rfl) (by kernel_rfl) (by kernel_rfl) (fun _ _ _ h => h) (by rfl) ?_ hHeld ?_
      rotate_left 1
      · (intro w9 hSw; skip; go_simp; try with_reducible rfl)
      simp only [Act.put, List.setIfInBounds_toArray, List.set_cons_succ, List.set_cons_zero]
      refine take_yes 8 91 (v := .slice aa (P.length - n) (cP - n)) rfl rfl (by kernel_rfl) (by kernel_rfl) (by kernel_rfl) (fun _ _ _ h => h) (by rfl) ?_ hHeld ?_
      · (intro w9 hSw; go_simp; rw [HAA.out])
      simp only [Act.put, List.setIfInBounds_toArray, List.set_cons_succ, List.set_cons_zero]
      refine wpAnyH_ready (rs := [9]) (by kernel_rfl) (by simp) ?_
      refine AllReadyH.cons rfl (fun KK hKK => ?_) AllReadyH.nil
      go_simp
      refine (HEQ.out _ _ _ hHeld.2.2 ?hsl).mono ?_
      case hsl =>
        rw [← HAA.out]
        split
        · rename_i hcc; exact Or.inl (HLE.out hcc)
        · exact HSL.out _ hHeld.2.2
      rintro e w8 ⟨rfl, hb8⟩
      have hS8 := And.intro (hHeld.1.keep hb8) (And.intro (hHeld.2.1.keep hb8) (hHeld.2.2.trans (hb8.mono hHeld.2.2.size)))
      go_wp2_with fail
      refine hKK.out _ _ hS8 (fun hHeld => ?_)
      clear hKK KK hS8 hb8
      refine take_yes 10 93 (v := ?_) rfl rfl (by kernel_rfl) (by kernel_rfl) (by kernel_rfl) (fun _ _ _ h => h) (by rfl) ?_ hHeld ?_
      rotate_left 1
      · (intro w9 hSw; skip; go_simp; try with_reducible rfl)
      simp only [Act.put, List.setIfInBounds_toArray, List.set_cons_succ, List.set_cons_zero]
      refine take_yes 11 94 (v := ?_) rfl rfl (by kernel_rfl) (by kernel_rfl) (by kernel_rfl) (fun _ _ _ h => h) (by rfl) ?_ hHeld ?_
      rotate_left 1
      · (intro w9 hSw; skip; go_simp; try with_reducible rfl)
      simp only [Act.put, List.setIfInBounds_toArray, List.set_cons_succ, List.set_cons_zero]
      refine wpAnyH_done (by kernel_rfl) ?_ _
      have HR := Lib.hid hHeld.2.2
      clear hHeld
      go_wp2
      go_meet
      case rel => exact ⟨rfl, HR.out⟩
  case rest =>
  obtain ⟨rfl, hb8⟩ := hcut
  rename World => W8
  have HB8 := Lib.hid (HB7.out.trans (hb8.mono HB7.out.size))
  have HM8 := Lib.hid (HM7.out.keep hb8)
  have hN8 := HN7.out.keep hb8
  have x3 := hN8.at 3 rfl
  have hcap := HCAP.out
  have hnl := HNL.out
  have hnc : n ≤ cP := by omega
  have hnc2 : (n : Int) ≤ (cP : Int) := by omega
  clear hb8 hN8 HN7 HM7 HB7 HA7 HI7 HOK HNB HPE HDR HL1
  clear a0 a1 a2 a3 a4 a5 a6 a7 b0 b1 b2 b3 b4 b5 b6 b7 g1 g2 g3 g4 g5
  go_wp2
  clear x3
  go_loopw [100] (fun i W => ∃ k : Nat, k ≤ n ∧ i = .int .i64 k ∧ Below W8.heap.size W8 W) (fun i _ => n - (intOf i).toNat)
  case atStart => exact ⟨0, Nat.zero_le _, rfl, Below.refl _ _⟩
  case round =>
    obtain ⟨k, hk, rfl, hb⟩ := hrel
    have HBr := Lib.hid (HB8.out.trans (hb.mono HB8.out.size))
    have HBW := Lib.hid hb
    by_cases hlt : k < n
    case neg =>
      have hlt' : ¬ ((k : Int) < (n : Int)) := by omega
      clear hb
      go_wp2
      go_ret
      exact ⟨rfl, HBr.out⟩
    have hlp : k < P.length := by omega
    obtain ⟨b, off, rfl, hbl, hr⟩ := (HX.out.lp.below HBr.out).at opC_len k hlp
    obtain ⟨g0, g1, g2, g3, g4, g5, g6⟩ := op_cells hr
    have hsq := HTK.out P[k] (List.mem_take_iff_getElem.2 ⟨k, by omega, rfl⟩)
    have mm := (HM8.out.keep hb).at 3 rfl
    have hlt' : (k : Int) < (n : Int) := by omega
    have HLT := Lib.hid hlt
    generalize P[k] = o at *
    obtain ⟨o1, o2, ⟨o3, o4, o5⟩, o6, o7⟩ := o
    simp only at g0 g1 g2 g3 g4 g5 g6 hsq
    have d9 : decide (o7 > y.1.1.2.2.2.1) = false := by simpa using hsq
    have hbx : Below wr.heap.size wr (wr.alloc (Obj.cells #[Value.int IntKind.i64 o1, Value.int IntKind.i64 o2, Value.int IntKind.i64 o3, Value.int IntKind.i64 o4, Value.int IntKind.i64 o5, Value.int IntKind.i64 o6, Value.int IntKind.i64 o7] 32)) := Go.Joins.below_alloc1 wr _
    obtain ⟨Wc, hWc, hNc, hbc, -⟩ := laid1 wr [Value.int IntKind.i64 o1, Value.int IntKind.i64 o2, Value.int IntKind.i64 o3, Value.int IntKind.i64 o4, Value.int IntKind.i64 o5, Value.int IntKind.i64 o6, Value.int IntKind.i64 o7] 32
    have n6 := hNc.at 6 rfl
    have mq := (HM8.out.keep (hb.trans (hbc.mono hb.size))).at 3 rfl
    have HBf := Lib.hid (hb.trans (hbc.mono hb.size))
    clear hb hbc hNc hsq hbx mm hr hlp
    go_wp2
    go_roundw
    case rel => exact ⟨k + 1, HLT.out, by go_num, HBf.out⟩
    case measure => have := HLT.out; simp [intOf]; omega
end Go.Proofs.YtijjiccgpobjmaeGreat

/- ClientKeeps returns true for every client, every number and every mail: a client stays one, whatever it hears, never goes back, hears twice what it hears once, and forgets nothing that is not accepted. Its condition: no list of an argument weighs more than the reach that every row has (the sized builder). -/
namespace Go.Proofs.YtijjiccgpobjmaeGreat.clientKeeps
open Go.ChangeShapes Go.WideShapes Go.ChangeAt Go.RowKit
set_option linter.unusedVariables false

theorem own : ownKnob Tryz.prog.godebug = none := by kernel_rfl
theorem laidOut : laidOutB Tryz.prog = true := by kernel_rfl

set_option maxHeartbeats 2000000 in
set_option maxRecDepth 100000 in
theorem lifted (os : Os) (started : os.Started) (H : Type) (enc : TypeId × Value → H) :
    ReturnsInHanded {} Tryz.checked os 5 .any (Rows.clientKeepsSpec.pre6 enc Tryz.prog Tryz.f5 Rows.clientKeepsRow.domain false) (Rows.clientKeepsSpec.post enc Tryz.prog Tryz.f5 false true false false) := by
  refine returnsInHanded_of_change_sized (C := Tryz.checked) own started (by kernel_rfl) Tryz.func5
    (ChangeSpec.witness6 (enc := enc) (C := Tryz.checked) false ⟨#[], #[.agg #[.int .i64 0, .int .i64 0, .int .i64 0, .slice none 0 0, .int .i64 0, .slice none 0 0, .slice none 0 0, .slice none 0 0], .int .i64 0, .agg #[.int .i64 0, .int .i64 0, .int .i64 0, .int .i64 0, .int .i64 0, .int .i64 0, .int .i64 0, .int .i64 0, .int .i64 0, .int .i64 0, .int .i64 0, .int .i64 0, .int .i64 0, .int .i64 0, .slice none 0 0, .slice none 0 0, .slice none 0 0, .slice none 0 0, .slice none 0 0, .slice none 0 0, .slice none 0 0]], []⟩ 8 (by kernel_rfl) (by kernel_rfl) (by kernel_rfl) (by kernel_rfl)) ?_
  intro W base args ds gs before hval0 hW hcnd hsz0 _
  have hval : ∀ (j : Nat) t v, Tryz.f5.params[j]? = some t → args[j]? = some v → Value.okWide Tryz.prog W .any base t v := hval0
  have hW' := hW
  obtain ⟨p, q, hA0, hV, rfl, hfz, hnd⟩ := hW
  have hA : DataW.TrodAll enc Tryz.prog W 0 (fun _ => true) true Tryz.f5.params.toList args.toList ds p := hA0
  have hsz : (DataW.weightsEach Tryz.prog (Tryz.f5.params.toList ++ Rows.clientKeepsSpec.plain.varTypes Tryz.prog) (ds ++ gs)).all (· ≤ reachBytes) = true := hsz0
  rw [Tryz.params5] at hA hval hsz
  obtain ⟨v0, vs0, d0, ds0, p0, q0, hargs, rfl, rfl, h0, r0⟩ := trodAll_cons hA
  obtain ⟨v1, vs1, d1, ds1, p1, q1, rfl, rfl, rfl, h1, r1⟩ := trodAll_cons r0
  obtain ⟨v2, vs2, d2, ds2, p2, q2, rfl, rfl, rfl, h2, r2⟩ := trodAll_cons r1
  obtain ⟨rfl, rfl, rfl⟩ := trodAll_nil r2
  obtain rfl : args = #[v0, v1, v2] := by cases args; simp_all
  obtain ⟨rfl, rfl⟩ := trodVars_none hV
  have k0 := h0
  have lt0 : ∀ x ∈ p0, x.block < W.heap.size := by obtain ⟨m, hm⟩ := k0; exact DataW.trod_lt m _ _ _ hm
  obtain ⟨x0, rfl, P0, N0, C0⟩ := open_client (hval 0 28 v0 rfl rfl) h0 (sized_at hsz (j := 0) rfl rfl)
  obtain ⟨x1, rfl, rfl, rfl, g1⟩ := open_int Tryz.underlying3 (hval 1 3 v1 rfl rfl) h1
  have k2 := h2
  have lt2 : ∀ x ∈ p2, x.block < W.heap.size := by obtain ⟨m, hm⟩ := k2; exact DataW.trod_lt m _ _ _ hm
  obtain ⟨x2, rfl, P2, N2⟩ := open_mailN (hval 2 52 v2 rfl rfl) h2 (sized_at hsz (j := 2) rfl rfl)
  clear hA0 hval0
  refine (clientKeeps_any W x0 x1 x2 P0 C0 P2 N2).mono fun e W' ⟨he, bel⟩ => ?_
  subst he
  exact ⟨_, rfl, _, _, _, [], _, [], hW', trodAll_mk1 (shut_bool Tryz.underlying4 _), (trodAll_cons_mk (Below.trod laidOut (by kernel_rfl) (of_decide_eq_true (by kernel_rfl)) k0 bel lt0) (trodAll_cons_mk (shut_int Tryz.underlying3 g1) (trodAll_cons_mk (Below.trod laidOut (by kernel_rfl) (of_decide_eq_true (by kernel_rfl)) k2 bel lt2) trodAll_mk0))), rfl, bel.frame _, fun h => by cases h⟩

theorem over : Rows.clientKeepsRow.holds Tryz.pinned (OpenSpec.ofChange Rows.clientKeepsSpec) :=
  OpenClaim.holds_of_wide 5 Tryz.f5 rfl rfl rfl rfl rfl rfl rfl ⟨rfl, rfl, rfl, rfl, rfl⟩ rfl rfl rfl rfl rfl (by kernel_rfl) Tryz.func5 (by kernel_rfl)
    (of_decide_eq_true (by kernel_rfl)) (by unfold Func.isWrapper; first | (rw [if_pos (by decide +kernel)]; kernel_rfl) | (rw [if_neg (by decide +kernel)]; exact ⟨rfl, rfl⟩))
    (fun os started H enc _ => lifted os started H enc)

/-- The statement. -/
theorem proved : Rows.ClientKeepsSaid :=
  over
#print axioms proved
end Go.Proofs.YtijjiccgpobjmaeGreat.clientKeeps

