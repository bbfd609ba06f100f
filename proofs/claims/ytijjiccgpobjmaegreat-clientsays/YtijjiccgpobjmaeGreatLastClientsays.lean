/- a client's Move, Shows, Begin, Check and Same answer as the reference does -/
import Derived.Test.YtijjiccgpobjmaeGreatP19
import Derived.Test.YtijjiccgpobjmaeGreatP25
import Derived.Test.YtijjiccgpobjmaeGreatP27
import Derived.Test.YtijjiccgpobjmaeGreatP26
/- orangerylaw.ClientSays: the walk. -/
namespace Go.Proofs.YtijjiccgpobjmaeGreat
open Go.ChangeShapes Go.WideShapes Go.ChangeAt Go.RowKit
open Orangery (Pl Mv Vw Cl clE movE movC movP movO showT shown check find underB doT begE begC)

set_option maxHeartbeats 16000000 in
set_option maxRecDepth 100000 in
theorem clientSays_any (w : World) (x : Cm) (me n p nm : Int) (y : Cm) (hx : ClIn w x) (hy : ClIn w y) (hnp : x.2.1.1 = none → x.2.1.2 = 0) :
    Calls Tryz.prog 3 #[x.val, .int .i64 me, .int .i64 n, .int .i64 p, .int .i64 nm, y.val] w fun e w' => e = .returned (.bool true) ∧ Below w.heap.size w w' := by
  have CM := Lib.hid (fun W h => cmove_any W x me n p nm h)
  have CS := Lib.hid (fun W h => cshown_any W x me h)
  have RM := Lib.hid (fun W h => rmoved_any W x me n p nm h hnp)
  have RS := Lib.hid (fun W h => rshown_any W x me h)
  clear hnp
  obtain ⟨⟨⟨f1, t1, s1, v1⟩, P1, R1, K1, V1⟩, ⟨p1, q1⟩, ⟨r1, k1⟩, ⟨l1, m1⟩, ⟨n1, z1⟩⟩ := x
  obtain ⟨⟨⟨f2, t2, s2, v2⟩, P2, R2, K2, V2⟩, ⟨p2, q2⟩, ⟨r2, k2⟩, ⟨l2, m2⟩, ⟨n2, z2⟩⟩ := y
  show Calls Tryz.prog _ #[.agg #[Value.int .i64 f1, .int .i64 t1, .int .i64 s1, .slice p1 P1.length q1, .int .i64 v1, .slice r1 R1.length k1, .slice l1 K1.length m1, .slice n1 V1.length z1], .int .i64 me, .int .i64 n, .int .i64 p, .int .i64 nm, .agg #[Value.int .i64 f2, .int .i64 t2, .int .i64 s2, .slice p2 P2.length q2, .int .i64 v2, .slice r2 R2.length k2, .slice l2 K2.length m2, .slice n2 V2.length z2]] w _
  obtain ⟨W0, hW, hN, hD, hB, -⟩ := laid2 w [Value.int .i64 f1, .int .i64 t1, .int .i64 s1, .slice p1 P1.length q1, .int .i64 v1, .slice r1 R1.length k1, .slice l1 K1.length m1, .slice n1 V1.length z1] 28 [Value.int .i64 f2, .int .i64 t2, .int .i64 s2, .slice p2 P2.length q2, .int .i64 v2, .slice r2 R2.length k2, .slice l2 K2.length m2, .slice n2 V2.length z2] 28
  have HX := Lib.hid hx
  have HY := Lib.hid hy
  have HB := Lib.hid hB
  have HN := Lib.hid hN
  have HD := Lib.hid hD
  have HRG := Lib.hid hN.range
  have C2 := Lib.hid (CM.out W0 (HX.out.keep hB))
  clear hx hy hB hN hD CM
  go_enter Tryz.func3, Tryz.ntmps3
  go_wp2_with (first | (refine wpList_load_mid rfl 28 _ rfl w.heap.size 0 rfl [Value.int .i64 f1, .int .i64 t1, .int .i64 s1, .slice p1 P1.length q1, .int .i64 v1, .slice r1 R1.length k1, .slice l1 K1.length m1, .slice n1 V1.length z1] _ HRG.out Tryz.underlying28 rfl sizeClient ?_) | fail)
  clear hW
  refine C2.out.mono ?_
  rintro e w5 ⟨⟨⟨⟨f3, t3, s3, v3⟩, P3, R3, K3, V3⟩, ⟨p3, q3⟩, ⟨r3, k3⟩, ⟨l3, m3⟩, ⟨n3, z3⟩⟩, rfl, hz3, hi3, -, hb5⟩
  obtain ⟨E3, hE3⟩ : ∃ E, E = movE ((f1, t1, s1, v1), P1, R1, K1, V1) me n p nm := ⟨_, rfl⟩
  obtain ⟨⟨o1, o2, ⟨o3, o4, o5⟩, o6, o7⟩, ho⟩ : ∃ o : Mv, o = movP ((f1, t1, s1, v1), P1, R1, K1, V1) me n p nm := ⟨_, rfl⟩
  try simp only at hz3 ⊢
  rw [← hE3, ← ho]
  rw [show Cm.val (((f3, t3, s3, v3), P3, R3, K3, V3), (p3, q3), (r3, k3), (l3, m3), (n3, z3)) = Value.agg #[Value.int .i64 f3, .int .i64 t3, .int .i64 s3, .slice p3 P3.length q3, .int .i64 v3, .slice r3 R3.length k3, .slice l3 K3.length m3, .slice n3 V3.length z3] from rfl]
  have HE3 := Lib.hid hE3
  have HO3 := Lib.hid ho
  clear hE3 ho
  obtain ⟨V6, hV6, hA0, hP0, hb0, -⟩ := laid2 w5 [Value.int .i64 0, .int .i64 0, .int .i64 0, .slice none 0 0, .int .i64 0, .slice none 0 0, .slice none 0 0, .slice none 0 0] 28 [Value.int .i64 0, .int .i64 0, .int .i64 0, .int .i64 0, .int .i64 0, .int .i64 0, .int .i64 0] 32
  have hA6 : Blk ((V6.setCells w5.heap.size 0 (#[Value.int .i64 f3, .int .i64 t3, .int .i64 s3, .slice p3 P3.length q3, .int .i64 v3, .slice r3 R3.length k3, .slice l3 K3.length m3, .slice n3 V3.length z3] : Array Value).toList).setCells (w5.heap.size + 1) 0 (#[Value.int .i64 o1, Value.int .i64 o2, Value.int .i64 o3, Value.int .i64 o4, Value.int .i64 o5, Value.int .i64 o6, Value.int .i64 o7] : Array Value).toList) w5.heap.size [Value.int .i64 f3, .int .i64 t3, .int .i64 s3, .slice p3 P3.length q3, .int .i64 v3, .slice r3 R3.length k3, .slice l3 K3.length m3, .slice n3 V3.length z3] := (hA0.sets [Value.int .i64 f3, .int .i64 t3, .int .i64 s3, .slice p3 P3.length q3, .int .i64 v3, .slice r3 R3.length k3, .slice l3 K3.length m3, .slice n3 V3.length z3] rfl).others (by omega) [Value.int .i64 o1, Value.int .i64 o2, Value.int .i64 o3, Value.int .i64 o4, Value.int .i64 o5, Value.int .i64 o6, Value.int .i64 o7] 0
  have hP6' : Blk (V6.setCells w5.heap.size 0 (#[Value.int .i64 f3, .int .i64 t3, .int .i64 s3, .slice p3 P3.length q3, .int .i64 v3, .slice r3 R3.length k3, .slice l3 K3.length m3, .slice n3 V3.length z3] : Array Value).toList) (w5.heap.size + 1) [Value.int .i64 0, .int .i64 0, .int .i64 0, .int .i64 0, .int .i64 0, .int .i64 0, .int .i64 0] := hP0.others (by omega) [Value.int .i64 f3, .int .i64 t3, .int .i64 s3, .slice p3 P3.length q3, .int .i64 v3, .slice r3 R3.length k3, .slice l3 K3.length m3, .slice n3 V3.length z3] 0
  have hP6 : Blk ((V6.setCells w5.heap.size 0 (#[Value.int .i64 f3, .int .i64 t3, .int .i64 s3, .slice p3 P3.length q3, .int .i64 v3, .slice r3 R3.length k3, .slice l3 K3.length m3, .slice n3 V3.length z3] : Array Value).toList).setCells (w5.heap.size + 1) 0 (#[Value.int .i64 o1, Value.int .i64 o2, Value.int .i64 o3, Value.int .i64 o4, Value.int .i64 o5, Value.int .i64 o6, Value.int .i64 o7] : Array Value).toList) (w5.heap.size + 1) [Value.int .i64 o1, Value.int .i64 o2, Value.int .i64 o3, Value.int .i64 o4, Value.int .i64 o5, Value.int .i64 o6, Value.int .i64 o7] := hP6'.sets [Value.int .i64 o1, Value.int .i64 o2, Value.int .i64 o3, Value.int .i64 o4, Value.int .i64 o5, Value.int .i64 o6, Value.int .i64 o7] rfl
  have hb6 : Below w5.heap.size w5 ((V6.setCells w5.heap.size 0 (#[Value.int .i64 f3, .int .i64 t3, .int .i64 s3, .slice p3 P3.length q3, .int .i64 v3, .slice r3 R3.length k3, .slice l3 K3.length m3, .slice n3 V3.length z3] : Array Value).toList).setCells (w5.heap.size + 1) 0 (#[Value.int .i64 o1, Value.int .i64 o2, Value.int .i64 o3, Value.int .i64 o4, Value.int .i64 o5, Value.int .i64 o6, Value.int .i64 o7] : Array Value).toList) := below_sets (below_sets hb0 w5.heap.size (Nat.le_refl _) [Value.int .i64 f3, .int .i64 t3, .int .i64 s3, .slice p3 P3.length q3, .int .i64 v3, .slice r3 R3.length k3, .slice l3 K3.length m3, .slice n3 V3.length z3] 0) (w5.heap.size + 1) (by omega) [Value.int .i64 o1, Value.int .i64 o2, Value.int .i64 o3, Value.int .i64 o4, Value.int .i64 o5, Value.int .i64 o6, Value.int .i64 o7] 0
  have HT1 := Lib.hid hA0.there
  have HT2 := Lib.hid hP6'.there
  have OC1 := Lib.hid (all_oneCell_toArray (cs := [Value.int .i64 f3, .int .i64 t3, .int .i64 s3, .slice p3 P3.length q3, .int .i64 v3, .slice r3 R3.length k3, .slice l3 K3.length m3, .slice n3 V3.length z3]) (by intro u hu; simp at hu; rcases hu with rfl | rfl | rfl | rfl | rfl | rfl | rfl | rfl <;> rfl))
  have OC2 := Lib.hid (all_oneCell_toArray (cs := [Value.int .i64 o1, Value.int .i64 o2, Value.int .i64 o3, Value.int .i64 o4, Value.int .i64 o5, Value.int .i64 o6, Value.int .i64 o7]) (opC_one (o1, o2, (o3, o4, o5), o6, o7)))
  clear hA0 hP0 hb0 hP6'
  have hbw := hb5.trans (hb6.mono hb5.size)
  have HN6 := Lib.hid (HN.out.keep hbw)
  have HD6 := Lib.hid (HD.out.keep hbw)
  have HB6 := Lib.hid (HB.out.trans (hbw.mono HB.out.size))
  have HA6 := Lib.hid hA6
  have HP6 := Lib.hid hP6
  have HI6 := Lib.hid (hi3.keep hb6)
  have HZ3 := Lib.hid hz3
  have HRG6 := Lib.hid HN6.out.range
  have S6 := Lib.hid (CS.out _ (HX.out.keep HB6.out))
  clear hA6 hP6 hb5 hb6 hbw hi3 hz3 HN HD HB CS C2 HRG
  go_wp2_with (first | ((with_reducible refine at_store 28 ?_); refine wpList_store_mid rfl 28 (Operand.tmp 13) (Operand.tmp 34) rfl w5.heap.size 0 #[Value.int .i64 f3, .int .i64 t3, .int .i64 s3, .slice p3 P3.length q3, .int .i64 v3, .slice r3 R3.length k3, .slice l3 K3.length m3, .slice n3 V3.length z3] rfl rfl HT1.out sizeClient OC1.out ?_) | ((with_reducible refine at_store 32 ?_); refine wpList_store_mid rfl 32 (Operand.tmp 14) (Operand.tmp 35) rfl (w5.heap.size + 1) 0 #[Value.int .i64 o1, Value.int .i64 o2, Value.int .i64 o3, Value.int .i64 o4, Value.int .i64 o5, Value.int .i64 o6, Value.int .i64 o7] rfl rfl HT2.out sizeOp OC2.out ?_) | (with_reducible refine at_loadU 28 ?_; refine Shut.out ?_) | fail)
  show wpList _ _ _ _ _ _
  generalize ((V6.setCells w5.heap.size 0 (#[Value.int .i64 f3, .int .i64 t3, .int .i64 s3, .slice p3 P3.length q3, .int .i64 v3, .slice r3 R3.length k3, .slice l3 K3.length m3, .slice n3 V3.length z3] : Array Value).toList).setCells (w5.heap.size + 1) 0 (#[Value.int .i64 o1, Value.int .i64 o2, Value.int .i64 o3, Value.int .i64 o4, Value.int .i64 o5, Value.int .i64 o6, Value.int .i64 o7] : Array Value).toList) = W6 at *
  clear hV6 HT1 HT2 OC1 OC2
  go_wp2_with (first | (refine wpList_load_mid rfl 28 _ rfl w.heap.size 0 rfl [Value.int .i64 f1, .int .i64 t1, .int .i64 s1, .slice p1 P1.length q1, .int .i64 v1, .slice r1 R1.length k1, .slice l1 K1.length m1, .slice n1 V1.length z1] _ HRG6.out Tryz.underlying28 rfl sizeClient ?_) | fail)
  clear HRG6
  refine S6.out.mono ?_
  rintro e w7 ⟨aS, cS, rfl, hS, hb⟩
  obtain ⟨T, hT⟩ : ∃ T, T = showT ((f1, t1, s1, v1), P1, R1, K1, V1) me := ⟨_, rfl⟩
  obtain ⟨E, hE⟩ : ∃ E, E = clE ((f1, t1, s1, v1), P1, R1, K1, V1) me := ⟨_, rfl⟩
  have HT := Lib.hid hT
  have HE := Lib.hid hE
  clear hT hE
  simp only at hS ⊢
  rw [← HT.out] at hS ⊢
  rw [← HE.out]
  obtain ⟨W8, hW, hQ, hb', -⟩ := laid1 w7 [Value.slice aS T.length cS] 37
  have hbw := hb.trans (hb'.mono hb.size)
  have HN8 := Lib.hid (HN6.out.keep hbw)
  have HD8 := Lib.hid (HD6.out.keep hbw)
  have HB8 := Lib.hid (HB6.out.trans (hbw.mono HB6.out.size))
  have HA8 := Lib.hid (HA6.out.keep hbw)
  have HP8 := Lib.hid (HP6.out.keep hbw)
  have HI8 := Lib.hid (HI6.out.keep hbw)
  have HQS8 := Lib.hid hQ
  have HSS8 := Lib.hid (hS.below hb')
  clear HN6 HD6 HB6 HA6 HP6 HI6
  clear hS hb hb' hbw hQ S6
  go_wp2_with fail
  clear hW
  refine (cbegin_any W8 n p).mono ?_
  rintro e w9 ⟨rfl, hb⟩
  obtain ⟨b, hbb⟩ : ∃ b, b = begM n p := ⟨_, rfl⟩
  obtain ⟨G, hG⟩ : ∃ G, G = begE n p := ⟨_, rfl⟩
  have HBE := Lib.hid hG
  have hib : ∀ W, ClIn W b := fun W => by rw [hbb]; exact begM_in W n p
  have HIB := Lib.hid hib
  rw [← hbb, ← hG]
  have HBM := Lib.hid hbb
  clear hbb hG hib
  obtain ⟨⟨⟨f4, t4, s4, v4⟩, P4, R4, K4, V4⟩, ⟨p4, q4⟩, ⟨r4, k4⟩, ⟨l4, m4⟩, ⟨n4, z4⟩⟩ := b
  rw [show Cm.val (((f4, t4, s4, v4), P4, R4, K4, V4), (p4, q4), (r4, k4), (l4, m4), (n4, z4)) = Value.agg #[Value.int .i64 f4, .int .i64 t4, .int .i64 s4, .slice p4 P4.length q4, .int .i64 v4, .slice r4 R4.length k4, .slice l4 K4.length m4, .slice n4 V4.length z4] from rfl]
  obtain ⟨W10, hW, hQ, hb', -⟩ := laid1 w9 [Value.int .i64 f4, .int .i64 t4, .int .i64 s4, .slice p4 P4.length q4, .int .i64 v4, .slice r4 R4.length k4, .slice l4 K4.length m4, .slice n4 V4.length z4] 28
  have hbw := hb.trans (hb'.mono hb.size)
  have HN10 := Lib.hid (HN8.out.keep hbw)
  have HD10 := Lib.hid (HD8.out.keep hbw)
  have HB10 := Lib.hid (HB8.out.trans (hbw.mono HB8.out.size))
  have HA10 := Lib.hid (HA8.out.keep hbw)
  have HP10 := Lib.hid (HP8.out.keep hbw)
  have HI10 := Lib.hid (HI8.out.keep hbw)
  have HQS10 := Lib.hid (HQS8.out.keep hbw)
  have HSS10 := Lib.hid (HSS8.out.below hbw)
  have HQB10 := Lib.hid hQ
  clear HN8 HD8 HB8 HA8 HP8 HI8 HQS8 HSS8
  clear hb hb' hbw hQ
  have HRG := Lib.hid HN10.out.range
  have R10 := Lib.hid (RM.out _ (HX.out.keep HB10.out))
  clear RM
  go_wp2_with (first | (refine wpList_load_mid rfl 28 _ rfl w.heap.size 0 rfl [Value.int .i64 f1, .int .i64 t1, .int .i64 s1, .slice p1 P1.length q1, .int .i64 v1, .slice r1 R1.length k1, .slice l1 K1.length m1, .slice n1 V1.length z1] _ HRG.out Tryz.underlying28 rfl sizeClient ?_) | fail)
  clear hW HRG
  refine R10.out.mono ?_
  rintro e w11 ⟨⟨⟨⟨f5, t5, s5, v5⟩, P5, R5, K5, V5⟩, ⟨p5, q5⟩, ⟨r5, k5⟩, ⟨l5, m5⟩, ⟨n5, z5⟩⟩, rfl, hz5, hi5, -, hb5⟩
  try simp only at hz5 ⊢
  rw [← HE3.out, ← HO3.out]
  rw [show Cm.val (((f5, t5, s5, v5), P5, R5, K5, V5), (p5, q5), (r5, k5), (l5, m5), (n5, z5)) = Value.agg #[Value.int .i64 f5, .int .i64 t5, .int .i64 s5, .slice p5 P5.length q5, .int .i64 v5, .slice r5 R5.length k5, .slice l5 K5.length m5, .slice n5 V5.length z5] from rfl]
  obtain ⟨V6, hV6, hA0, hP0, hb0, -⟩ := laid2 w11 [Value.int .i64 0, .int .i64 0, .int .i64 0, .slice none 0 0, .int .i64 0, .slice none 0 0, .slice none 0 0, .slice none 0 0] 28 [Value.int .i64 0, .int .i64 0, .int .i64 0, .int .i64 0, .int .i64 0, .int .i64 0, .int .i64 0] 32
  have hA6 : Blk ((V6.setCells w11.heap.size 0 (#[Value.int .i64 f5, .int .i64 t5, .int .i64 s5, .slice p5 P5.length q5, .int .i64 v5, .slice r5 R5.length k5, .slice l5 K5.length m5, .slice n5 V5.length z5] : Array Value).toList).setCells (w11.heap.size + 1) 0 (#[Value.int .i64 o1, Value.int .i64 o2, Value.int .i64 o3, Value.int .i64 o4, Value.int .i64 o5, Value.int .i64 o6, Value.int .i64 o7] : Array Value).toList) w11.heap.size [Value.int .i64 f5, .int .i64 t5, .int .i64 s5, .slice p5 P5.length q5, .int .i64 v5, .slice r5 R5.length k5, .slice l5 K5.length m5, .slice n5 V5.length z5] := (hA0.sets [Value.int .i64 f5, .int .i64 t5, .int .i64 s5, .slice p5 P5.length q5, .int .i64 v5, .slice r5 R5.length k5, .slice l5 K5.length m5, .slice n5 V5.length z5] rfl).others (by omega) [Value.int .i64 o1, Value.int .i64 o2, Value.int .i64 o3, Value.int .i64 o4, Value.int .i64 o5, Value.int .i64 o6, Value.int .i64 o7] 0
  have hP6' : Blk (V6.setCells w11.heap.size 0 (#[Value.int .i64 f5, .int .i64 t5, .int .i64 s5, .slice p5 P5.length q5, .int .i64 v5, .slice r5 R5.length k5, .slice l5 K5.length m5, .slice n5 V5.length z5] : Array Value).toList) (w11.heap.size + 1) [Value.int .i64 0, .int .i64 0, .int .i64 0, .int .i64 0, .int .i64 0, .int .i64 0, .int .i64 0] := hP0.others (by omega) [Value.int .i64 f5, .int .i64 t5, .int .i64 s5, .slice p5 P5.length q5, .int .i64 v5, .slice r5 R5.length k5, .slice l5 K5.length m5, .slice n5 V5.length z5] 0
  have hP6 : Blk ((V6.setCells w11.heap.size 0 (#[Value.int .i64 f5, .int .i64 t5, .int .i64 s5, .slice p5 P5.length q5, .int .i64 v5, .slice r5 R5.length k5, .slice l5 K5.length m5, .slice n5 V5.length z5] : Array Value).toList).setCells (w11.heap.size + 1) 0 (#[Value.int .i64 o1, Value.int .i64 o2, Value.int .i64 o3, Value.int .i64 o4, Value.int .i64 o5, Value.int .i64 o6, Value.int .i64 o7] : Array Value).toList) (w11.heap.size + 1) [Value.int .i64 o1, Value.int .i64 o2, Value.int .i64 o3, Value.int .i64 o4, Value.int .i64 o5, Value.int .i64 o6, Value.int .i64 o7] := hP6'.sets [Value.int .i64 o1, Value.int .i64 o2, Value.int .i64 o3, Value.int .i64 o4, Value.int .i64 o5, Value.int .i64 o6, Value.int .i64 o7] rfl
  have hb6 : Below w11.heap.size w11 ((V6.setCells w11.heap.size 0 (#[Value.int .i64 f5, .int .i64 t5, .int .i64 s5, .slice p5 P5.length q5, .int .i64 v5, .slice r5 R5.length k5, .slice l5 K5.length m5, .slice n5 V5.length z5] : Array Value).toList).setCells (w11.heap.size + 1) 0 (#[Value.int .i64 o1, Value.int .i64 o2, Value.int .i64 o3, Value.int .i64 o4, Value.int .i64 o5, Value.int .i64 o6, Value.int .i64 o7] : Array Value).toList) := below_sets (below_sets hb0 w11.heap.size (Nat.le_refl _) [Value.int .i64 f5, .int .i64 t5, .int .i64 s5, .slice p5 P5.length q5, .int .i64 v5, .slice r5 R5.length k5, .slice l5 K5.length m5, .slice n5 V5.length z5] 0) (w11.heap.size + 1) (by omega) [Value.int .i64 o1, Value.int .i64 o2, Value.int .i64 o3, Value.int .i64 o4, Value.int .i64 o5, Value.int .i64 o6, Value.int .i64 o7] 0
  have HT1 := Lib.hid hA0.there
  have HT2 := Lib.hid hP6'.there
  have OC1 := Lib.hid (all_oneCell_toArray (cs := [Value.int .i64 f5, .int .i64 t5, .int .i64 s5, .slice p5 P5.length q5, .int .i64 v5, .slice r5 R5.length k5, .slice l5 K5.length m5, .slice n5 V5.length z5]) (by intro u hu; simp at hu; rcases hu with rfl | rfl | rfl | rfl | rfl | rfl | rfl | rfl <;> rfl))
  have OC2 := Lib.hid (all_oneCell_toArray (cs := [Value.int .i64 o1, Value.int .i64 o2, Value.int .i64 o3, Value.int .i64 o4, Value.int .i64 o5, Value.int .i64 o6, Value.int .i64 o7]) (opC_one (o1, o2, (o3, o4, o5), o6, o7)))
  clear hA0 hP0 hb0 hP6'
  have hbw := hb5.trans (hb6.mono hb5.size)
  have HN12 := Lib.hid (HN10.out.keep hbw)
  have HD12 := Lib.hid (HD10.out.keep hbw)
  have HB12 := Lib.hid (HB10.out.trans (hbw.mono HB10.out.size))
  have HA12 := Lib.hid (HA10.out.keep hbw)
  have HP12 := Lib.hid (HP10.out.keep hbw)
  have HI12 := Lib.hid (HI10.out.keep hbw)
  have HQS12 := Lib.hid (HQS10.out.keep hbw)
  have HSS12 := Lib.hid (HSS10.out.below hbw)
  have HQB12 := Lib.hid (HQB10.out.keep hbw)
  have HU12 := Lib.hid hA6
  have HV12 := Lib.hid hP6
  have HJ12 := Lib.hid (hi5.keep hb6)
  have HZ5 := Lib.hid hz5
  clear HN10 HD10 HB10 HA10 HP10 HI10 HQS10 HSS10 HQB10
  clear hA6 hP6 hb5 hb6 hbw hi5 hz5 R10
  go_wp2_with (first | ((with_reducible refine at_store 28 ?_); refine wpList_store_mid rfl 28 (Operand.tmp 20) (Operand.tmp 56) rfl w11.heap.size 0 #[Value.int .i64 f5, .int .i64 t5, .int .i64 s5, .slice p5 P5.length q5, .int .i64 v5, .slice r5 R5.length k5, .slice l5 K5.length m5, .slice n5 V5.length z5] rfl rfl HT1.out sizeClient OC1.out ?_) | ((with_reducible refine at_store 32 ?_); refine wpList_store_mid rfl 32 (Operand.tmp 21) (Operand.tmp 57) rfl (w11.heap.size + 1) 0 #[Value.int .i64 o1, Value.int .i64 o2, Value.int .i64 o3, Value.int .i64 o4, Value.int .i64 o5, Value.int .i64 o6, Value.int .i64 o7] rfl rfl HT2.out sizeOp OC2.out ?_) | (with_reducible refine at_loadU 28 ?_; refine Shut.out ?_) | fail)
  show wpList _ _ _ _ _ _
  generalize ((V6.setCells w11.heap.size 0 (#[Value.int .i64 f5, .int .i64 t5, .int .i64 s5, .slice p5 P5.length q5, .int .i64 v5, .slice r5 R5.length k5, .slice l5 K5.length m5, .slice n5 V5.length z5] : Array Value).toList).setCells (w11.heap.size + 1) 0 (#[Value.int .i64 o1, Value.int .i64 o2, Value.int .i64 o3, Value.int .i64 o4, Value.int .i64 o5, Value.int .i64 o6, Value.int .i64 o7] : Array Value).toList) = W12 at *
  clear hV6 HT1 HT2 OC1 OC2
  have HRG := Lib.hid HN12.out.range
  have R12 := Lib.hid (RS.out _ (HX.out.keep HB12.out))
  clear RS
  go_wp2_with (first | (refine wpList_load_mid rfl 28 _ rfl w.heap.size 0 rfl [Value.int .i64 f1, .int .i64 t1, .int .i64 s1, .slice p1 P1.length q1, .int .i64 v1, .slice r1 R1.length k1, .slice l1 K1.length m1, .slice n1 V1.length z1] _ HRG.out Tryz.underlying28 rfl sizeClient ?_) | fail)
  clear HRG
  refine R12.out.mono ?_
  rintro e w13 ⟨aT, cT, rfl, hS, hb⟩
  simp only at hS ⊢
  rw [← HT.out] at hS ⊢
  rw [← HE.out]
  obtain ⟨W14, hW, hQ, hb', -⟩ := laid1 w13 [Value.slice aT T.length cT] 37
  have hbw := hb.trans (hb'.mono hb.size)
  have HN14 := Lib.hid (HN12.out.keep hbw)
  have HD14 := Lib.hid (HD12.out.keep hbw)
  have HB14 := Lib.hid (HB12.out.trans (hbw.mono HB12.out.size))
  have HA14 := Lib.hid (HA12.out.keep hbw)
  have HP14 := Lib.hid (HP12.out.keep hbw)
  have HI14 := Lib.hid (HI12.out.keep hbw)
  have HQS14 := Lib.hid (HQS12.out.keep hbw)
  have HSS14 := Lib.hid (HSS12.out.below hbw)
  have HQB14 := Lib.hid (HQB12.out.keep hbw)
  have HU14 := Lib.hid (HU12.out.keep hbw)
  have HV14 := Lib.hid (HV12.out.keep hbw)
  have HJ14 := Lib.hid (HJ12.out.keep hbw)
  have HQT14 := Lib.hid hQ
  have HST14 := Lib.hid (hS.below hb')
  clear HN12 HD12 HB12 HA12 HP12 HI12 HQS12 HSS12 HQB12 HU12 HV12 HJ12
  clear hS hb hb' hbw hQ R12
  go_wp2_with fail
  clear hW
  refine (rbegun_any W14 n p).mono ?_
  rintro e w15 ⟨rfl, hb⟩
  rw [← HBM.out, ← HBE.out]
  rw [show Cm.val (((f4, t4, s4, v4), P4, R4, K4, V4), (p4, q4), (r4, k4), (l4, m4), (n4, z4)) = Value.agg #[Value.int .i64 f4, .int .i64 t4, .int .i64 s4, .slice p4 P4.length q4, .int .i64 v4, .slice r4 R4.length k4, .slice l4 K4.length m4, .slice n4 V4.length z4] from rfl]
  obtain ⟨W16, hW, hQ, hb', -⟩ := laid1 w15 [Value.int .i64 f4, .int .i64 t4, .int .i64 s4, .slice p4 P4.length q4, .int .i64 v4, .slice r4 R4.length k4, .slice l4 K4.length m4, .slice n4 V4.length z4] 28
  have hbw := hb.trans (hb'.mono hb.size)
  have HN16 := Lib.hid (HN14.out.keep hbw)
  have HD16 := Lib.hid (HD14.out.keep hbw)
  have HB16 := Lib.hid (HB14.out.trans (hbw.mono HB14.out.size))
  have HA16 := Lib.hid (HA14.out.keep hbw)
  have HP16 := Lib.hid (HP14.out.keep hbw)
  have HI16 := Lib.hid (HI14.out.keep hbw)
  have HQS16 := Lib.hid (HQS14.out.keep hbw)
  have HSS16 := Lib.hid (HSS14.out.below hbw)
  have HQB16 := Lib.hid (HQB14.out.keep hbw)
  have HU16 := Lib.hid (HU14.out.keep hbw)
  have HV16 := Lib.hid (HV14.out.keep hbw)
  have HJ16 := Lib.hid (HJ14.out.keep hbw)
  have HQT16 := Lib.hid (HQT14.out.keep hbw)
  have HST16 := Lib.hid (HST14.out.below hbw)
  have HQC16 := Lib.hid hQ
  clear HN14 HD14 HB14 HA14 HP14 HI14 HQS14 HSS14 HQB14 HU14 HV14 HJ14 HQT14 HST14
  clear hb hb' hbw hQ
  go_upto_region 7 with fail
  clear hW
  have hlt : T.length ≤ maxLen := by
    rw [HT.out]
    unfold showT
    split
    · simp
    · rename_i hc
      have := Orangery.check_len _ (Orangery.shown_check (Classical.not_not.1 hc))
      unfold maxLen; omega
  have HLT := Lib.hid hlt
  have HS1 : Hid (sameCl ((f3, t3, s3, v3), P3, R3, K3, V3) ((f5, t5, s5, v5), P5, R5, K5, V5) = true) := (sameCl_iff _ _).2 (HZ3.out.trans HZ5.out.symm)
  have HS2 : Hid (sameCl ((f4, t4, s4, v4), P4, R4, K4, V4) ((f4, t4, s4, v4), P4, R4, K4, V4) = true) := (sameCl_iff _ _).2 rfl
  have HS3 : Hid (eqPls T T = true) := by show _ = _; simp [eqPls]
  obtain ⟨Y, hY⟩ : ∃ Y, Y = sameCl ((f1, t1, s1, v1), P1, R1, K1, V1) ((f2, t2, s2, v2), P2, R2, K2, V2) := ⟨_, rfl⟩
  have HSY := Lib.hid hY
  have qe : (E == E) = true := by simp
  have qe3 : (E3 == E3) = true := by simp
  have qg : (G == G) = true := by simp
  have qy : (Y == Y) = true := by simp
  have heq : ∀ W, (binOp .eql 32 (.agg #[Value.int .i64 o1, .int .i64 o2, .int .i64 o3, .int .i64 o4, .int .i64 o5, .int .i64 o6, .int .i64 o7]) (.agg #[Value.int .i64 o1, .int .i64 o2, .int .i64 o3, .int .i64 o4, .int .i64 o5, .int .i64 o6, .int .i64 o7])).run Tryz.prog W = .ok (.bool true) W := fun W => (run_eql_opg (o1, o2, (o3, o4, o5), o6, o7) (o1, o2, (o3, o4, o5), o6, o7) W).trans (by rw [decide_eq_true rfl])
  have hgd := guard_op
  clear hlt hY HBE HBM HZ3 HZ5 HT HO3 HE3
  have hS' : Below W16.heap.size W16 W16.drew := (Below.refl _ W16).drew
  refine wp_region_held_drew (S := fun w' => Below W16.heap.size W16 w') (by kernel_rfl) hS' (fun hHeld => ?_)
  refine wpAnyH_ready (rs := [0]) (by kernel_rfl) (by simp) ?_
  refine AllReadyH.cons rfl (fun K hK => ?_) AllReadyH.nil
  go_simp
  refine (lives_any _).mono ?_
  rintro e wn ⟨rfl, hb⟩
  have hS' : Below W16.heap.size W16 wn := Below.trans hS' (hb.mono (Below.size hS'))
  clear hb
  go_wp2_with fail
  refine hK.out _ _ hS' (fun hHeld => ?_)
  clear hK K
  refine take_yes 1 72 (v := ?_) rfl rfl (by kernel_rfl) (by kernel_rfl) (by kernel_rfl) (fun _ _ _ h => h) (by rfl) ?_ hHeld ?_
  rotate_left 1
  · (intro w hSw; go_simp; try with_reducible rfl)
  simp only [Act.put, List.setIfInBounds_toArray, List.set_cons_succ, List.set_cons_zero]
  refine take_load 2 73 28 w.heap.size [Value.int .i64 f1, .int .i64 t1, .int .i64 s1, .slice p1 P1.length q1, .int .i64 v1, .slice r1 R1.length k1, .slice l1 K1.length m1, .slice n1 V1.length z1] rfl rfl (by kernel_rfl) (by kernel_rfl) (by kernel_rfl) (fun _ _ _ h => h) (by rfl) (by rfl) (by rfl) (fun w hw => (HN16.out.keep hw).range) Tryz.underlying28 rfl sizeClient hHeld ?_
  simp only [Act.put, List.setIfInBounds_toArray, List.set_cons_succ, List.set_cons_zero]
  refine take_yes 3 74 (v := ?_) rfl rfl (by kernel_rfl) (by kernel_rfl) (by kernel_rfl) (fun _ _ _ h => h) (by rfl) ?_ hHeld ?_
  rotate_left 1
  · (intro w hSw; go_simp; try with_reducible rfl)
  simp only [Act.put, List.setIfInBounds_toArray, List.set_cons_succ, List.set_cons_zero]
  refine take_load 5 76 28 w.heap.size [Value.int .i64 f1, .int .i64 t1, .int .i64 s1, .slice p1 P1.length q1, .int .i64 v1, .slice r1 R1.length k1, .slice l1 K1.length m1, .slice n1 V1.length z1] rfl rfl (by kernel_rfl) (by kernel_rfl) (by kernel_rfl) (fun _ _ _ h => h) (by rfl) (by rfl) (by rfl) (fun w hw => (HN16.out.keep hw).range) Tryz.underlying28 rfl sizeClient hHeld ?_
  simp only [Act.put, List.setIfInBounds_toArray, List.set_cons_succ, List.set_cons_zero]
  refine take_yes 6 77 (v := ?_) rfl rfl (by kernel_rfl) (by kernel_rfl) (by kernel_rfl) (fun _ _ _ h => h) (by rfl) ?_ hHeld ?_
  rotate_left 1
  · (intro w hSw; go_simp; try with_reducible rfl)
  simp only [Act.put, List.setIfInBounds_toArray, List.set_cons_succ, List.set_cons_zero]
  refine wpAnyH_ready (rs := [4]) (by kernel_rfl) (by simp) ?_
  refine AllReadyH.cons rfl (fun K hK => ?_) AllReadyH.nil
  go_simp
  refine (ccheck_any _ (((f1, t1, s1, v1), P1, R1, K1, V1), (p1, q1), (r1, k1), (l1, m1), (n1, z1)) me (HX.out.keep (HB16.out.trans (hS'.mono HB16.out.size)))).mono ?_
  rintro e wn ⟨rfl, hb⟩
  try simp only
  rw [← HE.out]
  have hS' : Below W16.heap.size W16 wn := Below.trans hS' (hb.mono (Below.size hS'))
  clear hb
  go_wp2_with fail
  refine hK.out _ _ hS' (fun hHeld => ?_)
  clear hK K
  refine wpAnyH_ready (rs := [7]) (by kernel_rfl) (by simp) ?_
  refine AllReadyH.cons rfl (fun K hK => ?_) AllReadyH.nil
  go_simp
  refine (rcheckClient_any _ (((f1, t1, s1, v1), P1, R1, K1, V1), (p1, q1), (r1, k1), (l1, m1), (n1, z1)) me (HX.out.keep (HB16.out.trans (hS'.mono HB16.out.size)))).mono ?_
  rintro e wn ⟨rfl, hb⟩
  try simp only
  rw [← HE.out]
  have hS' : Below W16.heap.size W16 wn := Below.trans hS' (hb.mono (Below.size hS'))
  clear hb
  go_wp2_with fail
  refine hK.out _ _ hS' (fun hHeld => ?_)
  clear hK K
  refine take_yes 8 79 (v := ?_) rfl rfl (by kernel_rfl) (by kernel_rfl) (by kernel_rfl) (fun _ _ _ h => h) (by rfl) ?_ hHeld ?_
  rotate_left 1
  · (intro w hSw; go_simp; try with_reducible rfl)
  simp only [Act.put, List.setIfInBounds_toArray, List.set_cons_succ, List.set_cons_zero]
  refine take_yes 9 80 (v := ?_) rfl rfl (by kernel_rfl) (by kernel_rfl) (by kernel_rfl) (fun _ _ _ h => h) (by rfl) ?_ hHeld ?_
  rotate_left 1
  · (intro w hSw; go_simp; try with_reducible rfl)
  simp only [Act.put, List.setIfInBounds_toArray, List.set_cons_succ, List.set_cons_zero]
  refine take_yes 10 81 (v := ?_) rfl rfl (by kernel_rfl) (by kernel_rfl) (by kernel_rfl) (fun _ _ _ h => h) (by rfl) ?_ hHeld ?_
  rotate_left 1
  · (intro w hSw; go_simp; try with_reducible rfl)
  simp only [Act.put, List.setIfInBounds_toArray, List.set_cons_succ, List.set_cons_zero]
  refine take_load 11 82 28 w.heap.size [Value.int .i64 f1, .int .i64 t1, .int .i64 s1, .slice p1 P1.length q1, .int .i64 v1, .slice r1 R1.length k1, .slice l1 K1.length m1, .slice n1 V1.length z1] rfl rfl (by kernel_rfl) (by kernel_rfl) (by kernel_rfl) (fun _ _ _ h => h) (by rfl) (by rfl) (by rfl) (fun w hw => (HN16.out.keep hw).range) Tryz.underlying28 rfl sizeClient hHeld ?_
  simp only [Act.put, List.setIfInBounds_toArray, List.set_cons_succ, List.set_cons_zero]
  refine take_load 12 83 28 (w.heap.size + 1) [Value.int .i64 f2, .int .i64 t2, .int .i64 s2, .slice p2 P2.length q2, .int .i64 v2, .slice r2 R2.length k2, .slice l2 K2.length m2, .slice n2 V2.length z2] rfl rfl (by kernel_rfl) (by kernel_rfl) (by kernel_rfl) (fun _ _ _ h => h) (by rfl) (by rfl) (by rfl) (fun w hw => (HD16.out.keep hw).range) Tryz.underlying28 rfl sizeClient hHeld ?_
  simp only [Act.put, List.setIfInBounds_toArray, List.set_cons_succ, List.set_cons_zero]
  refine take_load 14 85 28 w.heap.size [Value.int .i64 f1, .int .i64 t1, .int .i64 s1, .slice p1 P1.length q1, .int .i64 v1, .slice r1 R1.length k1, .slice l1 K1.length m1, .slice n1 V1.length z1] rfl rfl (by kernel_rfl) (by kernel_rfl) (by kernel_rfl) (fun _ _ _ h => h) (by rfl) (by rfl) (by rfl) (fun w hw => (HN16.out.keep hw).range) Tryz.underlying28 rfl sizeClient hHeld ?_
  simp only [Act.put, List.setIfInBounds_toArray, List.set_cons_succ, List.set_cons_zero]
  refine take_load 15 86 28 (w.heap.size + 1) [Value.int .i64 f2, .int .i64 t2, .int .i64 s2, .slice p2 P2.length q2, .int .i64 v2, .slice r2 R2.length k2, .slice l2 K2.length m2, .slice n2 V2.length z2] rfl rfl (by kernel_rfl) (by kernel_rfl) (by kernel_rfl) (fun _ _ _ h => h) (by rfl) (by rfl) (by rfl) (fun w hw => (HD16.out.keep hw).range) Tryz.underlying28 rfl sizeClient hHeld ?_
  simp only [Act.put, List.setIfInBounds_toArray, List.set_cons_succ, List.set_cons_zero]
  refine wpAnyH_ready (rs := [13]) (by kernel_rfl) (by simp) ?_
  refine AllReadyH.cons rfl (fun K hK => ?_) AllReadyH.nil
  go_simp
  refine (csame_any _ (((f1, t1, s1, v1), P1, R1, K1, V1), (p1, q1), (r1, k1), (l1, m1), (n1, z1)) (((f2, t2, s2, v2), P2, R2, K2, V2), (p2, q2), (r2, k2), (l2, m2), (n2, z2)) (HX.out.keep (HB16.out.trans (hS'.mono HB16.out.size))) (HY.out.keep (HB16.out.trans (hS'.mono HB16.out.size)))).mono ?_
  rintro e wn ⟨rfl, hb⟩
  try simp only
  rw [← HSY.out]
  have hS' : Below W16.heap.size W16 wn := Below.trans hS' (hb.mono (Below.size hS'))
  clear hb
  go_wp2_with fail
  refine hK.out _ _ hS' (fun hHeld => ?_)
  clear hK K
  refine wpAnyH_ready (rs := [16]) (by kernel_rfl) (by simp) ?_
  refine AllReadyH.cons rfl (fun K hK => ?_) AllReadyH.nil
  go_simp
  refine (rsameClient_any _ (((f1, t1, s1, v1), P1, R1, K1, V1), (p1, q1), (r1, k1), (l1, m1), (n1, z1)) (((f2, t2, s2, v2), P2, R2, K2, V2), (p2, q2), (r2, k2), (l2, m2), (n2, z2)) (HX.out.keep (HB16.out.trans (hS'.mono HB16.out.size))) (HY.out.keep (HB16.out.trans (hS'.mono HB16.out.size)))).mono ?_
  rintro e wn ⟨rfl, hb⟩
  try simp only
  rw [← HSY.out]
  have hS' : Below W16.heap.size W16 wn := Below.trans hS' (hb.mono (Below.size hS'))
  clear hb
  go_wp2_with fail
  refine hK.out _ _ hS' (fun hHeld => ?_)
  clear hK K
  refine take_yes 17 88 (v := ?_) rfl rfl (by kernel_rfl) (by kernel_rfl) (by kernel_rfl) (fun _ _ _ h => h) (by rfl) ?_ hHeld ?_
  rotate_left 1
  · (intro w hSw; go_simp; try with_reducible rfl)
  simp only [Act.put, List.setIfInBounds_toArray, List.set_cons_succ, List.set_cons_zero]
  refine take_yes 18 89 (v := ?_) rfl rfl (by kernel_rfl) (by kernel_rfl) (by kernel_rfl) (fun _ _ _ h => h) (by rfl) ?_ hHeld ?_
  rotate_left 1
  · (intro w hSw; go_simp; try with_reducible rfl)
  simp only [Act.put, List.setIfInBounds_toArray, List.set_cons_succ, List.set_cons_zero]
  refine take_yes 19 90 (v := ?_) rfl rfl (by kernel_rfl) (by kernel_rfl) (by kernel_rfl) (fun _ _ _ h => h) (by rfl) ?_ hHeld ?_
  rotate_left 1
  · (intro w hSw; go_simp; try with_reducible rfl)
  simp only [Act.put, List.setIfInBounds_toArray, List.set_cons_succ, List.set_cons_zero]
  refine take_yes 20 91 (v := ?_) rfl rfl (by kernel_rfl) (by kernel_rfl) (by kernel_rfl) (fun _ _ _ h => h) (by rfl) ?_ hHeld ?_
  rotate_left 1
  · (intro w hSw; go_simp; try with_reducible rfl)
  simp only [Act.put, List.setIfInBounds_toArray, List.set_cons_succ, List.set_cons_zero]
  refine take_yes 21 92 (v := ?_) rfl rfl (by kernel_rfl) (by kernel_rfl) (by kernel_rfl) (fun _ _ _ h => h) (by rfl) ?_ hHeld ?_
  rotate_left 1
  · (intro w hSw; go_simp; try with_reducible rfl)
  simp only [Act.put, List.setIfInBounds_toArray, List.set_cons_succ, List.set_cons_zero]
  refine take_yes 22 93 (v := ?_) rfl rfl (by kernel_rfl) (by kernel_rfl) (by kernel_rfl) (fun _ _ _ h => h) (by rfl) ?_ hHeld ?_
  rotate_left 1
  · (intro w hSw; go_simp; try with_reducible rfl)
  simp only [Act.put, List.setIfInBounds_toArray, List.set_cons_succ, List.set_cons_zero]
  refine take_yes 23 94 (v := ?_) rfl rfl (by kernel_rfl) (by kernel_rfl) (by kernel_rfl) (fun _ _ _ h => h) (by rfl) ?_ hHeld ?_
  rotate_left 1
  · (intro w hSw; go_simp; try with_reducible rfl)
  simp only [Act.put, List.setIfInBounds_toArray, List.set_cons_succ, List.set_cons_zero]
  refine take_yes 24 95 (v := ?_) rfl rfl (by kernel_rfl) (by kernel_rfl) (by kernel_rfl) (fun _ _ _ h => h) (by rfl) ?_ hHeld ?_
  rotate_left 1
  · (intro w hSw; go_simp; try with_reducible rfl)
  simp only [Act.put, List.setIfInBounds_toArray, List.set_cons_succ, List.set_cons_zero]
  refine take_load 25 96 32 (w5.heap.size + 1) [Value.int .i64 o1, .int .i64 o2, .int .i64 o3, .int .i64 o4, .int .i64 o5, .int .i64 o6, .int .i64 o7] rfl rfl (by kernel_rfl) (by kernel_rfl) (by kernel_rfl) (fun _ _ _ h => h) (by rfl) (by rfl) (by rfl) (fun w hw => (HP16.out.keep hw).range) Tryz.underlying32 rfl sizeOp hHeld ?_
  simp only [Act.put, List.setIfInBounds_toArray, List.set_cons_succ, List.set_cons_zero]
  refine take_load 26 97 32 (w11.heap.size + 1) [Value.int .i64 o1, .int .i64 o2, .int .i64 o3, .int .i64 o4, .int .i64 o5, .int .i64 o6, .int .i64 o7] rfl rfl (by kernel_rfl) (by kernel_rfl) (by kernel_rfl) (fun _ _ _ h => h) (by rfl) (by rfl) (by rfl) (fun w hw => (HV16.out.keep hw).range) Tryz.underlying32 rfl sizeOp hHeld ?_
  simp only [Act.put, List.setIfInBounds_toArray, List.set_cons_succ, List.set_cons_zero]
  refine take_yes 27 98 (v := ?_) rfl rfl (by kernel_rfl) (by kernel_rfl) (by kernel_rfl) (fun _ _ _ h => h) (by rfl) ?_ hHeld ?_
  rotate_left 1
  · (intro w hSw; go_simp; try with_reducible rfl)
  simp only [Act.put, List.setIfInBounds_toArray, List.set_cons_succ, List.set_cons_zero]
  refine take_yes 28 99 (v := ?_) rfl rfl (by kernel_rfl) (by kernel_rfl) (by kernel_rfl) (fun _ _ _ h => h) (by rfl) ?_ hHeld ?_
  rotate_left 1
  · (intro w hSw; go_simp; try with_reducible rfl)
  simp only [Act.put, List.setIfInBounds_toArray, List.set_cons_succ, List.set_cons_zero]
  refine take_yes 29 100 (v := ?_) rfl rfl (by kernel_rfl) (by kernel_rfl) (by kernel_rfl) (fun _ _ _ h => h) (by rfl) ?_ hHeld ?_
  rotate_left 1
  · (intro w hSw; go_simp; try with_reducible rfl)
  simp only [Act.put, List.setIfInBounds_toArray, List.set_cons_succ, List.set_cons_zero]
  refine take_load 30 101 28 w5.heap.size [Value.int .i64 f3, .int .i64 t3, .int .i64 s3, .slice p3 P3.length q3, .int .i64 v3, .slice r3 R3.length k3, .slice l3 K3.length m3, .slice n3 V3.length z3] rfl rfl (by kernel_rfl) (by kernel_rfl) (by kernel_rfl) (fun _ _ _ h => h) (by rfl) (by rfl) (by rfl) (fun w hw => (HA16.out.keep hw).range) Tryz.underlying28 rfl sizeClient hHeld ?_
  simp only [Act.put, List.setIfInBounds_toArray, List.set_cons_succ, List.set_cons_zero]
  refine take_load 31 102 28 w11.heap.size [Value.int .i64 f5, .int .i64 t5, .int .i64 s5, .slice p5 P5.length q5, .int .i64 v5, .slice r5 R5.length k5, .slice l5 K5.length m5, .slice n5 V5.length z5] rfl rfl (by kernel_rfl) (by kernel_rfl) (by kernel_rfl) (fun _ _ _ h => h) (by rfl) (by rfl) (by rfl) (fun w hw => (HU16.out.keep hw).range) Tryz.underlying28 rfl sizeClient hHeld ?_
  simp only [Act.put, List.setIfInBounds_toArray, List.set_cons_succ, List.set_cons_zero]
  refine wpAnyH_ready (rs := [32]) (by kernel_rfl) (by simp) ?_
  refine AllReadyH.cons rfl (fun K hK => ?_) AllReadyH.nil
  go_simp
  refine (rsameClient_any _ (((f3, t3, s3, v3), P3, R3, K3, V3), (p3, q3), (r3, k3), (l3, m3), (n3, z3)) (((f5, t5, s5, v5), P5, R5, K5, V5), (p5, q5), (r5, k5), (l5, m5), (n5, z5)) (HI16.out.keep hS') (HJ16.out.keep hS')).mono ?_
  rintro e wn ⟨rfl, hb⟩
  try simp only
  rw [HS1.out]
  have hS' : Below W16.heap.size W16 wn := Below.trans hS' (hb.mono (Below.size hS'))
  clear hb
  go_wp2_with fail
  refine hK.out _ _ hS' (fun hHeld => ?_)
  clear hK K
  refine take_yes 33 104 (v := ?_) rfl rfl (by kernel_rfl) (by kernel_rfl) (by kernel_rfl) (fun _ _ _ h => h) (by rfl) ?_ hHeld ?_
  rotate_left 1
  · (intro w hSw; go_simp; try with_reducible rfl)
  simp only [Act.put, List.setIfInBounds_toArray, List.set_cons_succ, List.set_cons_zero]
  refine take_yes 34 105 (v := ?_) rfl rfl (by kernel_rfl) (by kernel_rfl) (by kernel_rfl) (fun _ _ _ h => h) (by rfl) ?_ hHeld ?_
  rotate_left 1
  · (intro w hSw; go_simp; try with_reducible rfl)
  simp only [Act.put, List.setIfInBounds_toArray, List.set_cons_succ, List.set_cons_zero]
  refine take_yes 35 106 (v := ?_) rfl rfl (by kernel_rfl) (by kernel_rfl) (by kernel_rfl) (fun _ _ _ h => h) (by rfl) ?_ hHeld ?_
  rotate_left 1
  · (intro w hSw; go_simp; try with_reducible rfl)
  simp only [Act.put, List.setIfInBounds_toArray, List.set_cons_succ, List.set_cons_zero]
  refine take_yes 36 107 (v := ?_) rfl rfl (by kernel_rfl) (by kernel_rfl) (by kernel_rfl) (fun _ _ _ h => h) (by rfl) ?_ hHeld ?_
  rotate_left 1
  · (intro w hSw; go_simp; try with_reducible rfl)
  simp only [Act.put, List.setIfInBounds_toArray, List.set_cons_succ, List.set_cons_zero]
  refine take_yes 37 108 (v := ?_) rfl rfl (by kernel_rfl) (by kernel_rfl) (by kernel_rfl) (fun _ _ _ h => h) (by rfl) ?_ hHeld ?_
  rotate_left 1
  · (intro w hSw; go_simp; try with_reducible rfl)
  simp only [Act.put, List.setIfInBounds_toArray, List.set_cons_succ, List.set_cons_zero]
  refine take_yes 38 109 (v := ?_) rfl rfl (by kernel_rfl) (by kernel_rfl) (by kernel_rfl) (fun _ _ _ h => h) (by rfl) ?_ hHeld ?_
  rotate_left 1
  · (intro w hSw; go_simp; try with_reducible rfl)
  simp only [Act.put, List.setIfInBounds_toArray, List.set_cons_succ, List.set_cons_zero]
  refine take_yes 39 110 (v := ?_) rfl rfl (by kernel_rfl) (by kernel_rfl) (by kernel_rfl) (fun _ _ _ h => h) (by rfl) ?_ hHeld ?_
  rotate_left 1
  · (intro w hSw; go_simp; try with_reducible rfl)
  simp only [Act.put, List.setIfInBounds_toArray, List.set_cons_succ, List.set_cons_zero]
  refine take_yes 40 111 (v := ?_) rfl rfl (by kernel_rfl) (by kernel_rfl) (by kernel_rfl) (fun _ _ _ h => h) (by rfl) ?_ hHeld ?_
  rotate_left 1
  · (intro w hSw; go_simp; try with_reducible rfl)
  simp only [Act.put, List.setIfInBounds_toArray, List.set_cons_succ, List.set_cons_zero]
  refine take_yes 41 112 (v := ?_) rfl rfl (by kernel_rfl) (by kernel_rfl) (by kernel_rfl) (fun _ _ _ h => h) (by rfl) ?_ hHeld ?_
  rotate_left 1
  · (intro w hSw; have cc := (HQS16.out.keep hSw).at 0 rfl; clear hSw; go_simp; try with_reducible rfl)
  simp only [Act.put, List.setIfInBounds_toArray, List.set_cons_succ, List.set_cons_zero]
  refine take_yes 42 113 (v := ?_) rfl rfl (by kernel_rfl) (by kernel_rfl) (by kernel_rfl) (fun _ _ _ h => h) (by rfl) ?_ hHeld ?_
  rotate_left 1
  · (intro w hSw; go_simp; try with_reducible rfl)
  simp only [Act.put, List.setIfInBounds_toArray, List.set_cons_succ, List.set_cons_zero]
  refine take_yes 43 114 (v := ?_) rfl rfl (by kernel_rfl) (by kernel_rfl) (by kernel_rfl) (fun _ _ _ h => h) (by rfl) ?_ hHeld ?_
  rotate_left 1
  · (intro w hSw; have cc := (HQT16.out.keep hSw).at 0 rfl; clear hSw; go_simp; try with_reducible rfl)
  simp only [Act.put, List.setIfInBounds_toArray, List.set_cons_succ, List.set_cons_zero]
  refine wpAnyH_ready (rs := [44]) (by kernel_rfl) (by simp) ?_
  refine AllReadyH.cons rfl (fun K hK => ?_) AllReadyH.nil
  go_simp
  refine (equal_pls _ aS aT cS cT T T HLT.out (HSS16.out.below hS') (HST16.out.below hS')).mono ?_
  rintro e wn ⟨rfl, nn, hnn⟩
  rw [HS3.out]
  have hS' : Below W16.heap.size W16 wn := (by rw [hnn]; exact Below.trans hS' (Go.Joins.below_draws _ _ nn))
  clear hnn
  go_wp2_with fail
  refine hK.out _ _ hS' (fun hHeld => ?_)
  clear hK K
  refine take_yes 45 116 (v := ?_) rfl rfl (by kernel_rfl) (by kernel_rfl) (by kernel_rfl) (fun _ _ _ h => h) (by rfl) ?_ hHeld ?_
  rotate_left 1
  · (intro w hSw; go_simp; try with_reducible rfl)
  simp only [Act.put, List.setIfInBounds_toArray, List.set_cons_succ, List.set_cons_zero]
  refine take_yes 46 117 (v := ?_) rfl rfl (by kernel_rfl) (by kernel_rfl) (by kernel_rfl) (fun _ _ _ h => h) (by rfl) ?_ hHeld ?_
  rotate_left 1
  · (intro w hSw; go_simp; try with_reducible rfl)
  simp only [Act.put, List.setIfInBounds_toArray, List.set_cons_succ, List.set_cons_zero]
  refine take_yes 47 118 (v := ?_) rfl rfl (by kernel_rfl) (by kernel_rfl) (by kernel_rfl) (fun _ _ _ h => h) (by rfl) ?_ hHeld ?_
  rotate_left 1
  · (intro w hSw; go_simp; try with_reducible rfl)
  simp only [Act.put, List.setIfInBounds_toArray, List.set_cons_succ, List.set_cons_zero]
  refine take_yes 48 119 (v := ?_) rfl rfl (by kernel_rfl) (by kernel_rfl) (by kernel_rfl) (fun _ _ _ h => h) (by rfl) ?_ hHeld ?_
  rotate_left 1
  · (intro w hSw; go_simp; try with_reducible rfl)
  simp only [Act.put, List.setIfInBounds_toArray, List.set_cons_succ, List.set_cons_zero]
  refine take_yes 49 120 (v := ?_) rfl rfl (by kernel_rfl) (by kernel_rfl) (by kernel_rfl) (fun _ _ _ h => h) (by rfl) ?_ hHeld ?_
  rotate_left 1
  · (intro w hSw; go_simp; try with_reducible rfl)
  simp only [Act.put, List.setIfInBounds_toArray, List.set_cons_succ, List.set_cons_zero]
  refine take_yes 50 121 (v := ?_) rfl rfl (by kernel_rfl) (by kernel_rfl) (by kernel_rfl) (fun _ _ _ h => h) (by rfl) ?_ hHeld ?_
  rotate_left 1
  · (intro w hSw; go_simp; try with_reducible rfl)
  simp only [Act.put, List.setIfInBounds_toArray, List.set_cons_succ, List.set_cons_zero]
  refine take_yes 51 122 (v := ?_) rfl rfl (by kernel_rfl) (by kernel_rfl) (by kernel_rfl) (fun _ _ _ h => h) (by rfl) ?_ hHeld ?_
  rotate_left 1
  · (intro w hSw; go_simp; try with_reducible rfl)
  simp only [Act.put, List.setIfInBounds_toArray, List.set_cons_succ, List.set_cons_zero]
  refine take_load 52 123 28 w9.heap.size [Value.int .i64 f4, .int .i64 t4, .int .i64 s4, .slice p4 P4.length q4, .int .i64 v4, .slice r4 R4.length k4, .slice l4 K4.length m4, .slice n4 V4.length z4] rfl rfl (by kernel_rfl) (by kernel_rfl) (by kernel_rfl) (fun _ _ _ h => h) (by rfl) (by rfl) (by rfl) (fun w hw => (HQB16.out.keep hw).range) Tryz.underlying28 rfl sizeClient hHeld ?_
  simp only [Act.put, List.setIfInBounds_toArray, List.set_cons_succ, List.set_cons_zero]
  refine take_load 53 124 28 w15.heap.size [Value.int .i64 f4, .int .i64 t4, .int .i64 s4, .slice p4 P4.length q4, .int .i64 v4, .slice r4 R4.length k4, .slice l4 K4.length m4, .slice n4 V4.length z4] rfl rfl (by kernel_rfl) (by kernel_rfl) (by kernel_rfl) (fun _ _ _ h => h) (by rfl) (by rfl) (by rfl) (fun w hw => (HQC16.out.keep hw).range) Tryz.underlying28 rfl sizeClient hHeld ?_
  simp only [Act.put, List.setIfInBounds_toArray, List.set_cons_succ, List.set_cons_zero]
  refine wpAnyH_ready (rs := [54]) (by kernel_rfl) (by simp) ?_
  refine AllReadyH.cons rfl (fun K hK => ?_) AllReadyH.nil
  go_simp
  refine (rsameClient_any _ (((f4, t4, s4, v4), P4, R4, K4, V4), (p4, q4), (r4, k4), (l4, m4), (n4, z4)) (((f4, t4, s4, v4), P4, R4, K4, V4), (p4, q4), (r4, k4), (l4, m4), (n4, z4)) (HIB.out _) (HIB.out _)).mono ?_
  rintro e wn ⟨rfl, hb⟩
  try simp only
  rw [HS2.out]
  have hS' : Below W16.heap.size W16 wn := Below.trans hS' (hb.mono (Below.size hS'))
  clear hb
  go_wp2_with fail
  refine hK.out _ _ hS' (fun hHeld => ?_)
  clear hK K
  refine take_yes 55 126 (v := ?_) rfl rfl (by kernel_rfl) (by kernel_rfl) (by kernel_rfl) (fun _ _ _ h => h) (by rfl) ?_ hHeld ?_
  rotate_left 1
  · (intro w hSw; go_simp; try with_reducible rfl)
  simp only [Act.put, List.setIfInBounds_toArray, List.set_cons_succ, List.set_cons_zero]
  refine take_yes 56 12 (v := ?_) rfl rfl (by kernel_rfl) (by kernel_rfl) (by kernel_rfl) (fun _ _ _ h => h) (by rfl) ?_ hHeld ?_
  rotate_left 1
  · (intro w hSw; go_simp; try with_reducible rfl)
  simp only [Act.put, List.setIfInBounds_toArray, List.set_cons_succ, List.set_cons_zero]
  refine wpAnyH_done (by kernel_rfl) ?_ _
  go_wp2
  go_ret
  exact ⟨rfl, HB16.out.trans (hS'.mono HB16.out.size)⟩
end Go.Proofs.YtijjiccgpobjmaeGreat

/- a client's Move, Shows, Begin, Check and Same answer as the reference does -/
namespace Go.Proofs.YtijjiccgpobjmaeGreat.clientSays
open Go.ChangeShapes Go.WideShapes Go.ChangeAt Go.RowKit
set_option linter.unusedVariables false

theorem own : ownKnob Tryz.prog.godebug = none := by kernel_rfl
theorem laidOut : laidOutB Tryz.prog = true := by kernel_rfl

set_option maxHeartbeats 2000000 in
set_option maxRecDepth 100000 in
theorem lifted (os : Os) (started : os.Started) (H : Type) (enc : TypeId × Value → H) :
    ReturnsInHanded {} Tryz.checked os 3 .any (Rows.clientSaysSpec.pre6 enc Tryz.prog Tryz.f3 Rows.clientSaysRow.domain false) (Rows.clientSaysSpec.post enc Tryz.prog Tryz.f3 false true false false) := by
  refine returnsInHanded_of_change_sized (C := Tryz.checked) own started (by kernel_rfl) Tryz.func3
    (ChangeSpec.witness6 (enc := enc) (C := Tryz.checked) false ⟨#[], #[.agg #[.int .i64 0, .int .i64 0, .int .i64 0, .slice none 0 0, .int .i64 0, .slice none 0 0, .slice none 0 0, .slice none 0 0], .int .i64 0, .int .i64 0, .int .i64 0, .int .i64 0, .agg #[.int .i64 0, .int .i64 0, .int .i64 0, .slice none 0 0, .int .i64 0, .slice none 0 0, .slice none 0 0, .slice none 0 0]], []⟩ 8 (by kernel_rfl) (by kernel_rfl) (by kernel_rfl) (by kernel_rfl)) ?_
  intro W base args ds gs before hval0 hW hcnd hsz0 _
  have hval : ∀ (j : Nat) t v, Tryz.f3.params[j]? = some t → args[j]? = some v → Value.okWide Tryz.prog W .any base t v := hval0
  have hW' := hW
  obtain ⟨p, q, hA0, hV, rfl, hfz, hnd⟩ := hW
  have hA : DataW.TrodAll enc Tryz.prog W 0 (fun _ => true) true Tryz.f3.params.toList args.toList ds p := hA0
  have hsz : (DataW.weightsEach Tryz.prog (Tryz.f3.params.toList ++ Rows.clientSaysSpec.plain.varTypes Tryz.prog) (ds ++ gs)).all (· ≤ reachBytes) = true := hsz0
  rw [Tryz.params3] at hA hval hsz
  obtain ⟨v0, vs0, d0, ds0, p0, q0, hargs, rfl, rfl, h0, r0⟩ := trodAll_cons hA
  obtain ⟨v1, vs1, d1, ds1, p1, q1, rfl, rfl, rfl, h1, r1⟩ := trodAll_cons r0
  obtain ⟨v2, vs2, d2, ds2, p2, q2, rfl, rfl, rfl, h2, r2⟩ := trodAll_cons r1
  obtain ⟨v3, vs3, d3, ds3, p3, q3, rfl, rfl, rfl, h3, r3⟩ := trodAll_cons r2
  obtain ⟨v4, vs4, d4, ds4, p4, q4, rfl, rfl, rfl, h4, r4⟩ := trodAll_cons r3
  obtain ⟨v5, vs5, d5, ds5, p5, q5, rfl, rfl, rfl, h5, r5⟩ := trodAll_cons r4
  obtain ⟨rfl, rfl, rfl⟩ := trodAll_nil r5
  obtain rfl : args = #[v0, v1, v2, v3, v4, v5] := by cases args; simp_all
  obtain ⟨rfl, rfl⟩ := trodVars_none hV
  have k0 := h0
  have lt0 : ∀ x ∈ p0, x.block < W.heap.size := by obtain ⟨m, hm⟩ := k0; exact DataW.trod_lt m _ _ _ hm
  obtain ⟨x0, rfl, P0, N0, C0⟩ := open_client (hval 0 28 v0 rfl rfl) h0 (sized_at hsz (j := 0) rfl rfl)
  obtain ⟨x1, rfl, rfl, rfl, g1⟩ := open_int Tryz.underlying3 (hval 1 3 v1 rfl rfl) h1
  obtain ⟨x2, rfl, rfl, rfl, g2⟩ := open_int Tryz.underlying3 (hval 2 3 v2 rfl rfl) h2
  obtain ⟨x3, rfl, rfl, rfl, g3⟩ := open_int Tryz.underlying3 (hval 3 3 v3 rfl rfl) h3
  obtain ⟨x4, rfl, rfl, rfl, g4⟩ := open_int Tryz.underlying3 (hval 4 3 v4 rfl rfl) h4
  have k5 := h5
  have lt5 : ∀ x ∈ p5, x.block < W.heap.size := by obtain ⟨m, hm⟩ := k5; exact DataW.trod_lt m _ _ _ hm
  obtain ⟨x5, rfl, P5, N5, C5⟩ := open_client (hval 5 28 v5 rfl rfl) h5 (sized_at hsz (j := 5) rfl rfl)
  clear hA0 hval0
  refine (clientSays_any W x0 x1 x2 x3 x4 x5 P0 P5 N0).mono fun e W' ⟨he, bel⟩ => ?_
  subst he
  exact ⟨_, rfl, _, _, _, [], _, [], hW', trodAll_mk1 (shut_bool Tryz.underlying4 _), (trodAll_cons_mk (Below.trod laidOut (by kernel_rfl) (of_decide_eq_true (by kernel_rfl)) k0 bel lt0) (trodAll_cons_mk (shut_int Tryz.underlying3 g1) (trodAll_cons_mk (shut_int Tryz.underlying3 g2) (trodAll_cons_mk (shut_int Tryz.underlying3 g3) (trodAll_cons_mk (shut_int Tryz.underlying3 g4) (trodAll_cons_mk (Below.trod laidOut (by kernel_rfl) (of_decide_eq_true (by kernel_rfl)) k5 bel lt5) trodAll_mk0)))))), rfl, bel.frame _, fun h => by cases h⟩

theorem over : Rows.clientSaysRow.holds Tryz.pinned (OpenSpec.ofChange Rows.clientSaysSpec) :=
  OpenClaim.holds_of_wide 3 Tryz.f3 rfl rfl rfl rfl rfl rfl rfl ⟨rfl, rfl, rfl, rfl, rfl⟩ rfl rfl rfl rfl rfl (by kernel_rfl) Tryz.func3 (by kernel_rfl)
    (of_decide_eq_true (by kernel_rfl)) (by unfold Func.isWrapper; first | (rw [if_pos (by decide +kernel)]; kernel_rfl) | (rw [if_neg (by decide +kernel)]; exact ⟨rfl, rfl⟩))
    (fun os started H enc _ => lifted os started H enc)

/-- The statement. -/
theorem proved : Rows.ClientSaysSaid :=
  over
#print axioms proved
end Go.Proofs.YtijjiccgpobjmaeGreat.clientSays

