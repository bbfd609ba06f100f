/- move.Do. -/
import Derived.Test.YtphameoibnimmaaWith
import Derived.Test.YtphameoibnimmaaOrE
import Derived.Test.YtphameoibnimmaaRet
import Derived.Test.YtphameoibnimmaaUnder
import Derived.Deep.RegionHeld3
import Derived.Deep.DeepCutAuto
namespace Go.Proofs.Ytphameoibnimmaa
open Go.ChangeShapes Go.WideShapes Go.ChangeAt Go.RowKit
open Orangery (Pl Mv Stp outL inL check checkOp doE doT doS ring orI underB underE find noStep noOp)

set_option maxHeartbeats 2000000 in
set_option maxRecDepth 100000 in
theorem do_any (w : World) (a : Option Addr) (c : Nat) (l : List Pl) (o : Mv) (hl : l.length ≤ maxLen) (h : SlP w a l) :
    Calls Try.prog 22 #[.agg #[.slice a l.length c], opV o] w
      fun e w' => ∃ v, e = .returned (.tuple #[.agg #[v], stV (doS l o), .int .i64 (doE l o)]) ∧ OwnS w' w.heap.size v (doT l o) ∧ Below w.heap.size w w' := by
  obtain ⟨o1, o2, ⟨o3, o4, o5⟩, o6, o7⟩ := o
  go_enter Try.func22, Try.ntmps22
  go_wp2_with fail
  obtain ⟨W0, hW, hT, hO, hR, hQ, hB, hS⟩ := laid4 w [Value.slice a l.length c] 29 [Value.int IntKind.i64 o1, Value.int IntKind.i64 o2, Value.int IntKind.i64 o3, Value.int IntKind.i64 o4, Value.int IntKind.i64 o5, Value.int IntKind.i64 o6, Value.int IntKind.i64 o7] 49 [Value.slice none 0 0] 29 [Value.int IntKind.i64 0, Value.int IntKind.i64 0, Value.int IntKind.i64 0, Value.int IntKind.i64 0, Value.int IntKind.i64 0, Value.int IntKind.i64 0, Value.int IntKind.i64 0, Value.bool false, Value.int IntKind.i64 0, Value.int IntKind.i64 0, Value.int IntKind.i64 0] 51
  rw [hW]
  clear hW
  have hP := h.below hB
  clear h
  have t0 := hT.at 0 rfl
  have m0 := hO.at 0 rfl
  have m1 := hO.at 1 rfl
  have m2 := hO.at 2 rfl
  have m3 := hO.at 3 rfl
  have m4 := hO.at 4 rfl
  have m5 := hO.at 5 rfl
  have m6 := hO.at 6 rfl
  go_region_held3 (fun w' => w'.cell? ⟨w.heap.size, 0, none⟩ = some (.slice a l.length c) ∧ w'.cell? ⟨w.heap.size + 1, 0, none⟩ = some (.int .i64 o1) ∧ w'.cell? ⟨w.heap.size + 1, 1, none⟩ = some (.int .i64 o2) ∧ w'.cell? ⟨w.heap.size + 1, 2, none⟩ = some (.int .i64 o3) ∧ w'.cell? ⟨w.heap.size + 1, 3, none⟩ = some (.int .i64 o4) ∧ w'.cell? ⟨w.heap.size + 1, 4, none⟩ = some (.int .i64 o5) ∧ w'.cell? ⟨w.heap.size + 1, 5, none⟩ = some (.int .i64 o6) ∧ w'.cell? ⟨w.heap.size + 1, 6, none⟩ = some (.int .i64 o7)) (go_keep)
    (first | (go_at_call 14; refine (check_any _ a c l hl ?_).mono ?_; exact hP; rintro e w1 ⟨rfl, hb1⟩; have hb1' : Below W0.heap.size W0 w1 := ((Below.refl _ W0).drew).trans hb1; have t1 := (hT.keep hb1').at 0 rfl; have hO1 := hO.keep hb1'; have m10 := hO1.at 0 rfl; have m11 := hO1.at 1 rfl; have m12 := hO1.at 2 rfl; have m13 := hO1.at 3 rfl; have m14 := hO1.at 4 rfl; have m15 := hO1.at 5 rfl; have m16 := hO1.at 6 rfl) | (go_at_call 27; refine (moveCheck_any _ (o1, o2, (o3, o4, o5), o6, o7)).mono ?_; rintro e w2 ⟨rfl, hb2⟩; have hb2' := hb1'.trans (hb2.mono hb1'.size); have t2 := (hT.keep hb2').at 0 rfl; have hO2 := hO.keep hb2'; have m20 := hO2.at 0 rfl; have m21 := hO2.at 1 rfl; have m22 := hO2.at 2 rfl; have m23 := hO2.at 3 rfl; have m24 := hO2.at 4 rfl; have m25 := hO2.at 5 rfl; have m26 := hO2.at 6 rfl) | (go_at_call 54; refine (orE_any _ _ _ (check l) (checkOp (o1, o2, (o3, o4, o5), o6, o7)) ?_ ?_).mono ?_; simp; simp; rintro e w3 ⟨rfl, rfl⟩))
  have HE : Hid (doE l (o1, o2, (o3, o4, o5), o6, o7) = orI (check l) (checkOp (o1, o2, (o3, o4, o5), o6, o7))) := rfl
  have hT3 := (hT.keep hb2').alloc (Obj.cells #[Value.int IntKind.i64 (check l), Value.int IntKind.i64 (checkOp (o1, o2, (o3, o4, o5), o6, o7))] 22)
  have hO3 := hO2.alloc (Obj.cells #[Value.int IntKind.i64 (check l), Value.int IntKind.i64 (checkOp (o1, o2, (o3, o4, o5), o6, o7))] 22)
  have hR3 := (hR.keep hb2').alloc (Obj.cells #[Value.int IntKind.i64 (check l), Value.int IntKind.i64 (checkOp (o1, o2, (o3, o4, o5), o6, o7))] 22)
  have hQ3 := (hQ.keep hb2').alloc (Obj.cells #[Value.int IntKind.i64 (check l), Value.int IntKind.i64 (checkOp (o1, o2, (o3, o4, o5), o6, o7))] 22)
  have hb3 : Below W0.heap.size W0 (w2.alloc (Obj.cells #[Value.int IntKind.i64 (check l), Value.int IntKind.i64 (checkOp (o1, o2, (o3, o4, o5), o6, o7))] 22)) := hb2'.alloc hb2'.size _
  have hP3 := hP.below hb3
  have HB3 : Hid (Below w.heap.size w (w2.alloc (Obj.cells #[Value.int IntKind.i64 (check l), Value.int IntKind.i64 (checkOp (o1, o2, (o3, o4, o5), o6, o7))] 22))) := hB.trans (hb3.mono hB.size)
  generalize w2.alloc (Obj.cells #[Value.int IntKind.i64 (check l), Value.int IntKind.i64 (checkOp (o1, o2, (o3, o4, o5), o6, o7))] 22) = W3 at *
  clear hT hO hR hQ hB hP t0 m0 m1 m2 m3 m4 m5 m6 t1 m10 m11 m12 m13 m14 m15 m16 t2 m20 m21 m22 m23 m24 m25 m26 hb1 hb1' hb2 hb2' hO1 hO2
  by_cases hz : orI (check l) (checkOp (o1, o2, (o3, o4, o5), o6, o7)) = 0
  · obtain ⟨hck, hco⟩ := Orangery.doE_zero (l := l) (o := (o1, o2, (o3, o4, o5), o6, o7)) hz
    have hok := Orangery.checkOp_zero hco
    obtain ⟨hr1, hr2, hr3⟩ := Orangery.opOk_place hok
    have hlen := Orangery.check_len l hck
    have hby := ((Orangery.check_iff l).1 hck).2.1
    have hu1 := (Orangery.underE_ok l o4 o3 hck hr3 hr2).1
    have HZ : Hid (doE l (o1, o2, (o3, o4, o5), o6, o7) = 0) := by show _ = _; rw [HE.out]; exact hz
    rw [hz]
    clear hz hck hco hok hr1 hr2 hr3 HE
    have t0 := hT3.at 0 rfl
    have m0 := hO3.at 0 rfl
    have m1 := hO3.at 1 rfl
    have m2 := hO3.at 2 rfl
    have m3 := hO3.at 3 rfl
    have m4 := hO3.at 4 rfl
    have m5 := hO3.at 5 rfl
    have m6 := hO3.at 6 rfl
    go_wp2_with fail
    refine (under_any W3 a c l o4 o3 hl hP3).mono ?_
    rintro e w4 ⟨rfl, hb4⟩
    rw [hu1]
    have hT4 := hT3.keep hb4
    have hO4 := hO3.keep hb4
    have hR4 := hR3.keep hb4
    have hQ4 := hQ3.keep hb4
    have hP4 := hP3.below hb4
    have HB4 : Hid (Below w.heap.size w w4) := HB3.out.trans (hb4.mono HB3.out.size)
    clear hT3 hO3 hR3 hQ3 hP3 HB3 hb3 hb4 t0 m0 m1 m2 m3 m4 m5 m6 hu1
    have t0 := hT4.at 0 rfl
    have m0 := hO4.at 0 rfl
    have m1 := hO4.at 1 rfl
    have m2 := hO4.at 2 rfl
    have m3 := hO4.at 3 rfl
    have m4 := hO4.at 4 rfl
    have m5 := hO4.at 5 rfl
    have m6 := hO4.at 6 rfl
    generalize hrg : underB l o4 o3 = rg at *
    have HRG : Hid (ring l (o1, o2, (o3, o4, o5), o6, o7) = rg) := hrg
    clear hrg
    have n0 := World.new_ne w4 _ t0
    have n1 := World.new_ne w4 _ m0
    go_upto_region 7 with fail
    go_cut [10] from 10 to 43 (fun r wc => ∃ bs, r = .pointer (some ⟨bs, 0, none⟩) ∧ w4.heap.size ≤ bs ∧ Blk wc bs (stC ((o1, o2, (o3, o4, o5), o6, o7), !rg, find l o3)) ∧ Below w4.heap.size w4 wc)
    case first =>
      go_region_held3 (fun w' => w'.cell? ⟨w.heap.size, 0, none⟩ = some (.slice a l.length c) ∧ w'.cell? ⟨w.heap.size + 1, 0, none⟩ = some (.int .i64 o1) ∧ w'.cell? ⟨w.heap.size + 1, 1, none⟩ = some (.int .i64 o2) ∧ w'.cell? ⟨w.heap.size + 1, 2, none⟩ = some (.int .i64 o3) ∧ w'.cell? ⟨w.heap.size + 1, 3, none⟩ = some (.int .i64 o4) ∧ w'.cell? ⟨w.heap.size + 1, 4, none⟩ = some (.int .i64 o5) ∧ w'.cell? ⟨w.heap.size + 1, 5, none⟩ = some (.int .i64 o6) ∧ w'.cell? ⟨w.heap.size + 1, 6, none⟩ = some (.int .i64 o7)) (go_keep)
        (first | (go_at_call 15; refine (find_any _ a c l o3 hl ?_).mono ?_; exact hP4; rintro e w5 ⟨rfl, hb5⟩; have hb5' : Below w4.heap.size w4 w5 := ((Below.refl _ w4).drew).trans hb5; have t1 := (hT4.keep hb5').at 0 rfl; have hO5 := hO4.keep hb5'; have m10 := hO5.at 0 rfl; have m11 := hO5.at 1 rfl; have m12 := hO5.at 2 rfl; have m13 := hO5.at 3 rfl; have m14 := hO5.at 4 rfl; have m15 := hO5.at 5 rfl; have m16 := hO5.at 6 rfl; have y0 := World.new_ne w5 _ t1; have y1 := World.new_ne w5 _ m10) | (go_at_call 15; refine (find_any _ a c l o3 hl ?_).mono ?_; exact hP4.below (((Below.refl _ w4).alloc (Nat.le_refl _) _).drew); rintro e w5 ⟨rfl, hb5⟩; have hb5' : Below w4.heap.size w4 w5 := (((Below.refl _ w4).alloc (Nat.le_refl _) _).drew).trans (hb5.mono (by simp)); have hN5 := ((Blk.new w4 (stC noStep) 51).drew).keep hb5; have z0 := hN5.at 0 rfl; have z1 := hN5.at 1 rfl; have z2 := hN5.at 2 rfl; have z3 := hN5.at 3 rfl; have z4 := hN5.at 4 rfl; have z5 := hN5.at 5 rfl; have z6 := hN5.at 6 rfl; have z7 := hN5.at 7 rfl; have z8 := hN5.at 8 rfl; have z9 := hN5.at 9 rfl; have z10 := hN5.at 10 rfl; have zf := hN5.frz; have t1 := (hT4.keep hb5').at 0 rfl; have hO5 := hO4.keep hb5'; have m10 := hO5.at 0 rfl; have m11 := hO5.at 1 rfl; have m12 := hO5.at 2 rfl; have m13 := hO5.at 3 rfl; have m14 := hO5.at 4 rfl; have m15 := hO5.at 5 rfl; have m16 := hO5.at 6 rfl; have y0 := World.new_ne w5 _ t1; have y1 := World.new_ne w5 _ m10))
      · go_wp2
        go_meet
        case rel => exact ⟨w5.heap.size, rfl, hb5'.size, Blk.new w5 (stC ((o1, o2, (o3, o4, o5), o6, o7), !rg, find l o3)) 51, hb5'.alloc hb5'.size _⟩
      · go_wp2
        go_meet
        case rel => exact ⟨w4.heap.size, rfl, Nat.le_refl _, hN5.sets (stC ((o1, o2, (o3, o4, o5), o6, o7), !rg, find l o3)) rfl, below_sets hb5' w4.heap.size (Nat.le_refl _) (stC ((o1, o2, (o3, o4, o5), o6, o7), !rg, find l o3)) 0⟩
    case rest =>
      obtain ⟨bs, rfl, hbs, hS5, hb5⟩ := hcut
      have hT5 := hT4.keep hb5
      have hO5 := hO4.keep hb5
      have hR5 := hR4.keep hb5
      have hQ5 := hQ4.keep hb5
      have hP5 := hP4.below hb5
      have HB5 : Hid (Below w.heap.size w wc) := HB4.out.trans (hb5.mono HB4.out.size)
      have hqlt := hQ4.lt
      have hwc : w.heap.size + 1 + 1 + 1 + 1 ≤ wc.heap.size := by have := hb5.size; omega
      have n2 : ¬ bs = w.heap.size := by omega
      have n3 : ¬ bs = w.heap.size + 1 + 1 := by omega
      have n4 : ¬ bs = w.heap.size + 1 + 1 + 1 := by omega
      have n5 : ¬ w.heap.size + 1 + 1 = bs := by omega
      have n6 : ¬ w.heap.size + 1 + 1 + 1 = bs := by omega
      have n11 : ¬ bs = w.heap.size + 1 := by omega
      have n12 : ¬ w.heap.size + 1 + 1 = w.heap.size + 1 := by omega
      have n13 : ¬ w.heap.size + 1 + 1 + 1 = w.heap.size + 1 := by omega
      have n7 : ¬ w.heap.size + 1 + 1 = w.heap.size := by omega
      have n8 : ¬ w.heap.size + 1 + 1 + 1 = w.heap.size := by omega
      have n9 : ¬ w.heap.size + 1 + 1 + 1 = w.heap.size + 1 + 1 := by omega
      have n10 : ¬ w.heap.size + 1 + 1 = w.heap.size + 1 + 1 + 1 := by omega
      clear hT4 hO4 hR4 hQ4 hP4 HB4 t0 m0 m1 m2 m3 m4 m5 m6 n0 n1
      have t0 := hT5.at 0 rfl
      cases rg
      · have HBY : Hid (Orangery.byNode l) := hby
        clear hby
        have s0 := hS5.at 0 rfl
        have s1 := hS5.at 1 rfl
        have s2 := hS5.at 2 rfl
        have s3 := hS5.at 3 rfl
        have s4 := hS5.at 4 rfl
        have s5 := hS5.at 5 rfl
        have s6 := hS5.at 6 rfl
        have s7 := hS5.at 7 rfl
        have s8 := hS5.at 8 rfl
        have s9 := hS5.at 9 rfl
        have s10 := hS5.at 10 rfl
        have m0 := hO5.at 0 rfl
        have m1 := hO5.at 1 rfl
        have m2 := hO5.at 2 rfl
        have m3 := hO5.at 3 rfl
        have m4 := hO5.at 4 rfl
        have m5 := hO5.at 5 rfl
        have m6 := hO5.at 6 rfl
        go_wp2_with fail
        go_region_held3 (fun w' => w'.cell? ⟨w.heap.size, 0, none⟩ = some (.slice a l.length c) ∧ w'.cell? ⟨w.heap.size + 1, 0, none⟩ = some (.int .i64 o1) ∧ w'.cell? ⟨w.heap.size + 1, 1, none⟩ = some (.int .i64 o2) ∧ w'.cell? ⟨w.heap.size + 1, 2, none⟩ = some (.int .i64 o3) ∧ w'.cell? ⟨w.heap.size + 1, 3, none⟩ = some (.int .i64 o4) ∧ w'.cell? ⟨w.heap.size + 1, 4, none⟩ = some (.int .i64 o5) ∧ w'.cell? ⟨w.heap.size + 1, 5, none⟩ = some (.int .i64 o6) ∧ w'.cell? ⟨w.heap.size + 1, 6, none⟩ = some (.int .i64 o7) ∧ w'.cell? ⟨bs, 0, none⟩ = some (.int .i64 o1) ∧ w'.cell? ⟨bs, 1, none⟩ = some (.int .i64 o2) ∧ w'.cell? ⟨bs, 2, none⟩ = some (.int .i64 o3) ∧ w'.cell? ⟨bs, 3, none⟩ = some (.int .i64 o4) ∧ w'.cell? ⟨bs, 4, none⟩ = some (.int .i64 o5) ∧ w'.cell? ⟨bs, 5, none⟩ = some (.int .i64 o6) ∧ w'.cell? ⟨bs, 6, none⟩ = some (.int .i64 o7) ∧ w'.cell? ⟨bs, 7, none⟩ = some (.bool true) ∧ w'.cell? ⟨bs, 8, none⟩ = some (.int .i64 (find l o3).1) ∧ w'.cell? ⟨bs, 9, none⟩ = some (.int .i64 (find l o3).2.1) ∧ w'.cell? ⟨bs, 10, none⟩ = some (.int .i64 (find l o3).2.2)) (go_keep)
          (first | (go_at_call 56; refine (target_any _ (o1, o2, (o3, o4, o5), o6, o7)).mono ?_; rintro e w6 ⟨rfl, hb6⟩; have hb6' : Below wc.heap.size wc w6 := ((Below.refl _ wc).drew).trans hb6; have hP6 := hP5.below hb6'; have t6 := (hT5.keep hb6').at 0 rfl; have hO6 := hO5.keep hb6'; have m6_0 := hO6.at 0 rfl; have m6_1 := hO6.at 1 rfl; have m6_2 := hO6.at 2 rfl; have m6_3 := hO6.at 3 rfl; have m6_4 := hO6.at 4 rfl; have m6_5 := hO6.at 5 rfl; have m6_6 := hO6.at 6 rfl; have hS6 := hS5.keep hb6'; have s6_0 := hS6.at 0 rfl; have s6_1 := hS6.at 1 rfl; have s6_2 := hS6.at 2 rfl; have s6_3 := hS6.at 3 rfl; have s6_4 := hS6.at 4 rfl; have s6_5 := hS6.at 5 rfl; have s6_6 := hS6.at 6 rfl; have s6_7 := hS6.at 7 rfl; have s6_8 := hS6.at 8 rfl; have s6_9 := hS6.at 9 rfl; have s6_10 := hS6.at 10 rfl) | (go_at_call 55; refine (with_any _ a c l (o3, o4, o5) (by omega) hP6 HBY.out).mono ?_; rintro e w7 ⟨v7, rfl, hO7', hb7⟩; obtain ⟨a7, c7, rfl⟩ := hO7'.val; have hb7' : Below wc.heap.size wc w7 := hb6'.trans (hb7.mono hb6'.size); have t7 := (hT5.keep hb7').at 0 rfl; have hO7 := hO5.keep hb7'; have m7_0 := hO7.at 0 rfl; have m7_1 := hO7.at 1 rfl; have m7_2 := hO7.at 2 rfl; have m7_3 := hO7.at 3 rfl; have m7_4 := hO7.at 4 rfl; have m7_5 := hO7.at 5 rfl; have m7_6 := hO7.at 6 rfl; have hS7 := hS5.keep hb7'; have s7_0 := hS7.at 0 rfl; have s7_1 := hS7.at 1 rfl; have s7_2 := hS7.at 2 rfl; have s7_3 := hS7.at 3 rfl; have s7_4 := hS7.at 4 rfl; have s7_5 := hS7.at 5 rfl; have s7_6 := hS7.at 6 rfl; have s7_7 := hS7.at 7 rfl; have s7_8 := hS7.at 8 rfl; have s7_9 := hS7.at 9 rfl; have s7_10 := hS7.at 10 rfl; have hR7 := hR5.keep hb7'; have r0 := hR7.at 0 rfl; have rf := hR7.frz; have hQ7 := hQ5.keep hb7'; have q0 := hQ7.at 0 rfl; have q1 := hQ7.at 1 rfl; have q2 := hQ7.at 2 rfl; have q3 := hQ7.at 3 rfl; have q4 := hQ7.at 4 rfl; have q5 := hQ7.at 5 rfl; have q6 := hQ7.at 6 rfl; have q7 := hQ7.at 7 rfl; have q8 := hQ7.at 8 rfl; have q9 := hQ7.at 9 rfl; have q10 := hQ7.at 10 rfl; have qf := hQ7.frz))
        go_wp2
        have hRf := (hR7.set 0 (by simp) (.slice a7 (inL l (o3, o4, o5)).length c7)).others (g := w.heap.size + 1 + 1 + 1) (by omega) (stC ((o1, o2, (o3, o4, o5), o6, o7), true, find l o3)) 0
        have hQf := (hQ7.other (g := w.heap.size + 1 + 1) (by omega) 0 (.slice a7 (inL l (o3, o4, o5)).length c7)).sets (stC ((o1, o2, (o3, o4, o5), o6, o7), true, find l o3)) rfl
        refine ret_cell_cell_tmp Try.results22 rfl rfl rfl hRf.tree (hQf.load Try.underlying51 rfl sizeStep) ?_
        refine ⟨.slice a7 (inL l (o3, o4, o5)).length c7, ?_, ?_, ?_⟩
        · rw [HZ.out]
          have e : doS l (o1, o2, (o3, o4, o5), o6, o7) = ((o1, o2, (o3, o4, o5), o6, o7), true, find l o3) := by unfold doS; rw [if_neg (by simp [HZ.out]), HRG.out]; rfl
          rw [e]
          rfl
        · have e : doT l (o1, o2, (o3, o4, o5), o6, o7) = inL l (o3, o4, o5) := by unfold doT; rw [if_neg (by simp [HZ.out]), HRG.out]; rfl
          rw [e]
          have h1 := (hO7'.mono (base' := wc.heap.size) hb6'.size).mono (base' := w.heap.size + 1 + 1 + 1 + 1) (by omega)
          exact (OwnS.others (w.heap.size + 1 + 1 + 1) (by omega) (stC ((o1, o2, (o3, o4, o5), o6, o7), true, find l o3)) 0 _ (h1.other (w.heap.size + 1 + 1) (by omega) 0 _)).mono (by omega)
        · have h1 : Below w.heap.size w w7 := HB5.out.trans (hb7'.mono HB5.out.size)
          exact below_sets (h1.setCell (by show _ ≤ w.heap.size + 1 + 1; omega) _) (w.heap.size + 1 + 1 + 1) (by omega) (stC ((o1, o2, (o3, o4, o5), o6, o7), true, find l o3)) 0
      · have s0 := hS5.at 0 rfl
        have s1 := hS5.at 1 rfl
        have s2 := hS5.at 2 rfl
        have s3 := hS5.at 3 rfl
        have s4 := hS5.at 4 rfl
        have s5 := hS5.at 5 rfl
        have s6 := hS5.at 6 rfl
        have s7 := hS5.at 7 rfl
        have s8 := hS5.at 8 rfl
        have s9 := hS5.at 9 rfl
        have s10 := hS5.at 10 rfl
        go_wp2_with fail
        go_region_held3 (fun w' => w'.cell? ⟨w.heap.size, 0, none⟩ = some (.slice a l.length c) ∧ w'.cell? ⟨bs, 0, none⟩ = some (.int .i64 o1) ∧ w'.cell? ⟨bs, 1, none⟩ = some (.int .i64 o2) ∧ w'.cell? ⟨bs, 2, none⟩ = some (.int .i64 o3) ∧ w'.cell? ⟨bs, 3, none⟩ = some (.int .i64 o4) ∧ w'.cell? ⟨bs, 4, none⟩ = some (.int .i64 o5) ∧ w'.cell? ⟨bs, 5, none⟩ = some (.int .i64 o6) ∧ w'.cell? ⟨bs, 6, none⟩ = some (.int .i64 o7) ∧ w'.cell? ⟨bs, 7, none⟩ = some (.bool false) ∧ w'.cell? ⟨bs, 8, none⟩ = some (.int .i64 (find l o3).1) ∧ w'.cell? ⟨bs, 9, none⟩ = some (.int .i64 (find l o3).2.1) ∧ w'.cell? ⟨bs, 10, none⟩ = some (.int .i64 (find l o3).2.2)) (go_keep)
          (first | (go_at_call 41; refine (clone_any _ a c l (by omega) ?_).mono ?_; exact hP5; rintro e w6 ⟨v6, rfl, hO6, hb6⟩; obtain ⟨a6, c6, rfl⟩ := hO6.val; have hb6' : Below wc.heap.size wc w6 := ((Below.refl _ wc).drew).trans hb6; have t1 := (hT5.keep hb6').at 0 rfl; have hS6 := hS5.keep hb6'; have s10 := hS6.at 0 rfl; have s11 := hS6.at 1 rfl; have s12 := hS6.at 2 rfl; have s13 := hS6.at 3 rfl; have s14 := hS6.at 4 rfl; have s15 := hS6.at 5 rfl; have s16 := hS6.at 6 rfl; have s17 := hS6.at 7 rfl; have s18 := hS6.at 8 rfl; have s19 := hS6.at 9 rfl; have s110 := hS6.at 10 rfl; have hR6 := hR5.keep hb6'; have r0 := hR6.at 0 rfl; have rf := hR6.frz; have hQ6 := hQ5.keep hb6'; have q0 := hQ6.at 0 rfl; have q1 := hQ6.at 1 rfl; have q2 := hQ6.at 2 rfl; have q3 := hQ6.at 3 rfl; have q4 := hQ6.at 4 rfl; have q5 := hQ6.at 5 rfl; have q6 := hQ6.at 6 rfl; have q7 := hQ6.at 7 rfl; have q8 := hQ6.at 8 rfl; have q9 := hQ6.at 9 rfl; have q10 := hQ6.at 10 rfl; have qf := hQ6.frz))
        go_wp2
        have hRf := (hR6.set 0 (by simp) (.slice a6 l.length c6)).others (g := w.heap.size + 1 + 1 + 1) (by omega) (stC ((o1, o2, (o3, o4, o5), o6, o7), false, find l o3)) 0
        have hQf := (hQ6.other (g := w.heap.size + 1 + 1) (by omega) 0 (.slice a6 l.length c6)).sets (stC ((o1, o2, (o3, o4, o5), o6, o7), false, find l o3)) rfl
        refine ret_cell_cell_tmp Try.results22 rfl rfl rfl hRf.tree (hQf.load Try.underlying51 rfl sizeStep) ?_
        refine ⟨.slice a6 l.length c6, ?_, ?_, ?_⟩
        · rw [HZ.out]
          have e : doS l (o1, o2, (o3, o4, o5), o6, o7) = ((o1, o2, (o3, o4, o5), o6, o7), false, find l o3) := by unfold doS; rw [if_neg (by simp [HZ.out]), HRG.out]; rfl
          rw [e]
          rfl
        · have e : doT l (o1, o2, (o3, o4, o5), o6, o7) = l := by unfold doT; rw [if_neg (by simp [HZ.out]), HRG.out]; rfl
          rw [e]
          have h1 := (hO6.mono (base' := wc.heap.size) (Nat.le_refl _)).mono (base' := w.heap.size + 1 + 1 + 1 + 1) (by omega)
          exact (OwnS.others (w.heap.size + 1 + 1 + 1) (by omega) (stC ((o1, o2, (o3, o4, o5), o6, o7), false, find l o3)) 0 _ (h1.other (w.heap.size + 1 + 1) (by omega) 0 _)).mono (by omega)
        · have h1 : Below w.heap.size w w6 := HB5.out.trans (hb6'.mono HB5.out.size)
          exact below_sets (h1.setCell (by show _ ≤ w.heap.size + 1 + 1; omega) _) (w.heap.size + 1 + 1 + 1) (by omega) (stC ((o1, o2, (o3, o4, o5), o6, o7), false, find l o3)) 0
  · have hz' : (orI (check l) (checkOp (o1, o2, (o3, o4, o5), o6, o7)) != 0) = true := by simpa using hz
    have HZ : Hid (orI (check l) (checkOp (o1, o2, (o3, o4, o5), o6, o7)) ≠ 0) := hz
    have HR3 : Hid (Blk W3 (w.heap.size + 1 + 1) [Value.slice none 0 0]) := hR3
    have HQ3 : Hid (Blk W3 (w.heap.size + 1 + 1 + 1) (stC noStep)) := hQ3
    generalize orI (check l) (checkOp (o1, o2, (o3, o4, o5), o6, o7)) = E at *
    have r0 := hR3.at 0 rfl
    have rf := hR3.frz
    clear hz hT3 hO3 hR3 hQ3 hb3 hP3
    have HTH : Hid ((W3.setCell ⟨w.heap.size + 1 + 1, 0, none⟩ (.slice none 0 0)).there (w.heap.size + 1 + 1 + 1) 0 11) := (HQ3.out.other (g := w.heap.size + 1 + 1) (by omega) 0 (.slice none 0 0)).there
    go_wp2_with (refine wpList_store_mid (by rfl) 51 _ _ (by rfl) (w.heap.size + 1 + 1 + 1) 0 (stC noStep).toArray (by rfl) (by rfl) HTH.out sizeStep (all_oneCell_toArray (stC_one _)) ?_)
    have hRf := (HR3.out.set 0 (by simp) (.slice none 0 0)).others (g := w.heap.size + 1 + 1 + 1) (by omega) (stC noStep) 0
    have hQf := (HQ3.out.other (g := w.heap.size + 1 + 1) (by omega) 0 (.slice none 0 0)).sets (stC noStep) rfl
    refine ret_cell_cell_tmp Try.results22 rfl rfl rfl hRf.tree (hQf.load Try.underlying51 rfl sizeStep) ?_
    refine ⟨.slice none 0 0, ?_, ?_, ?_⟩
    · rw [HE.out]
      have e : doS l (o1, o2, (o3, o4, o5), o6, o7) = noStep := by unfold doS; rw [if_pos (by rw [HE.out]; exact HZ.out)]
      rw [e]
      rfl
    · have e : doT l (o1, o2, (o3, o4, o5), o6, o7) = [] := by unfold doT; rw [if_pos (by rw [HE.out]; exact HZ.out)]
      rw [e]
      exact Or.inl ⟨rfl, rfl⟩
    · exact below_sets (HB3.out.setCell (by show _ ≤ w.heap.size + 1 + 1; omega) _) _ (by omega) _ _
end Go.Proofs.Ytphameoibnimmaa
