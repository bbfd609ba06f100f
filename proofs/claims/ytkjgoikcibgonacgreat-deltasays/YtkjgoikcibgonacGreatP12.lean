/- 3 texts of the proof: move.Do. orangerylaw.op; an own slice is read. orangerylaw.differs: a closed fact. -/
import Derived.Deep.RegionHeld3
import Derived.Deep.DeepCutAuto
import Derived.Test.YtkjgoikcibgonacGreatP08
import Derived.Test.YtkjgoikcibgonacGreatP05
import Derived.Test.YtkjgoikcibgonacGreatP04
import Derived.Test.YtkjgoikcibgonacGreatP01
import Derived.Test.YtkjgoikcibgonacGreatP03
import Derived.Test.YtkjgoikcibgonacGreatP11
/- move.Do. -/
namespace Go.Proofs.YtkjgoikcibgonacGreat
open Go.ChangeShapes Go.WideShapes Go.ChangeAt Go.RowKit
open Orangery (Pl Mv Stp outL inL check checkOp doE doT doS ring orI underB underE find noStep noOp)

set_option maxHeartbeats 2000000 in
set_option maxRecDepth 100000 in
theorem do_any (w : World) (a : Option Addr) (c : Nat) (l : List Pl) (o : Mv) (hl : l.length ≤ maxLen) (h : SlP w a l) :
    Calls Tryz.prog 29 #[.agg #[.slice a l.length c], opV o] w
      fun e w' => ∃ v, e = .returned (.tuple #[.agg #[v], stV (doS l o), .int .i64 (doE l o)]) ∧ OwnS w' w.heap.size v (doT l o) ∧ Below w.heap.size w w' := by
  obtain ⟨o1, o2, ⟨o3, o4, o5⟩, o6, o7⟩ := o
  go_enter Tryz.func29, Tryz.ntmps29
  go_wp2_with fail
  obtain ⟨W0, hW, hT, hO, hR, hQ, hB, hS⟩ := laid4 w [Value.slice a l.length c] 62 [Value.int IntKind.i64 o1, Value.int IntKind.i64 o2, Value.int IntKind.i64 o3, Value.int IntKind.i64 o4, Value.int IntKind.i64 o5, Value.int IntKind.i64 o6, Value.int IntKind.i64 o7] 67 [Value.slice none 0 0] 62 [Value.int IntKind.i64 0, Value.int IntKind.i64 0, Value.int IntKind.i64 0, Value.int IntKind.i64 0, Value.int IntKind.i64 0, Value.int IntKind.i64 0, Value.int IntKind.i64 0, Value.bool false, Value.int IntKind.i64 0, Value.int IntKind.i64 0, Value.int IntKind.i64 0] 69
  rw [hW]
  clear hW
  have hP := h.below hB
  clear h
  have t0 := hT.at 0 rfl
  have m0 := hO.at 0 rfl
  have m1 := hO.at 1 rfl
  have m2 := hO.at 2 rfl
  have m3 := hO.at 3 rfl
  have m4 := hO.at 4 rfl
  have m5 := hO.at 5 rfl
  have m6 := hO.at 6 rfl
  go_region_held3 (fun w' => w'.cell? ⟨w.heap.size, 0, none⟩ = some (.slice a l.length c) ∧ w'.cell? ⟨w.heap.size + 1, 0, none⟩ = some (.int .i64 o1) ∧ w'.cell? ⟨w.heap.size + 1, 1, none⟩ = some (.int .i64 o2) ∧ w'.cell? ⟨w.heap.size + 1, 2, none⟩ = some (.int .i64 o3) ∧ w'.cell? ⟨w.heap.size + 1, 3, none⟩ = some (.int .i64 o4) ∧ w'.cell? ⟨w.heap.size + 1, 4, none⟩ = some (.int .i64 o5) ∧ w'.cell? ⟨w.heap.size + 1, 5, none⟩ = some (.int .i64 o6) ∧ w'.cell? ⟨w.heap.size + 1, 6, none⟩ = some (.int .i64 o7)) (go_keep)
    (first | (go_at_call 36; refine (check_any _ a c l hl ?_).mono ?_; exact hP; rintro e w1 ⟨rfl, hb1⟩; have hb1' : Below W0.heap.size W0 w1 := ((Below.refl _ W0).drew).trans hb1; have t1 := (hT.keep hb1').at 0 rfl; have hO1 := hO.keep hb1'; have m10 := hO1.at 0 rfl; have m11 := hO1.at 1 rfl; have m12 := hO1.at 2 rfl; have m13 := hO1.at 3 rfl; have m14 := hO1.at 4 rfl; have m15 := hO1.at 5 rfl; have m16 := hO1.at 6 rfl) | (go_at_call 52; refine (moveCheck_any _ (o1, o2, (o3, o4, o5), o6, o7)).mono ?_; rintro e w2 ⟨rfl, hb2⟩; have hb2' := hb1'.trans (hb2.mono hb1'.size); have t2 := (hT.keep hb2').at 0 rfl; have hO2 := hO.keep hb2'; have m20 := hO2.at 0 rfl; have m21 := hO2.at 1 rfl; have m22 := hO2.at 2 rfl; have m23 := hO2.at 3 rfl; have m24 := hO2.at 4 rfl; have m25 := hO2.at 5 rfl; have m26 := hO2.at 6 rfl) | (go_at_call 14; refine (orE_any _ _ _ (check l) (checkOp (o1, o2, (o3, o4, o5), o6, o7)) ?_ ?_).mono ?_; simp; simp; rintro e w3 ⟨rfl, rfl⟩))
  have HE : Hid (doE l (o1, o2, (o3, o4, o5), o6, o7) = orI (check l) (checkOp (o1, o2, (o3, o4, o5), o6, o7))) := rfl
  have hT3 := (hT.keep hb2').alloc (Obj.cells #[Value.int IntKind.i64 (check l), Value.int IntKind.i64 (checkOp (o1, o2, (o3, o4, o5), o6, o7))] 28)
  have hO3 := hO2.alloc (Obj.cells #[Value.int IntKind.i64 (check l), Value.int IntKind.i64 (checkOp (o1, o2, (o3, o4, o5), o6, o7))] 28)
  have hR3 := (hR.keep hb2').alloc (Obj.cells #[Value.int IntKind.i64 (check l), Value.int IntKind.i64 (checkOp (o1, o2, (o3, o4, o5), o6, o7))] 28)
  have hQ3 := (hQ.keep hb2').alloc (Obj.cells #[Value.int IntKind.i64 (check l), Value.int IntKind.i64 (checkOp (o1, o2, (o3, o4, o5), o6, o7))] 28)
  have hb3 : Below W0.heap.size W0 (w2.alloc (Obj.cells #[Value.int IntKind.i64 (check l), Value.int IntKind.i64 (checkOp (o1, o2, (o3, o4, o5), o6, o7))] 28)) := hb2'.alloc hb2'.size _
  have hP3 := hP.below hb3
  have HB3 : Hid (Below w.heap.size w (w2.alloc (Obj.cells #[Value.int IntKind.i64 (check l), Value.int IntKind.i64 (checkOp (o1, o2, (o3, o4, o5), o6, o7))] 28))) := hB.trans (hb3.mono hB.size)
  generalize w2.alloc (Obj.cells #[Value.int IntKind.i64 (check l), Value.int IntKind.i64 (checkOp (o1, o2, (o3, o4, o5), o6, o7))] 28) = W3 at *
  clear hT hO hR hQ hB hP t0 m0 m1 m2 m3 m4 m5 m6 t1 m10 m11 m12 m13 m14 m15 m16 t2 m20 m21 m22 m23 m24 m25 m26 hb1 hb1' hb2 hb2' hO1 hO2
  by_cases hz : orI (check l) (checkOp (o1, o2, (o3, o4, o5), o6, o7)) = 0
  · obtain ⟨hck, hco⟩ := Orangery.doE_zero (l := l) (o := (o1, o2, (o3, o4, o5), o6, o7)) hz
    have hok := Orangery.checkOp_zero hco
    obtain ⟨hr1, hr2, hr3⟩ := Orangery.opOk_place hok
    have hlen := Orangery.check_len l hck
    have hby := ((Orangery.check_iff l).1 hck).2.1
    have hu1 := (Orangery.underE_ok l o4 o3 hck hr3 hr2).1
    have HZ : Hid (doE l (o1, o2, (o3, o4, o5), o6, o7) = 0) := by show _ = _; rw [HE.out]; exact hz
    rw [hz]
    clear hz hck hco hok hr1 hr2 hr3 HE
    have t0 := hT3.at 0 rfl
    have m0 := hO3.at 0 rfl
    have m1 := hO3.at 1 rfl
    have m2 := hO3.at 2 rfl
    have m3 := hO3.at 3 rfl
    have m4 := hO3.at 4 rfl
    have m5 := hO3.at 5 rfl
    have m6 := hO3.at 6 rfl
    go_wp2_with fail
    refine (under_any W3 a c l o4 o3 hl hP3).mono ?_
    rintro e w4 ⟨rfl, hb4⟩
    rw [hu1]
    have hT4 := hT3.keep hb4
    have hO4 := hO3.keep hb4
    have hR4 := hR3.keep hb4
    have hQ4 := hQ3.keep hb4
    have hP4 := hP3.below hb4
    have HB4 : Hid (Below w.heap.size w w4) := HB3.out.trans (hb4.mono HB3.out.size)
    clear hT3 hO3 hR3 hQ3 hP3 HB3 hb3 hb4 t0 m0 m1 m2 m3 m4 m5 m6 hu1
    have t0 := hT4.at 0 rfl
    have m0 := hO4.at 0 rfl
    have m1 := hO4.at 1 rfl
    have m2 := hO4.at 2 rfl
    have m3 := hO4.at 3 rfl
    have m4 := hO4.at 4 rfl
    have m5 := hO4.at 5 rfl
    have m6 := hO4.at 6 rfl
    generalize hrg : underB l o4 o3 = rg at *
    have HRG : Hid (ring l (o1, o2, (o3, o4, o5), o6, o7) = rg) := hrg
    clear hrg
    have n0 := World.new_ne w4 _ t0
    have n1 := World.new_ne w4 _ m0
    go_upto_region 7 with fail
    go_cut [10] from 10 to 43 (fun r wc => ∃ bs, r = .pointer (some ⟨bs, 0, none⟩) ∧ w4.heap.size ≤ bs ∧ Blk wc bs (stC ((o1, o2, (o3, o4, o5), o6, o7), !rg, find l o3)) ∧ Below w4.heap.size w4 wc)
    case first =>
      go_region_held3 (fun w' => w'.cell? ⟨w.heap.size, 0, none⟩ = some (.slice a l.length c) ∧ w'.cell? ⟨w.heap.size + 1, 0, none⟩ = some (.int .i64 o1) ∧ w'.cell? ⟨w.heap.size + 1, 1, none⟩ = some (.int .i64 o2) ∧ w'.cell? ⟨w.heap.size + 1, 2, none⟩ = some (.int .i64 o3) ∧ w'.cell? ⟨w.heap.size + 1, 3, none⟩ = some (.int .i64 o4) ∧ w'.cell? ⟨w.heap.size + 1, 4, none⟩ = some (.int .i64 o5) ∧ w'.cell? ⟨w.heap.size + 1, 5, none⟩ = some (.int .i64 o6) ∧ w'.cell? ⟨w.heap.size + 1, 6, none⟩ = some (.int .i64 o7)) (go_keep)
        (first | (go_at_call 54; refine (find_any _ a c l o3 hl ?_).mono ?_; exact hP4; rintro e w5 ⟨rfl, hb5⟩; have hb5' : Below w4.heap.size w4 w5 := ((Below.refl _ w4).drew).trans hb5; have t1 := (hT4.keep hb5').at 0 rfl; have hO5 := hO4.keep hb5'; have m10 := hO5.at 0 rfl; have m11 := hO5.at 1 rfl; have m12 := hO5.at 2 rfl; have m13 := hO5.at 3 rfl; have m14 := hO5.at 4 rfl; have m15 := hO5.at 5 rfl; have m16 := hO5.at 6 rfl; have y0 := World.new_ne w5 _ t1; have y1 := World.new_ne w5 _ m10) | (go_at_call 54; refine (find_any _ a c l o3 hl ?_).mono ?_; exact hP4.below (((Below.refl _ w4).alloc (Nat.le_refl _) _).drew); rintro e w5 ⟨rfl, hb5⟩; have hb5' : Below w4.heap.size w4 w5 := (((Below.refl _ w4).alloc (Nat.le_refl _) _).drew).trans (hb5.mono (by simp)); have hN5 := ((Blk.new w4 (stC noStep) 69).drew).keep hb5; have z0 := hN5.at 0 rfl; have z1 := hN5.at 1 rfl; have z2 := hN5.at 2 rfl; have z3 := hN5.at 3 rfl; have z4 := hN5.at 4 rfl; have z5 := hN5.at 5 rfl; have z6 := hN5.at 6 rfl; have z7 := hN5.at 7 rfl; have z8 := hN5.at 8 rfl; have z9 := hN5.at 9 rfl; have z10 := hN5.at 10 rfl; have zf := hN5.frz; have t1 := (hT4.keep hb5').at 0 rfl; have hO5 := hO4.keep hb5'; have m10 := hO5.at 0 rfl; have m11 := hO5.at 1 rfl; have m12 := hO5.at 2 rfl; have m13 := hO5.at 3 rfl; have m14 := hO5.at 4 rfl; have m15 := hO5.at 5 rfl; have m16 := hO5.at 6 rfl; have y0 := World.new_ne w5 _ t1; have y1 := World.new_ne w5 _ m10))
      · go_wp2
        go_meet
        case rel => exact ⟨w5.heap.size, rfl, hb5'.size, Blk.new w5 (stC ((o1, o2, (o3, o4, o5), o6, o7), !rg, find l o3)) 69, hb5'.alloc hb5'.size _⟩
      · go_wp2
        go_meet
        case rel => exact ⟨w4.heap.size, rfl, Nat.le_refl _, hN5.sets (stC ((o1, o2, (o3, o4, o5), o6, o7), !rg, find l o3)) rfl, below_sets hb5' w4.heap.size (Nat.le_refl _) (stC ((o1, o2, (o3, o4, o5), o6, o7), !rg, find l o3)) 0⟩
    case rest =>
      obtain ⟨bs, rfl, hbs, hS5, hb5⟩ := hcut
      have hT5 := hT4.keep hb5
      have hO5 := hO4.keep hb5
      have hR5 := hR4.keep hb5
      have hQ5 := hQ4.keep hb5
      have hP5 := hP4.below hb5
      have HB5 : Hid (Below w.heap.size w wc) := HB4.out.trans (hb5.mono HB4.out.size)
      have hqlt := hQ4.lt
      have hwc : w.heap.size + 1 + 1 + 1 + 1 ≤ wc.heap.size := by have := hb5.size; omega
      have n2 : ¬ bs = w.heap.size := by omega
      have n3 : ¬ bs = w.heap.size + 1 + 1 := by omega
      have n4 : ¬ bs = w.heap.size + 1 + 1 + 1 := by omega
      have n5 : ¬ w.heap.size + 1 + 1 = bs := by omega
      have n6 : ¬ w.heap.size + 1 + 1 + 1 = bs := by omega
      have n11 : ¬ bs = w.heap.size + 1 := by omega
      have n12 : ¬ w.heap.size + 1 + 1 = w.heap.size + 1 := by omega
      have n13 : ¬ w.heap.size + 1 + 1 + 1 = w.heap.size + 1 := by omega
      have n7 : ¬ w.heap.size + 1 + 1 = w.heap.size := by omega
      have n8 : ¬ w.heap.size + 1 + 1 + 1 = w.heap.size := by omega
      have n9 : ¬ w.heap.size + 1 + 1 + 1 = w.heap.size + 1 + 1 := by omega
      have n10 : ¬ w.heap.size + 1 + 1 = w.heap.size + 1 + 1 + 1 := by omega
      clear hT4 hO4 hR4 hQ4 hP4 HB4 t0 m0 m1 m2 m3 m4 m5 m6 n0 n1
      have t0 := hT5.at 0 rfl
      cases rg
      · have HBY : Hid (Orangery.byNode l) := hby
        clear hby
        have s0 := hS5.at 0 rfl
        have s1 := hS5.at 1 rfl
        have s2 := hS5.at 2 rfl
        have s3 := hS5.at 3 rfl
        have s4 := hS5.at 4 rfl
        have s5 := hS5.at 5 rfl
        have s6 := hS5.at 6 rfl
        have s7 := hS5.at 7 rfl
        have s8 := hS5.at 8 rfl
        have s9 := hS5.at 9 rfl
        have s10 := hS5.at 10 rfl
        have m0 := hO5.at 0 rfl
        have m1 := hO5.at 1 rfl
        have m2 := hO5.at 2 rfl
        have m3 := hO5.at 3 rfl
        have m4 := hO5.at 4 rfl
        have m5 := hO5.at 5 rfl
        have m6 := hO5.at 6 rfl
        go_wp2_with fail
        go_region_held3 (fun w' => w'.cell? ⟨w.heap.size, 0, none⟩ = some (.slice a l.length c) ∧ w'.cell? ⟨w.heap.size + 1, 0, none⟩ = some (.int .i64 o1) ∧ w'.cell? ⟨w.heap.size + 1, 1, none⟩ = some (.int .i64 o2) ∧ w'.cell? ⟨w.heap.size + 1, 2, none⟩ = some (.int .i64 o3) ∧ w'.cell? ⟨w.heap.size + 1, 3, none⟩ = some (.int .i64 o4) ∧ w'.cell? ⟨w.heap.size + 1, 4, none⟩ = some (.int .i64 o5) ∧ w'.cell? ⟨w.heap.size + 1, 5, none⟩ = some (.int .i64 o6) ∧ w'.cell? ⟨w.heap.size + 1, 6, none⟩ = some (.int .i64 o7) ∧ w'.cell? ⟨bs, 0, none⟩ = some (.int .i64 o1) ∧ w'.cell? ⟨bs, 1, none⟩ = some (.int .i64 o2) ∧ w'.cell? ⟨bs, 2, none⟩ = some (.int .i64 o3) ∧ w'.cell? ⟨bs, 3, none⟩ = some (.int .i64 o4) ∧ w'.cell? ⟨bs, 4, none⟩ = some (.int .i64 o5) ∧ w'.cell? ⟨bs, 5, none⟩ = some (.int .i64 o6) ∧ w'.cell? ⟨bs, 6, none⟩ = some (.int .i64 o7) ∧ w'.cell? ⟨bs, 7, none⟩ = some (.bool true) ∧ w'.cell? ⟨bs, 8, none⟩ = some (.int .i64 (find l o3).1) ∧ w'.cell? ⟨bs, 9, none⟩ = some (.int .i64 (find l o3).2.1) ∧ w'.cell? ⟨bs, 10, none⟩ = some (.int .i64 (find l o3).2.2)) (go_keep)
          (first | (go_at_call 56; refine (target_any _ (o1, o2, (o3, o4, o5), o6, o7)).mono ?_; rintro e w6 ⟨rfl, hb6⟩; have hb6' : Below wc.heap.size wc w6 := ((Below.refl _ wc).drew).trans hb6; have hP6 := hP5.below hb6'; have t6 := (hT5.keep hb6').at 0 rfl; have hO6 := hO5.keep hb6'; have m6_0 := hO6.at 0 rfl; have m6_1 := hO6.at 1 rfl; have m6_2 := hO6.at 2 rfl; have m6_3 := hO6.at 3 rfl; have m6_4 := hO6.at 4 rfl; have m6_5 := hO6.at 5 rfl; have m6_6 := hO6.at 6 rfl; have hS6 := hS5.keep hb6'; have s6_0 := hS6.at 0 rfl; have s6_1 := hS6.at 1 rfl; have s6_2 := hS6.at 2 rfl; have s6_3 := hS6.at 3 rfl; have s6_4 := hS6.at 4 rfl; have s6_5 := hS6.at 5 rfl; have s6_6 := hS6.at 6 rfl; have s6_7 := hS6.at 7 rfl; have s6_8 := hS6.at 8 rfl; have s6_9 := hS6.at 9 rfl; have s6_10 := hS6.at 10 rfl) | (go_at_call 55; refine (with_any _ a c l (o3, o4, o5) (by omega) hP6 HBY.out).mono ?_; rintro e w7 ⟨v7, rfl, hO7', hb7⟩; obtain ⟨a7, c7, rfl⟩ := hO7'.val; have hb7' : Below wc.heap.size wc w7 := hb6'.trans (hb7.mono hb6'.size); have t7 := (hT5.keep hb7').at 0 rfl; have hO7 := hO5.keep hb7'; have m7_0 := hO7.at 0 rfl; have m7_1 := hO7.at 1 rfl; have m7_2 := hO7.at 2 rfl; have m7_3 := hO7.at 3 rfl; have m7_4 := hO7.at 4 rfl; have m7_5 := hO7.at 5 rfl; have m7_6 := hO7.at 6 rfl; have hS7 := hS5.keep hb7'; have s7_0 := hS7.at 0 rfl; have s7_1 := hS7.at 1 rfl; have s7_2 := hS7.at 2 rfl; have s7_3 := hS7.at 3 rfl; have s7_4 := hS7.at 4 rfl; have s7_5 := hS7.at 5 rfl; have s7_6 := hS7.at 6 rfl; have s7_7 := hS7.at 7 rfl; have s7_8 := hS7.at 8 rfl; have s7_9 := hS7.at 9 rfl; have s7_10 := hS7.at 10 rfl; have hR7 := hR5.keep hb7'; have r0 := hR7.at 0 rfl; have rf := hR7.frz; have hQ7 := hQ5.keep hb7'; have q0 := hQ7.at 0 rfl; have q1 := hQ7.at 1 rfl; have q2 := hQ7.at 2 rfl; have q3 := hQ7.at 3 rfl; have q4 := hQ7.at 4 rfl; have q5 := hQ7.at 5 rfl; have q6 := hQ7.at 6 rfl; have q7 := hQ7.at 7 rfl; have q8 := hQ7.at 8 rfl; have q9 := hQ7.at 9 rfl; have q10 := hQ7.at 10 rfl; have qf := hQ7.frz))
        go_wp2
        have hRf := (hR7.set 0 (by simp) (.slice a7 (inL l (o3, o4, o5)).length c7)).others (g := w.heap.size + 1 + 1 + 1) (by omega) (stC ((o1, o2, (o3, o4, o5), o6, o7), true, find l o3)) 0
        have hQf := (hQ7.other (g := w.heap.size + 1 + 1) (by omega) 0 (.slice a7 (inL l (o3, o4, o5)).length c7)).sets (stC ((o1, o2, (o3, o4, o5), o6, o7), true, find l o3)) rfl
        refine ret_cell_cell_tmp Tryz.results29 rfl rfl rfl hRf.tree (hQf.load Tryz.underlying69 rfl sizeStep) ?_
        refine ⟨.slice a7 (inL l (o3, o4, o5)).length c7, ?_, ?_, ?_⟩
        · rw [HZ.out]
          have e : doS l (o1, o2, (o3, o4, o5), o6, o7) = ((o1, o2, (o3, o4, o5), o6, o7), true, find l o3) := by unfold doS; rw [if_neg (by simp [HZ.out]), HRG.out]; rfl
          rw [e]
          rfl
        · have e : doT l (o1, o2, (o3, o4, o5), o6, o7) = inL l (o3, o4, o5) := by unfold doT; rw [if_neg (by simp [HZ.out]), HRG.out]; rfl
          rw [e]
          have h1 := (hO7'.mono (base' := wc.heap.size) hb6'.size).mono (base' := w.heap.size + 1 + 1 + 1 + 1) (by omega)
          exact (OwnS.others (w.heap.size + 1 + 1 + 1) (by omega) (stC ((o1, o2, (o3, o4, o5), o6, o7), true, find l o3)) 0 _ (h1.other (w.heap.size + 1 + 1) (by omega) 0 _)).mono (by omega)
        · have h1 : Below w.heap.size w w7 := HB5.out.trans (hb7'.mono HB5.out.size)
          exact below_sets (h1.setCell (by show _ ≤ w.heap.size + 1 + 1; omega) _) (w.heap.size + 1 + 1 + 1) (by omega) (stC ((o1, o2, (o3, o4, o5), o6, o7), true, find l o3)) 0
      · have s0 := hS5.at 0 rfl
        have s1 := hS5.at 1 rfl
        have s2 := hS5.at 2 rfl
        have s3 := hS5.at 3 rfl
        have s4 := hS5.at 4 rfl
        have s5 := hS5.at 5 rfl
        have s6 := hS5.at 6 rfl
        have s7 := hS5.at 7 rfl
        have s8 := hS5.at 8 rfl
        have s9 := hS5.at 9 rfl
        have s10 := hS5.at 10 rfl
        go_wp2_with fail
        go_region_held3 (fun w' => w'.cell? ⟨w.heap.size, 0, none⟩ = some (.slice a l.length c) ∧ w'.cell? ⟨bs, 0, none⟩ = some (.int .i64 o1) ∧ w'.cell? ⟨bs, 1, none⟩ = some (.int .i64 o2) ∧ w'.cell? ⟨bs, 2, none⟩ = some (.int .i64 o3) ∧ w'.cell? ⟨bs, 3, none⟩ = some (.int .i64 o4) ∧ w'.cell? ⟨bs, 4, none⟩ = some (.int .i64 o5) ∧ w'.cell? ⟨bs, 5, none⟩ = some (.int .i64 o6) ∧ w'.cell? ⟨bs, 6, none⟩ = some (.int .i64 o7) ∧ w'.cell? ⟨bs, 7, none⟩ = some (.bool false) ∧ w'.cell? ⟨bs, 8, none⟩ = some (.int .i64 (find l o3).1) ∧ w'.cell? ⟨bs, 9, none⟩ = some (.int .i64 (find l o3).2.1) ∧ w'.cell? ⟨bs, 10, none⟩ = some (.int .i64 (find l o3).2.2)) (go_keep)
          (first | (go_at_call 40; refine (clone_any _ a c l (by omega) ?_).mono ?_; exact hP5; rintro e w6 ⟨v6, rfl, hO6, hb6⟩; obtain ⟨a6, c6, rfl⟩ := hO6.val; have hb6' : Below wc.heap.size wc w6 := ((Below.refl _ wc).drew).trans hb6; have t1 := (hT5.keep hb6').at 0 rfl; have hS6 := hS5.keep hb6'; have s10 := hS6.at 0 rfl; have s11 := hS6.at 1 rfl; have s12 := hS6.at 2 rfl; have s13 := hS6.at 3 rfl; have s14 := hS6.at 4 rfl; have s15 := hS6.at 5 rfl; have s16 := hS6.at 6 rfl; have s17 := hS6.at 7 rfl; have s18 := hS6.at 8 rfl; have s19 := hS6.at 9 rfl; have s110 := hS6.at 10 rfl; have hR6 := hR5.keep hb6'; have r0 := hR6.at 0 rfl; have rf := hR6.frz; have hQ6 := hQ5.keep hb6'; have q0 := hQ6.at 0 rfl; have q1 := hQ6.at 1 rfl; have q2 := hQ6.at 2 rfl; have q3 := hQ6.at 3 rfl; have q4 := hQ6.at 4 rfl; have q5 := hQ6.at 5 rfl; have q6 := hQ6.at 6 rfl; have q7 := hQ6.at 7 rfl; have q8 := hQ6.at 8 rfl; have q9 := hQ6.at 9 rfl; have q10 := hQ6.at 10 rfl; have qf := hQ6.frz))
        go_wp2
        have hRf := (hR6.set 0 (by simp) (.slice a6 l.length c6)).others (g := w.heap.size + 1 + 1 + 1) (by omega) (stC ((o1, o2, (o3, o4, o5), o6, o7), false, find l o3)) 0
        have hQf := (hQ6.other (g := w.heap.size + 1 + 1) (by omega) 0 (.slice a6 l.length c6)).sets (stC ((o1, o2, (o3, o4, o5), o6, o7), false, find l o3)) rfl
        refine ret_cell_cell_tmp Tryz.results29 rfl rfl rfl hRf.tree (hQf.load Tryz.underlying69 rfl sizeStep) ?_
        refine ⟨.slice a6 l.length c6, ?_, ?_, ?_⟩
        · rw [HZ.out]
          have e : doS l (o1, o2, (o3, o4, o5), o6, o7) = ((o1, o2, (o3, o4, o5), o6, o7), false, find l o3) := by unfold doS; rw [if_neg (by simp [HZ.out]), HRG.out]; rfl
          rw [e]
          rfl
        · have e : doT l (o1, o2, (o3, o4, o5), o6, o7) = l := by unfold doT; rw [if_neg (by simp [HZ.out]), HRG.out]; rfl
          rw [e]
          have h1 := (hO6.mono (base' := wc.heap.size) (Nat.le_refl _)).mono (base' := w.heap.size + 1 + 1 + 1 + 1) (by omega)
          exact (OwnS.others (w.heap.size + 1 + 1 + 1) (by omega) (stC ((o1, o2, (o3, o4, o5), o6, o7), false, find l o3)) 0 _ (h1.other (w.heap.size + 1 + 1) (by omega) 0 _)).mono (by omega)
        · have h1 : Below w.heap.size w w6 := HB5.out.trans (hb6'.mono HB5.out.size)
          exact below_sets (h1.setCell (by show _ ≤ w.heap.size + 1 + 1; omega) _) (w.heap.size + 1 + 1 + 1) (by omega) (stC ((o1, o2, (o3, o4, o5), o6, o7), false, find l o3)) 0
  · have hz' : (orI (check l) (checkOp (o1, o2, (o3, o4, o5), o6, o7)) != 0) = true := by simpa using hz
    have HZ : Hid (orI (check l) (checkOp (o1, o2, (o3, o4, o5), o6, o7)) ≠ 0) := hz
    have HR3 : Hid (Blk W3 (w.heap.size + 1 + 1) [Value.slice none 0 0]) := hR3
    have HQ3 : Hid (Blk W3 (w.heap.size + 1 + 1 + 1) (stC noStep)) := hQ3
    generalize orI (check l) (checkOp (o1, o2, (o3, o4, o5), o6, o7)) = E at *
    have r0 := hR3.at 0 rfl
    have rf := hR3.frz
    clear hz hT3 hO3 hR3 hQ3 hb3 hP3
    have HTH : Hid ((W3.setCell ⟨w.heap.size + 1 + 1, 0, none⟩ (.slice none 0 0)).there (w.heap.size + 1 + 1 + 1) 0 11) := (HQ3.out.other (g := w.heap.size + 1 + 1) (by omega) 0 (.slice none 0 0)).there
    go_wp2_with (refine wpList_store_mid (by rfl) 69 _ _ (by rfl) (w.heap.size + 1 + 1 + 1) 0 (stC noStep).toArray (by rfl) (by rfl) HTH.out sizeStep (all_oneCell_toArray (stC_one _)) ?_)
    have hRf := (HR3.out.set 0 (by simp) (.slice none 0 0)).others (g := w.heap.size + 1 + 1 + 1) (by omega) (stC noStep) 0
    have hQf := (HQ3.out.other (g := w.heap.size + 1 + 1) (by omega) 0 (.slice none 0 0)).sets (stC noStep) rfl
    refine ret_cell_cell_tmp Tryz.results29 rfl rfl rfl hRf.tree (hQf.load Tryz.underlying69 rfl sizeStep) ?_
    refine ⟨.slice none 0 0, ?_, ?_, ?_⟩
    · rw [HE.out]
      have e : doS l (o1, o2, (o3, o4, o5), o6, o7) = noStep := by unfold doS; rw [if_pos (by rw [HE.out]; exact HZ.out)]
      rw [e]
      rfl
    · have e : doT l (o1, o2, (o3, o4, o5), o6, o7) = [] := by unfold doT; rw [if_pos (by rw [HE.out]; exact HZ.out)]
      rw [e]
      exact Or.inl ⟨rfl, rfl⟩
    · exact below_sets (HB3.out.setCell (by show _ ≤ w.heap.size + 1 + 1; omega) _) _ (by omega) _ _
end Go.Proofs.YtkjgoikcibgonacGreat

/- orangerylaw.op; an own slice is read. -/
namespace Go.Proofs.YtkjgoikcibgonacGreat
open Go.ChangeShapes Go.WideShapes Go.ChangeAt Go.RowKit
open Orangery (Pl Mv Stp)

/-- orangerylaw.op -/
def lopO (t u n p : Int) : Mv := (t, u, (n, p, 0), 1, t)

set_option maxHeartbeats 400000 in
theorem lop_any (w : World) (t u n p : Int) :
    Calls Tryz.prog 30 #[.int .i64 t, .int .i64 u, .int .i64 n, .int .i64 p] w fun e w' => e = .returned (opV (lopO t u n p)) ∧ Below w.heap.size w w' := by
  go_enter Tryz.func30, Tryz.ntmps30
  go_wp2
  refine bodyPost_ret (v := opV (lopO t u n p)) (by simp [results, Tryz.results30, go_sem, lopO]) rfl ⟨rfl, Go.Joins.below_alloc1 w _⟩

end Go.Proofs.YtkjgoikcibgonacGreat

/- orangerylaw.differs: a closed fact. -/
namespace Go.Proofs.YtkjgoikcibgonacGreat
open Go.ChangeShapes Go.WideShapes Go.ChangeAt Go.RowKit
open Orangery (Pl Stp ofE ofR ofK ofW viewE smallL doE doT dfE dfG dfH apE apR apL deltaE sameV)

theorem di1 : ofE smallL [2] = 0 ∧ ofR smallL [2] = [2] ∧ ofK smallL [2] = [(2, 1, 7), (4, 2, 0)] ∧ ofW smallL [2] = [(1, 0, 5)] := by decide +kernel
theorem di2 : doE smallL (lopO 1 0 4 3) = 0 ∧ doT smallL (lopO 1 0 4 3) = [(1, 0, 5), (2, 1, 7), (3, 1, 6), (4, 3, 0)] := by decide +kernel
theorem di3 : ofE [(1, 0, 5), (2, 1, 7), (3, 1, 6), (4, 3, 0)] [2] = 0 ∧ ofR [(1, 0, 5), (2, 1, 7), (3, 1, 6), (4, 3, 0)] [2] = [2] ∧ ofK [(1, 0, 5), (2, 1, 7), (3, 1, 6), (4, 3, 0)] [2] = [(2, 1, 7)] ∧ ofW [(1, 0, 5), (2, 1, 7), (3, 1, 6), (4, 3, 0)] [2] = [(1, 0, 5)] := by decide +kernel
theorem di4 : dfE [2] [(2, 1, 7), (4, 2, 0)] [(1, 0, 5)] [2] [(2, 1, 7)] [(1, 0, 5)] = 0 ∧ dfG 0 [(2, 1, 7), (4, 2, 0)] [(2, 1, 7)] = [4] ∧ dfH 0 [(2, 1, 7), (4, 2, 0)] [(2, 1, 7)] = [] ∧ dfG 0 [(1, 0, 5)] [(1, 0, 5)] = [] ∧ dfH 0 [(1, 0, 5)] [(1, 0, 5)] = [] := by decide +kernel
theorem di5 : apE [2] [(2, 1, 7), (4, 2, 0)] [(1, 0, 5)] [4] [] [] [] = 0 ∧ apR 0 [2] = [2] ∧ apL 0 [(2, 1, 7), (4, 2, 0)] [4] [] = [(2, 1, 7)] ∧ apL 0 [(1, 0, 5)] [] [] = [(1, 0, 5)] := by decide +kernel
theorem di6 : sameV [2] [2] [(2, 1, 7)] [(2, 1, 7)] [(1, 0, 5)] [(1, 0, 5)] = true ∧ deltaE [4] [] [] [] = 0 := by decide +kernel

theorem blk_ints1 {w : World} {b : Nat} {x : Int} (h : Blk w b [.int .i64 x]) : SlI w (some ⟨b, 0, none⟩) [x] :=
  Or.inr ⟨b, 0, rfl, h.lt, fun i hi => by
    have : i = 0 := by simp at hi; exact hi
    subst this
    exact h.at 0 rfl⟩
theorem small_4 (w : World) :
    Calls Tryz.prog 28 #[] w fun e w' => (∃ a, e = .returned (.agg #[.slice a 4 4]) ∧ SlP w' a smallL) ∧ Below w.heap.size w w' := small_any w
theorem of_d1 (w : World) (a a' : Option Addr) (c c' : Nat) (h : SlP w a smallL) (h' : SlI w a' [2]) :
    Calls Tryz.prog 27 #[.agg #[.slice a 4 c], .slice a' 1 c'] w fun e w' => ∃ aR cR aK cK aV cV, e = .returned (.tuple #[viV (.slice aR 1 cR) (.slice aK 2 cK) (.slice aV 1 cV), .int .i64 0]) ∧ (aV = none → cV = 0) ∧ SlI w' aR [2] ∧ SlP w' aK [(2, 1, 7), (4, 2, 0)] ∧ SlP w' aV [(1, 0, 5)] ∧ Below w.heap.size w w' := by
  refine (of_any w a a' c c' smallL [2] (by unfold maxLen; decide) (by unfold maxLen; decide) h h').mono ?_
  rintro e w' hv
  rw [di1.1, di1.2.1, di1.2.2.1, di1.2.2.2] at hv
  obtain ⟨aR, aK, aV, cR, cK, cV, rfl, ⟨_, hn⟩, _, hI, hK, hV, hb⟩ := hv
  exact ⟨aR, cR, aK, cK, aV, cV, rfl, hn, hI, hK, hV, hb⟩
theorem do_d (w : World) (a : Option Addr) (c : Nat) (h : SlP w a smallL) :
    Calls Tryz.prog 29 #[.agg #[.slice a 4 c], opV (lopO 1 0 4 3)] w fun e w' => ∃ (s : Stp) (a2 : Option Addr) (c2 : Nat), e = .returned (.tuple #[.agg #[.slice a2 4 c2], stV s, .int .i64 0]) ∧ SlP w' a2 [(1, 0, 5), (2, 1, 7), (3, 1, 6), (4, 3, 0)] ∧ Below w.heap.size w w' := by
  refine (do_any w a c smallL (lopO 1 0 4 3) (by unfold maxLen; decide) h).mono ?_
  rintro e w' ⟨v, rfl, hO, hb⟩
  rw [di2.2] at hO
  rw [di2.1]
  obtain ⟨a2, c2, rfl⟩ := hO.val
  exact ⟨_, a2, c2, rfl, hO.read, hb⟩
theorem of_d2 (w : World) (a a' : Option Addr) (c c' : Nat) (h : SlP w a [(1, 0, 5), (2, 1, 7), (3, 1, 6), (4, 3, 0)]) (h' : SlI w a' [2]) :
    Calls Tryz.prog 27 #[.agg #[.slice a 4 c], .slice a' 1 c'] w fun e w' => ∃ aR cR aK cK aV cV, e = .returned (.tuple #[viV (.slice aR 1 cR) (.slice aK 1 cK) (.slice aV 1 cV), .int .i64 0]) ∧ (aV = none → cV = 0) ∧ SlI w' aR [2] ∧ SlP w' aK [(2, 1, 7)] ∧ SlP w' aV [(1, 0, 5)] ∧ Below w.heap.size w w' := by
  refine (of_any w a a' c c' [(1, 0, 5), (2, 1, 7), (3, 1, 6), (4, 3, 0)] [2] (by unfold maxLen; decide) (by unfold maxLen; decide) h h').mono ?_
  rintro e w' hv
  rw [di3.1, di3.2.1, di3.2.2.1, di3.2.2.2] at hv
  obtain ⟨aR, aK, aV, cR, cK, cV, rfl, ⟨_, hn⟩, _, hI, hK, hV, hb⟩ := hv
  exact ⟨aR, cR, aK, cK, aV, cV, rfl, hn, hI, hK, hV, hb⟩
theorem dof_d (w : World) (aR aK aV bR bK bV : Option Addr) (cR cK cV dR dK dV : Nat) (hc : (aV = none → cV = 0) ∧ (bV = none → dV = 0)) (h1 : SlI w aR [2]) (h2 : SlP w aK [(2, 1, 7), (4, 2, 0)]) (h3 : SlP w aV [(1, 0, 5)]) (h4 : SlI w bR [2]) (h5 : SlP w bK [(2, 1, 7)]) (h6 : SlP w bV [(1, 0, 5)]) :
    Calls Tryz.prog 4 #[viV (.slice aR 1 cR) (.slice aK 2 cK) (.slice aV 1 cV), viV (.slice bR 1 dR) (.slice bK 1 dK) (.slice bV 1 dV)] w
      fun e w' => ∃ aG cG aH cH aX cX aY cY, e = .returned (.tuple #[deV (.slice aG 1 cG) (.slice aH 0 cH) (.slice aX 0 cX) (.slice aY 0 cY), .int .i64 0]) ∧ ((aH = none → cH = 0) ∧ (aY = none → cY = 0)) ∧ SlI w' aG [4] ∧ Below w.heap.size w w' := by
  refine (dof_any w aR aK aV bR bK bV cR cK cV dR dK dV [2] [2] [(2, 1, 7), (4, 2, 0)] [(2, 1, 7)] [(1, 0, 5)] [(1, 0, 5)] (by unfold maxLen; decide) hc h1 h2 h3 h4 h5 h6).mono ?_
  rintro e w' hv
  rw [di4.1, di4.2.1, di4.2.2.1, di4.2.2.2.1, di4.2.2.2.2] at hv
  obtain ⟨aG, aH, aX, aY, cG, cH, cX, cY, rfl, hn, _, hG, _, _, _, hb⟩ := hv
  exact ⟨aG, cG, aH, cH, aX, cX, aY, cY, rfl, hn, hG, hb⟩
theorem apply_d (w : World) (aR aK aV aG aH aX aY : Option Addr) (cR cK cV cG cH cX cY : Nat) (hc : (aV = none → cV = 0) ∧ (aH = none → cH = 0) ∧ (aY = none → cY = 0)) (h1 : SlI w aR [2]) (h2 : SlP w aK [(2, 1, 7), (4, 2, 0)]) (h3 : SlP w aV [(1, 0, 5)]) (h4 : SlI w aG [4]) :
    Calls Tryz.prog 5 #[viV (.slice aR 1 cR) (.slice aK 2 cK) (.slice aV 1 cV), deV (.slice aG 1 cG) (.slice aH 0 cH) (.slice aX 0 cX) (.slice aY 0 cY)] w
      fun e w' => ∃ eR fR eK fK eV fV, e = .returned (.tuple #[viV (.slice eR 1 fR) (.slice eK 1 fK) (.slice eV 1 fV), .int .i64 0]) ∧ SlI w' eR [2] ∧ SlP w' eK [(2, 1, 7)] ∧ SlP w' eV [(1, 0, 5)] ∧ Below w.heap.size w w' := by
  refine (apply_any w aR aK aV aG aH aX aY cR cK cV cG cH cX cY [2] [(2, 1, 7), (4, 2, 0)] [(1, 0, 5)] [4] [] [] [] (by unfold maxLen; decide) hc h1 h2 h3 h4 (Or.inl rfl) (Or.inl rfl) (Or.inl rfl)).mono ?_
  rintro e w' hv
  rw [di5.1, di5.2.1, di5.2.2.1, di5.2.2.2] at hv
  obtain ⟨eR, eK, eV, fR, fK, fV, rfl, _, _, hI, hK, hV, hb⟩ := hv
  exact ⟨eR, fR, eK, fK, eV, fV, rfl, hI, hK, hV, hb⟩

set_option maxHeartbeats 4000000 in
set_option maxRecDepth 100000 in
theorem differs_any (w : World) : Calls Tryz.prog 8 #[] w fun e w' => e = .returned (.bool true) ∧ Below w.heap.size w w' := by
  have HB0 : Hid (Below w.heap.size w w) := Below.refl _ _
  go_enter Tryz.func8, Tryz.ntmps8
  go_wp2_with fail
  refine (small_4 w).mono ?_
  rintro e w1 ⟨⟨a1, rfl, q1⟩, hb⟩
  have HB1 : Hid (Below w.heap.size w w1) := HB0.out.trans (hb.mono HB0.out.size)
  clear  HB0
  clear hb
  have PT1 := q1
  clear q1
  go_wp2_with fail
  obtain ⟨W1, hW1, BN_, hb, -⟩ := laid1 w1 [Value.int IntKind.i64 2] 3
  rw [hW1]
  clear hW1
  have PT2 := PT1.below hb
  have HB2 : Hid (Below w.heap.size w W1) := HB1.out.trans (hb.mono HB1.out.size)
  clear PT1 HB1
  clear hb
  have BN2 := BN_
  clear BN_
  refine (of_d1 W1 a1 _ 4 1 PT2 (blk_ints1 BN2)).mono ?_
  rintro e w2 ⟨aR, cR, aK, cK, aV, cV, rfl, hnV, q1, q2, q3, hb⟩
  have HNV : Hid (aV = none → cV = 0) := hnV
  clear hnV
  have PT3 := PT2.below hb
  have BN3 := BN2.keep hb
  have HB3 : Hid (Below w.heap.size w w2) := HB2.out.trans (hb.mono HB2.out.size)
  clear PT2 BN2 HB2
  clear PT3 BN3
  clear hb
  have P13 := q1
  have P23 := q2
  have P33 := q3
  clear q1 q2 q3
  obtain ⟨W2, hW2, BV_, hb, -⟩ := laid1 w2 [Value.slice aR 1 cR, Value.slice aK 2 cK, Value.slice aV 1 cV] 25
  go_wp2_with fail
  clear hW2
  have P14 := P13.below hb
  have P24 := P23.below hb
  have P34 := P33.below hb
  have HB4 : Hid (Below w.heap.size w W2) := HB3.out.trans (hb.mono HB3.out.size)
  clear P13 P23 P33 HB3
  clear hb
  have BV4 := BV_
  clear BV_
  refine (small_4 W2).mono ?_
  rintro e w3 ⟨⟨a3, rfl, q1⟩, hb⟩
  have P15 := P14.below hb
  have P25 := P24.below hb
  have P35 := P34.below hb
  have BV5 := BV4.keep hb
  have HB5 : Hid (Below w.heap.size w w3) := HB4.out.trans (hb.mono HB4.out.size)
  clear P14 P24 P34 BV4 HB4
  clear hb
  have PT5 := q1
  clear q1
  go_wp2_with fail
  refine (lop_any w3 1 0 4 3).mono ?_
  rintro e w4 ⟨rfl, hb⟩
  have P16 := P15.below hb
  have P26 := P25.below hb
  have P36 := P35.below hb
  have BV6 := BV5.keep hb
  have PT6 := PT5.below hb
  have HB6 : Hid (Below w.heap.size w w4) := HB5.out.trans (hb.mono HB5.out.size)
  clear P15 P25 P35 BV5 PT5 HB5
  clear hb
  have HDO : Hid (Calls Tryz.prog 29 #[.agg #[.slice a3 4 4], opV (lopO 1 0 4 3)] w4 fun e w' => ∃ (s : Stp) (a2 : Option Addr) (c2 : Nat), e = .returned (.tuple #[.agg #[.slice a2 4 c2], stV s, .int .i64 0]) ∧ SlP w' a2 [(1, 0, 5), (2, 1, 7), (3, 1, 6), (4, 3, 0)] ∧ Below w4.heap.size w4 w') := do_d w4 a3 4 PT6
  generalize opV (lopO 1 0 4 3) = ov at *
  go_wp2_with fail
  refine HDO.out.mono ?_
  rintro e w5 ⟨s, a5, c5, rfl, q1, hb⟩
  clear HDO
  clear PT6
  have P17 := P16.below hb
  have P27 := P26.below hb
  have P37 := P36.below hb
  have BV7 := BV6.keep hb
  have HB7 : Hid (Below w.heap.size w w5) := HB6.out.trans (hb.mono HB6.out.size)
  clear P16 P26 P36 BV6 HB6
  clear hb
  have PT7 := q1
  clear q1
  obtain ⟨⟨s1, s2, ⟨s3, s4, s5⟩, s6, s7⟩, s8, s9, s10, s11⟩ := s
  obtain ⟨W5, hW5, BT_, _, hb, -⟩ := laid2 w5 [Value.slice a5 4 c5] 62 [Value.int IntKind.i64 s1, Value.int IntKind.i64 s2, Value.int IntKind.i64 s3, Value.int IntKind.i64 s4, Value.int IntKind.i64 s5, Value.int IntKind.i64 s6, Value.int IntKind.i64 s7, Value.bool s8, Value.int IntKind.i64 s9, Value.int IntKind.i64 s10, Value.int IntKind.i64 s11] 69
  have t0 := BT_.at 0 rfl
  obtain ⟨W6, hW6, BN_, hb6, -⟩ := laid1 W5 [Value.int IntKind.i64 2] 3
  go_wp2_with fail
  clear hW5 hW6 t0 BT_
  have P18 := P17.below hb
  have P28 := P27.below hb
  have P38 := P37.below hb
  have BV8 := BV7.keep hb
  have PT8 := PT7.below hb
  have HB8 : Hid (Below w.heap.size w W5) := HB7.out.trans (hb.mono HB7.out.size)
  clear P17 P27 P37 BV7 PT7 HB7
  clear hb
  have P19 := P18.below hb6
  have P29 := P28.below hb6
  have P39 := P38.below hb6
  have BV9 := BV8.keep hb6
  have PT9 := PT8.below hb6
  have HB9 : Hid (Below w.heap.size w W6) := HB8.out.trans (hb6.mono HB8.out.size)
  clear P18 P28 P38 BV8 PT8 HB8
  clear hb6
  have BN9 := BN_
  clear BN_
  refine (of_d2 W6 a5 _ c5 1 PT9 (blk_ints1 BN9)).mono ?_
  rintro e w7 ⟨bR, dR, bK, dK, bV, dV, rfl, hnV, q1, q2, q3, hb⟩
  have HNW : Hid (bV = none → dV = 0) := hnV
  clear hnV
  have P110 := P19.below hb
  have P210 := P29.below hb
  have P310 := P39.below hb
  have BV10 := BV9.keep hb
  have PT10 := PT9.below hb
  have BN10 := BN9.keep hb
  have HB10 : Hid (Below w.heap.size w w7) := HB9.out.trans (hb.mono HB9.out.size)
  clear P19 P29 P39 BV9 PT9 BN9 HB9
  clear PT10 BN10
  clear hb
  have P410 := q1
  have P510 := q2
  have P610 := q3
  clear q1 q2 q3
  obtain ⟨W7, hW7, BW_, hb, -⟩ := laid1 w7 [Value.slice bR 1 dR, Value.slice bK 1 dK, Value.slice bV 1 dV] 25
  have P111 := P110.below hb
  have P211 := P210.below hb
  have P311 := P310.below hb
  have BV11 := BV10.keep hb
  have P411 := P410.below hb
  have P511 := P510.below hb
  have P611 := P610.below hb
  have HB11 : Hid (Below w.heap.size w W7) := HB10.out.trans (hb.mono HB10.out.size)
  clear P110 P210 P310 BV10 P410 P510 P610 HB10
  clear hb
  have BW11 := BW_
  clear BW_
  have bv_0 := BV11.at 0 rfl
  have bv_1 := BV11.at 1 rfl
  have bv_2 := BV11.at 2 rfl
  have bw_0 := BW11.at 0 rfl
  have bw_1 := BW11.at 1 rfl
  have bw_2 := BW11.at 2 rfl
  go_wp2_with fail
  clear hW7 bv_0 bv_1 bv_2 bw_0 bw_1 bw_2
  refine (dof_d W7 aR aK aV bR bK bV cR cK cV dR dK dV ⟨HNV.out, HNW.out⟩ P111 P211 P311 P411 P511 P611).mono ?_
  rintro e w8 ⟨aG, cG, aH, cH, aX, cX, aY, cY, rfl, hnD, q1, hb⟩
  have HND : Hid ((aH = none → cH = 0) ∧ (aY = none → cY = 0)) := hnD
  clear hnD
  have P112 := P111.below hb
  have P212 := P211.below hb
  have P312 := P311.below hb
  have BV12 := BV11.keep hb
  have P412 := P411.below hb
  have P512 := P511.below hb
  have P612 := P611.below hb
  have BW12 := BW11.keep hb
  have HB12 : Hid (Below w.heap.size w w8) := HB11.out.trans (hb.mono HB11.out.size)
  clear P111 P211 P311 BV11 P411 P511 P611 BW11 HB11
  clear hb
  have P712 := q1
  clear q1
  obtain ⟨W8, hW8, BD_, hb, -⟩ := laid1 w8 [Value.slice aG 1 cG, Value.slice aH 0 cH, Value.slice aX 0 cX, Value.slice aY 0 cY] 27
  have P113 := P112.below hb
  have P213 := P212.below hb
  have P313 := P312.below hb
  have BV13 := BV12.keep hb
  have P413 := P412.below hb
  have P513 := P512.below hb
  have P613 := P612.below hb
  have BW13 := BW12.keep hb
  have P713 := P712.below hb
  have HB13 : Hid (Below w.heap.size w W8) := HB12.out.trans (hb.mono HB12.out.size)
  clear P112 P212 P312 BV12 P412 P512 P612 BW12 P712 HB12
  clear hb
  have BD13 := BD_
  clear BD_
  have bv_0 := BV13.at 0 rfl
  have bv_1 := BV13.at 1 rfl
  have bv_2 := BV13.at 2 rfl
  have bd_0 := BD13.at 0 rfl
  have bd_1 := BD13.at 1 rfl
  have bd_2 := BD13.at 2 rfl
  have bd_3 := BD13.at 3 rfl
  go_wp2_with fail
  clear hW8 bv_0 bv_1 bv_2 bd_0 bd_1 bd_2 bd_3
  refine (apply_d W8 aR aK aV aG aH aX aY cR cK cV cG cH cX cY ⟨HNV.out, HND.out.1, HND.out.2⟩ P113 P213 P313 P713).mono ?_
  rintro e w9 ⟨eR, fR, eK, fK, eV, fV, rfl, q1, q2, q3, hb⟩
  have P114 := P113.below hb
  have P214 := P213.below hb
  have P314 := P313.below hb
  have BV14 := BV13.keep hb
  have P414 := P413.below hb
  have P514 := P513.below hb
  have P614 := P613.below hb
  have BW14 := BW13.keep hb
  have P714 := P713.below hb
  have BD14 := BD13.keep hb
  have HB14 : Hid (Below w.heap.size w w9) := HB13.out.trans (hb.mono HB13.out.size)
  clear P113 P213 P313 BV13 P413 P513 P613 BW13 P713 BD13 HB13
  clear hb
  clear P114 P214 P314 BV14
  have P814 := q1
  have P914 := q2
  have PA14 := q3
  clear q1 q2 q3
  obtain ⟨W9, hW9, BX_, hb, -⟩ := laid1 w9 [Value.slice eR 1 fR, Value.slice eK 1 fK, Value.slice eV 1 fV] 25
  have P415 := P414.below hb
  have P515 := P514.below hb
  have P615 := P614.below hb
  have BW15 := BW14.keep hb
  have P715 := P714.below hb
  have BD15 := BD14.keep hb
  have P815 := P814.below hb
  have P915 := P914.below hb
  have PA15 := PA14.below hb
  have HB15 : Hid (Below w.heap.size w W9) := HB14.out.trans (hb.mono HB14.out.size)
  clear P414 P514 P614 BW14 P714 BD14 P814 P914 PA14 HB14
  clear hb
  have BX15 := BX_
  clear BX_
  have bd_0 := BD15.at 0 rfl
  have bd_1 := BD15.at 1 rfl
  have bd_2 := BD15.at 2 rfl
  have bd_3 := BD15.at 3 rfl
  obtain ⟨WA, hWA, BN_, hb, -⟩ := laid1 W9 [Value.int IntKind.i64 4] 3
  go_wp2_with fail
  clear hW9 hWA bd_0 bd_1 bd_2 bd_3
  have P416 := P415.below hb
  have P516 := P515.below hb
  have P616 := P615.below hb
  have BW16 := BW15.keep hb
  have P716 := P715.below hb
  have BD16 := BD15.keep hb
  have P816 := P815.below hb
  have P916 := P915.below hb
  have PA16 := PA15.below hb
  have BX16 := BX15.keep hb
  have HB16 : Hid (Below w.heap.size w WA) := HB15.out.trans (hb.mono HB15.out.size)
  clear P415 P515 P615 BW15 P715 BD15 P815 P915 PA15 BX15 HB15
  clear hb
  have BN16 := BN_
  clear BN_
  refine (equal_is WA aG _ cG 1 [4] [4] (by unfold maxLen; decide) P716 (blk_ints1 BN16)).mono ?_
  rintro e wb ⟨rfl, nq, rfl⟩
  have hb : Below WA.heap.size WA (WA.drewN nq) := ⟨rfl, rfl, rfl, Nat.le_refl _, fun _ _ => rfl⟩
  generalize WA.drewN nq = wb at *
  have P417 := P416.below hb
  have P517 := P516.below hb
  have P617 := P616.below hb
  have BW17 := BW16.keep hb
  have P717 := P716.below hb
  have BD17 := BD16.keep hb
  have P817 := P816.below hb
  have P917 := P916.below hb
  have PA17 := PA16.below hb
  have BX17 := BX16.keep hb
  have BN17 := BN16.keep hb
  have HB17 : Hid (Below w.heap.size w wb) := HB16.out.trans (hb.mono HB16.out.size)
  clear P416 P516 P616 BW16 P716 BD16 P816 P916 PA16 BX16 BN16 HB16
  clear hb
  clear BN17
  have e0 : eqIs [4] [4] = true := by decide
  rw [e0]
  have bx_0 := BX17.at 0 rfl
  have bx_1 := BX17.at 1 rfl
  have bx_2 := BX17.at 2 rfl
  have bw_0 := BW17.at 0 rfl
  have bw_1 := BW17.at 1 rfl
  have bw_2 := BW17.at 2 rfl
  have bd_0 := BD17.at 0 rfl
  have bd_1 := BD17.at 1 rfl
  have bd_2 := BD17.at 2 rfl
  have bd_3 := BD17.at 3 rfl
  go_wp2_with fail
  clear bx_0 bx_1 bx_2 bw_0 bw_1 bw_2 bd_0 bd_1 bd_2 bd_3
  refine (vsame_any wb eR eK eV bR bK bV fR fK fV dR dK dV [2] [2] [(2, 1, 7)] [(2, 1, 7)] [(1, 0, 5)] [(1, 0, 5)] (by unfold maxLen; decide) (by unfold maxLen; decide) (by unfold maxLen; decide) P817 P917 PA17 P417 P517 P617).mono ?_
  rintro e wd ⟨rfl, hb⟩
  rw [di6.1]
  have P418 := P417.below hb
  have P518 := P517.below hb
  have P618 := P617.below hb
  have BW18 := BW17.keep hb
  have P718 := P717.below hb
  have BD18 := BD17.keep hb
  have P818 := P817.below hb
  have P918 := P917.below hb
  have PA18 := PA17.below hb
  have BX18 := BX17.keep hb
  have HB18 : Hid (Below w.heap.size w wd) := HB17.out.trans (hb.mono HB17.out.size)
  clear P417 P517 P617 BW17 P717 BD17 P817 P917 PA17 BX17 HB17
  clear hb
  have bd_0 := BD18.at 0 rfl
  have bd_1 := BD18.at 1 rfl
  have bd_2 := BD18.at 2 rfl
  have bd_3 := BD18.at 3 rfl
  go_wp2_with fail
  refine (dcheck_any wd aG aH aX aY cG cH cX cY [4] [] [] [] (by unfold maxLen; decide) P718 (Or.inl rfl) (Or.inl rfl) (Or.inl rfl)).mono ?_
  rintro e we ⟨rfl, hb⟩
  rw [di6.2]
  have P419 := P418.below hb
  have P519 := P518.below hb
  have P619 := P618.below hb
  have BW19 := BW18.keep hb
  have P719 := P718.below hb
  have BD19 := BD18.keep hb
  have P819 := P818.below hb
  have P919 := P918.below hb
  have PA19 := PA18.below hb
  have BX19 := BX18.keep hb
  have HB19 : Hid (Below w.heap.size w we) := HB18.out.trans (hb.mono HB18.out.size)
  clear P418 P518 P618 BW18 P718 BD18 P818 P918 PA18 BX18 HB18
  clear hb bd_0 bd_1 bd_2 bd_3
  clear P419 P519 P619 BW19 P719 BD19 P819 P919 PA19 BX19
  go_wp2
  go_ret
  exact ⟨rfl, HB19.out⟩
end Go.Proofs.YtkjgoikcibgonacGreat

