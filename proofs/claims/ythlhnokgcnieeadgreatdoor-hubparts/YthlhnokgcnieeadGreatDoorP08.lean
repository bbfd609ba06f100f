/- 6 texts of the proof: move.Do. orangerylaw.op; an own slice is read. history.play: operations done one after the other. slices.SortFunc on a row of the call's own, whatever its elements: a permutation, in order. slices.SortFunc at operations is the library's, by its own laws. Plain facts on chapter 3, further: stamps that are there, and what sorting by stamps makes. -/
import Derived.Deep.RegionHeld3
import Derived.Deep.DeepCutAuto
import Derived.Shelf.SlSortCmp.NoneTotal
import Derived.Shelf.SlSortCmp.WholeK
import Derived.Shelf.SlGeneric
import Derived.Ground.SlsfProg
import Derived.Test.YthlhnokgcnieeadGreatDoorProg
import Derived.Test.YthlhnokgcnieeadGreatDoorP07
import Derived.Test.YthlhnokgcnieeadGreatDoorP04
import Derived.Test.YthlhnokgcnieeadGreatDoorP05
import Derived.Test.YthlhnokgcnieeadGreatDoorP01
import Derived.Test.YthlhnokgcnieeadGreatDoorP03
/- move.Do. -/
namespace Go.Proofs.YthlhnokgcnieeadGreatDoor
open Go.ChangeShapes Go.WideShapes Go.ChangeAt Go.RowKit
open Orangery (Pl Mv Stp outL inL check checkOp doE doT doS ring orI underB underE find noStep noOp)

set_option maxHeartbeats 2000000 in
set_option maxRecDepth 100000 in
theorem do_any (w : World) (a : Option Addr) (c : Nat) (l : List Pl) (o : Mv) (hl : l.length ≤ maxLen) (h : SlP w a l) :
    Calls Tryz.prog 99 #[.agg #[.slice a l.length c], opV o] w
      fun e w' => ∃ v, e = .returned (.tuple #[.agg #[v], stV (doS l o), .int .i64 (doE l o)]) ∧ OwnS w' w.heap.size v (doT l o) ∧ Below w.heap.size w w' := by
  obtain ⟨o1, o2, ⟨o3, o4, o5⟩, o6, o7⟩ := o
  go_enter Tryz.func99, Tryz.ntmps99
  go_wp2_with fail
  obtain ⟨W0, hW, hT, hO, hR, hQ, hB, hS⟩ := laid4 w [Value.slice a l.length c] 26 [Value.int IntKind.i64 o1, Value.int IntKind.i64 o2, Value.int IntKind.i64 o3, Value.int IntKind.i64 o4, Value.int IntKind.i64 o5, Value.int IntKind.i64 o6, Value.int IntKind.i64 o7] 41 [Value.slice none 0 0] 26 [Value.int IntKind.i64 0, Value.int IntKind.i64 0, Value.int IntKind.i64 0, Value.int IntKind.i64 0, Value.int IntKind.i64 0, Value.int IntKind.i64 0, Value.int IntKind.i64 0, Value.bool false, Value.int IntKind.i64 0, Value.int IntKind.i64 0, Value.int IntKind.i64 0] 95
  rw [hW]
  clear hW
  have hP := h.below hB
  clear h
  have t0 := hT.at 0 rfl
  have m0 := hO.at 0 rfl
  have m1 := hO.at 1 rfl
  have m2 := hO.at 2 rfl
  have m3 := hO.at 3 rfl
  have m4 := hO.at 4 rfl
  have m5 := hO.at 5 rfl
  have m6 := hO.at 6 rfl
  go_region_held3 (fun w' => w'.cell? ⟨w.heap.size, 0, none⟩ = some (.slice a l.length c) ∧ w'.cell? ⟨w.heap.size + 1, 0, none⟩ = some (.int .i64 o1) ∧ w'.cell? ⟨w.heap.size + 1, 1, none⟩ = some (.int .i64 o2) ∧ w'.cell? ⟨w.heap.size + 1, 2, none⟩ = some (.int .i64 o3) ∧ w'.cell? ⟨w.heap.size + 1, 3, none⟩ = some (.int .i64 o4) ∧ w'.cell? ⟨w.heap.size + 1, 4, none⟩ = some (.int .i64 o5) ∧ w'.cell? ⟨w.heap.size + 1, 5, none⟩ = some (.int .i64 o6) ∧ w'.cell? ⟨w.heap.size + 1, 6, none⟩ = some (.int .i64 o7)) (go_keep)
    (first | (go_at_call 57; refine (check_any _ a c l hl ?_).mono ?_; exact hP; rintro e w1 ⟨rfl, hb1⟩; have hb1' : Below W0.heap.size W0 w1 := ((Below.refl _ W0).drew).trans hb1; have t1 := (hT.keep hb1').at 0 rfl; have hO1 := hO.keep hb1'; have m10 := hO1.at 0 rfl; have m11 := hO1.at 1 rfl; have m12 := hO1.at 2 rfl; have m13 := hO1.at 3 rfl; have m14 := hO1.at 4 rfl; have m15 := hO1.at 5 rfl; have m16 := hO1.at 6 rfl) | (go_at_call 62; refine (moveCheck_any _ (o1, o2, (o3, o4, o5), o6, o7)).mono ?_; rintro e w2 ⟨rfl, hb2⟩; have hb2' := hb1'.trans (hb2.mono hb1'.size); have t2 := (hT.keep hb2').at 0 rfl; have hO2 := hO.keep hb2'; have m20 := hO2.at 0 rfl; have m21 := hO2.at 1 rfl; have m22 := hO2.at 2 rfl; have m23 := hO2.at 3 rfl; have m24 := hO2.at 4 rfl; have m25 := hO2.at 5 rfl; have m26 := hO2.at 6 rfl) | (go_at_call 20; refine (orE_any _ _ _ (check l) (checkOp (o1, o2, (o3, o4, o5), o6, o7)) ?_ ?_).mono ?_; simp; simp; rintro e w3 ⟨rfl, rfl⟩))
  have HE : Hid (doE l (o1, o2, (o3, o4, o5), o6, o7) = orI (check l) (checkOp (o1, o2, (o3, o4, o5), o6, o7))) := rfl
  have hT3 := (hT.keep hb2').alloc (Obj.cells #[Value.int IntKind.i64 (check l), Value.int IntKind.i64 (checkOp (o1, o2, (o3, o4, o5), o6, o7))] 32)
  have hO3 := hO2.alloc (Obj.cells #[Value.int IntKind.i64 (check l), Value.int IntKind.i64 (checkOp (o1, o2, (o3, o4, o5), o6, o7))] 32)
  have hR3 := (hR.keep hb2').alloc (Obj.cells #[Value.int IntKind.i64 (check l), Value.int IntKind.i64 (checkOp (o1, o2, (o3, o4, o5), o6, o7))] 32)
  have hQ3 := (hQ.keep hb2').alloc (Obj.cells #[Value.int IntKind.i64 (check l), Value.int IntKind.i64 (checkOp (o1, o2, (o3, o4, o5), o6, o7))] 32)
  have hb3 : Below W0.heap.size W0 (w2.alloc (Obj.cells #[Value.int IntKind.i64 (check l), Value.int IntKind.i64 (checkOp (o1, o2, (o3, o4, o5), o6, o7))] 32)) := hb2'.alloc hb2'.size _
  have hP3 := hP.below hb3
  have HB3 : Hid (Below w.heap.size w (w2.alloc (Obj.cells #[Value.int IntKind.i64 (check l), Value.int IntKind.i64 (checkOp (o1, o2, (o3, o4, o5), o6, o7))] 32))) := hB.trans (hb3.mono hB.size)
  generalize w2.alloc (Obj.cells #[Value.int IntKind.i64 (check l), Value.int IntKind.i64 (checkOp (o1, o2, (o3, o4, o5), o6, o7))] 32) = W3 at *
  clear hT hO hR hQ hB hP t0 m0 m1 m2 m3 m4 m5 m6 t1 m10 m11 m12 m13 m14 m15 m16 t2 m20 m21 m22 m23 m24 m25 m26 hb1 hb1' hb2 hb2' hO1 hO2
  by_cases hz : orI (check l) (checkOp (o1, o2, (o3, o4, o5), o6, o7)) = 0
  · obtain ⟨hck, hco⟩ := Orangery.doE_zero (l := l) (o := (o1, o2, (o3, o4, o5), o6, o7)) hz
    have hok := Orangery.checkOp_zero hco
    obtain ⟨hr1, hr2, hr3⟩ := Orangery.opOk_place hok
    have hlen := Orangery.check_len l hck
    have hby := ((Orangery.check_iff l).1 hck).2.1
    have hu1 := (Orangery.underE_ok l o4 o3 hck hr3 hr2).1
    have HZ : Hid (doE l (o1, o2, (o3, o4, o5), o6, o7) = 0) := by show _ = _; rw [HE.out]; exact hz
    rw [hz]
    clear hz hck hco hok hr1 hr2 hr3 HE
    have t0 := hT3.at 0 rfl
    have m0 := hO3.at 0 rfl
    have m1 := hO3.at 1 rfl
    have m2 := hO3.at 2 rfl
    have m3 := hO3.at 3 rfl
    have m4 := hO3.at 4 rfl
    have m5 := hO3.at 5 rfl
    have m6 := hO3.at 6 rfl
    go_wp2_with fail
    refine (under_any W3 a c l o4 o3 hl hP3).mono ?_
    rintro e w4 ⟨rfl, hb4⟩
    rw [hu1]
    have hT4 := hT3.keep hb4
    have hO4 := hO3.keep hb4
    have hR4 := hR3.keep hb4
    have hQ4 := hQ3.keep hb4
    have hP4 := hP3.below hb4
    have HB4 : Hid (Below w.heap.size w w4) := HB3.out.trans (hb4.mono HB3.out.size)
    clear hT3 hO3 hR3 hQ3 hP3 HB3 hb3 hb4 t0 m0 m1 m2 m3 m4 m5 m6 hu1
    have t0 := hT4.at 0 rfl
    have m0 := hO4.at 0 rfl
    have m1 := hO4.at 1 rfl
    have m2 := hO4.at 2 rfl
    have m3 := hO4.at 3 rfl
    have m4 := hO4.at 4 rfl
    have m5 := hO4.at 5 rfl
    have m6 := hO4.at 6 rfl
    generalize hrg : underB l o4 o3 = rg at *
    have HRG : Hid (ring l (o1, o2, (o3, o4, o5), o6, o7) = rg) := hrg
    clear hrg
    have n0 := World.new_ne w4 _ t0
    have n1 := World.new_ne w4 _ m0
    go_upto_region 7 with fail
    go_cut [10] from 10 to 43 (fun r wc => ∃ bs, r = .pointer (some ⟨bs, 0, none⟩) ∧ w4.heap.size ≤ bs ∧ Blk wc bs (stC ((o1, o2, (o3, o4, o5), o6, o7), !rg, find l o3)) ∧ Below w4.heap.size w4 wc)
    case first =>
      go_region_held3 (fun w' => w'.cell? ⟨w.heap.size, 0, none⟩ = some (.slice a l.length c) ∧ w'.cell? ⟨w.heap.size + 1, 0, none⟩ = some (.int .i64 o1) ∧ w'.cell? ⟨w.heap.size + 1, 1, none⟩ = some (.int .i64 o2) ∧ w'.cell? ⟨w.heap.size + 1, 2, none⟩ = some (.int .i64 o3) ∧ w'.cell? ⟨w.heap.size + 1, 3, none⟩ = some (.int .i64 o4) ∧ w'.cell? ⟨w.heap.size + 1, 4, none⟩ = some (.int .i64 o5) ∧ w'.cell? ⟨w.heap.size + 1, 5, none⟩ = some (.int .i64 o6) ∧ w'.cell? ⟨w.heap.size + 1, 6, none⟩ = some (.int .i64 o7)) (go_keep)
        (first | (go_at_call 90; refine (find_any _ a c l o3 hl ?_).mono ?_; exact hP4; rintro e w5 ⟨rfl, hb5⟩; have hb5' : Below w4.heap.size w4 w5 := ((Below.refl _ w4).drew).trans hb5; have t1 := (hT4.keep hb5').at 0 rfl; have hO5 := hO4.keep hb5'; have m10 := hO5.at 0 rfl; have m11 := hO5.at 1 rfl; have m12 := hO5.at 2 rfl; have m13 := hO5.at 3 rfl; have m14 := hO5.at 4 rfl; have m15 := hO5.at 5 rfl; have m16 := hO5.at 6 rfl; have y0 := World.new_ne w5 _ t1; have y1 := World.new_ne w5 _ m10) | (go_at_call 90; refine (find_any _ a c l o3 hl ?_).mono ?_; exact hP4.below (((Below.refl _ w4).alloc (Nat.le_refl _) _).drew); rintro e w5 ⟨rfl, hb5⟩; have hb5' : Below w4.heap.size w4 w5 := (((Below.refl _ w4).alloc (Nat.le_refl _) _).drew).trans (hb5.mono (by simp)); have hN5 := ((Blk.new w4 (stC noStep) 95).drew).keep hb5; have z0 := hN5.at 0 rfl; have z1 := hN5.at 1 rfl; have z2 := hN5.at 2 rfl; have z3 := hN5.at 3 rfl; have z4 := hN5.at 4 rfl; have z5 := hN5.at 5 rfl; have z6 := hN5.at 6 rfl; have z7 := hN5.at 7 rfl; have z8 := hN5.at 8 rfl; have z9 := hN5.at 9 rfl; have z10 := hN5.at 10 rfl; have zf := hN5.frz; have t1 := (hT4.keep hb5').at 0 rfl; have hO5 := hO4.keep hb5'; have m10 := hO5.at 0 rfl; have m11 := hO5.at 1 rfl; have m12 := hO5.at 2 rfl; have m13 := hO5.at 3 rfl; have m14 := hO5.at 4 rfl; have m15 := hO5.at 5 rfl; have m16 := hO5.at 6 rfl; have y0 := World.new_ne w5 _ t1; have y1 := World.new_ne w5 _ m10))
      · go_wp2
        go_meet
        case rel => exact ⟨w5.heap.size, rfl, hb5'.size, Blk.new w5 (stC ((o1, o2, (o3, o4, o5), o6, o7), !rg, find l o3)) 95, hb5'.alloc hb5'.size _⟩
      · go_wp2
        go_meet
        case rel => exact ⟨w4.heap.size, rfl, Nat.le_refl _, hN5.sets (stC ((o1, o2, (o3, o4, o5), o6, o7), !rg, find l o3)) rfl, below_sets hb5' w4.heap.size (Nat.le_refl _) (stC ((o1, o2, (o3, o4, o5), o6, o7), !rg, find l o3)) 0⟩
    case rest =>
      obtain ⟨bs, rfl, hbs, hS5, hb5⟩ := hcut
      have hT5 := hT4.keep hb5
      have hO5 := hO4.keep hb5
      have hR5 := hR4.keep hb5
      have hQ5 := hQ4.keep hb5
      have hP5 := hP4.below hb5
      have HB5 : Hid (Below w.heap.size w wc) := HB4.out.trans (hb5.mono HB4.out.size)
      have hqlt := hQ4.lt
      have hwc : w.heap.size + 1 + 1 + 1 + 1 ≤ wc.heap.size := by have := hb5.size; omega
      have n2 : ¬ bs = w.heap.size := by omega
      have n3 : ¬ bs = w.heap.size + 1 + 1 := by omega
      have n4 : ¬ bs = w.heap.size + 1 + 1 + 1 := by omega
      have n5 : ¬ w.heap.size + 1 + 1 = bs := by omega
      have n6 : ¬ w.heap.size + 1 + 1 + 1 = bs := by omega
      have n11 : ¬ bs = w.heap.size + 1 := by omega
      have n12 : ¬ w.heap.size + 1 + 1 = w.heap.size + 1 := by omega
      have n13 : ¬ w.heap.size + 1 + 1 + 1 = w.heap.size + 1 := by omega
      have n7 : ¬ w.heap.size + 1 + 1 = w.heap.size := by omega
      have n8 : ¬ w.heap.size + 1 + 1 + 1 = w.heap.size := by omega
      have n9 : ¬ w.heap.size + 1 + 1 + 1 = w.heap.size + 1 + 1 := by omega
      have n10 : ¬ w.heap.size + 1 + 1 = w.heap.size + 1 + 1 + 1 := by omega
      clear hT4 hO4 hR4 hQ4 hP4 HB4 t0 m0 m1 m2 m3 m4 m5 m6 n0 n1
      have t0 := hT5.at 0 rfl
      cases rg
      · have HBY : Hid (Orangery.byNode l) := hby
        clear hby
        have s0 := hS5.at 0 rfl
        have s1 := hS5.at 1 rfl
        have s2 := hS5.at 2 rfl
        have s3 := hS5.at 3 rfl
        have s4 := hS5.at 4 rfl
        have s5 := hS5.at 5 rfl
        have s6 := hS5.at 6 rfl
        have s7 := hS5.at 7 rfl
        have s8 := hS5.at 8 rfl
        have s9 := hS5.at 9 rfl
        have s10 := hS5.at 10 rfl
        have m0 := hO5.at 0 rfl
        have m1 := hO5.at 1 rfl
        have m2 := hO5.at 2 rfl
        have m3 := hO5.at 3 rfl
        have m4 := hO5.at 4 rfl
        have m5 := hO5.at 5 rfl
        have m6 := hO5.at 6 rfl
        go_wp2_with fail
        go_region_held3 (fun w' => w'.cell? ⟨w.heap.size, 0, none⟩ = some (.slice a l.length c) ∧ w'.cell? ⟨w.heap.size + 1, 0, none⟩ = some (.int .i64 o1) ∧ w'.cell? ⟨w.heap.size + 1, 1, none⟩ = some (.int .i64 o2) ∧ w'.cell? ⟨w.heap.size + 1, 2, none⟩ = some (.int .i64 o3) ∧ w'.cell? ⟨w.heap.size + 1, 3, none⟩ = some (.int .i64 o4) ∧ w'.cell? ⟨w.heap.size + 1, 4, none⟩ = some (.int .i64 o5) ∧ w'.cell? ⟨w.heap.size + 1, 5, none⟩ = some (.int .i64 o6) ∧ w'.cell? ⟨w.heap.size + 1, 6, none⟩ = some (.int .i64 o7) ∧ w'.cell? ⟨bs, 0, none⟩ = some (.int .i64 o1) ∧ w'.cell? ⟨bs, 1, none⟩ = some (.int .i64 o2) ∧ w'.cell? ⟨bs, 2, none⟩ = some (.int .i64 o3) ∧ w'.cell? ⟨bs, 3, none⟩ = some (.int .i64 o4) ∧ w'.cell? ⟨bs, 4, none⟩ = some (.int .i64 o5) ∧ w'.cell? ⟨bs, 5, none⟩ = some (.int .i64 o6) ∧ w'.cell? ⟨bs, 6, none⟩ = some (.int .i64 o7) ∧ w'.cell? ⟨bs, 7, none⟩ = some (.bool true) ∧ w'.cell? ⟨bs, 8, none⟩ = some (.int .i64 (find l o3).1) ∧ w'.cell? ⟨bs, 9, none⟩ = some (.int .i64 (find l o3).2.1) ∧ w'.cell? ⟨bs, 10, none⟩ = some (.int .i64 (find l o3).2.2)) (go_keep)
          (first | (go_at_call 125; refine (target_any _ (o1, o2, (o3, o4, o5), o6, o7)).mono ?_; rintro e w6 ⟨rfl, hb6⟩; have hb6' : Below wc.heap.size wc w6 := ((Below.refl _ wc).drew).trans hb6; have hP6 := hP5.below hb6'; have t6 := (hT5.keep hb6').at 0 rfl; have hO6 := hO5.keep hb6'; have m6_0 := hO6.at 0 rfl; have m6_1 := hO6.at 1 rfl; have m6_2 := hO6.at 2 rfl; have m6_3 := hO6.at 3 rfl; have m6_4 := hO6.at 4 rfl; have m6_5 := hO6.at 5 rfl; have m6_6 := hO6.at 6 rfl; have hS6 := hS5.keep hb6'; have s6_0 := hS6.at 0 rfl; have s6_1 := hS6.at 1 rfl; have s6_2 := hS6.at 2 rfl; have s6_3 := hS6.at 3 rfl; have s6_4 := hS6.at 4 rfl; have s6_5 := hS6.at 5 rfl; have s6_6 := hS6.at 6 rfl; have s6_7 := hS6.at 7 rfl; have s6_8 := hS6.at 8 rfl; have s6_9 := hS6.at 9 rfl; have s6_10 := hS6.at 10 rfl) | (go_at_call 124; refine (with_any _ a c l (o3, o4, o5) (by omega) hP6 HBY.out).mono ?_; rintro e w7 ⟨v7, rfl, hO7', hb7⟩; obtain ⟨a7, c7, rfl⟩ := hO7'.val; have hb7' : Below wc.heap.size wc w7 := hb6'.trans (hb7.mono hb6'.size); have t7 := (hT5.keep hb7').at 0 rfl; have hO7 := hO5.keep hb7'; have m7_0 := hO7.at 0 rfl; have m7_1 := hO7.at 1 rfl; have m7_2 := hO7.at 2 rfl; have m7_3 := hO7.at 3 rfl; have m7_4 := hO7.at 4 rfl; have m7_5 := hO7.at 5 rfl; have m7_6 := hO7.at 6 rfl; have hS7 := hS5.keep hb7'; have s7_0 := hS7.at 0 rfl; have s7_1 := hS7.at 1 rfl; have s7_2 := hS7.at 2 rfl; have s7_3 := hS7.at 3 rfl; have s7_4 := hS7.at 4 rfl; have s7_5 := hS7.at 5 rfl; have s7_6 := hS7.at 6 rfl; have s7_7 := hS7.at 7 rfl; have s7_8 := hS7.at 8 rfl; have s7_9 := hS7.at 9 rfl; have s7_10 := hS7.at 10 rfl; have hR7 := hR5.keep hb7'; have r0 := hR7.at 0 rfl; have rf := hR7.frz; have hQ7 := hQ5.keep hb7'; have q0 := hQ7.at 0 rfl; have q1 := hQ7.at 1 rfl; have q2 := hQ7.at 2 rfl; have q3 := hQ7.at 3 rfl; have q4 := hQ7.at 4 rfl; have q5 := hQ7.at 5 rfl; have q6 := hQ7.at 6 rfl; have q7 := hQ7.at 7 rfl; have q8 := hQ7.at 8 rfl; have q9 := hQ7.at 9 rfl; have q10 := hQ7.at 10 rfl; have qf := hQ7.frz))
        go_wp2
        have hRf := (hR7.set 0 (by simp) (.slice a7 (inL l (o3, o4, o5)).length c7)).others (g := w.heap.size + 1 + 1 + 1) (by omega) (stC ((o1, o2, (o3, o4, o5), o6, o7), true, find l o3)) 0
        have hQf := (hQ7.other (g := w.heap.size + 1 + 1) (by omega) 0 (.slice a7 (inL l (o3, o4, o5)).length c7)).sets (stC ((o1, o2, (o3, o4, o5), o6, o7), true, find l o3)) rfl
        refine ret_cell_cell_tmp Tryz.results99 rfl rfl rfl hRf.tree (hQf.load Tryz.underlying95 rfl sizeStep) ?_
        refine ⟨.slice a7 (inL l (o3, o4, o5)).length c7, ?_, ?_, ?_⟩
        · rw [HZ.out]
          have e : doS l (o1, o2, (o3, o4, o5), o6, o7) = ((o1, o2, (o3, o4, o5), o6, o7), true, find l o3) := by unfold doS; rw [if_neg (by simp [HZ.out]), HRG.out]; rfl
          rw [e]
          rfl
        · have e : doT l (o1, o2, (o3, o4, o5), o6, o7) = inL l (o3, o4, o5) := by unfold doT; rw [if_neg (by simp [HZ.out]), HRG.out]; rfl
          rw [e]
          have h1 := (hO7'.mono (base' := wc.heap.size) hb6'.size).mono (base' := w.heap.size + 1 + 1 + 1 + 1) (by omega)
          exact (OwnS.others (w.heap.size + 1 + 1 + 1) (by omega) (stC ((o1, o2, (o3, o4, o5), o6, o7), true, find l o3)) 0 _ (h1.other (w.heap.size + 1 + 1) (by omega) 0 _)).mono (by omega)
        · have h1 : Below w.heap.size w w7 := HB5.out.trans (hb7'.mono HB5.out.size)
          exact below_sets (h1.setCell (by show _ ≤ w.heap.size + 1 + 1; omega) _) (w.heap.size + 1 + 1 + 1) (by omega) (stC ((o1, o2, (o3, o4, o5), o6, o7), true, find l o3)) 0
      · have s0 := hS5.at 0 rfl
        have s1 := hS5.at 1 rfl
        have s2 := hS5.at 2 rfl
        have s3 := hS5.at 3 rfl
        have s4 := hS5.at 4 rfl
        have s5 := hS5.at 5 rfl
        have s6 := hS5.at 6 rfl
        have s7 := hS5.at 7 rfl
        have s8 := hS5.at 8 rfl
        have s9 := hS5.at 9 rfl
        have s10 := hS5.at 10 rfl
        go_wp2_with fail
        go_region_held3 (fun w' => w'.cell? ⟨w.heap.size, 0, none⟩ = some (.slice a l.length c) ∧ w'.cell? ⟨bs, 0, none⟩ = some (.int .i64 o1) ∧ w'.cell? ⟨bs, 1, none⟩ = some (.int .i64 o2) ∧ w'.cell? ⟨bs, 2, none⟩ = some (.int .i64 o3) ∧ w'.cell? ⟨bs, 3, none⟩ = some (.int .i64 o4) ∧ w'.cell? ⟨bs, 4, none⟩ = some (.int .i64 o5) ∧ w'.cell? ⟨bs, 5, none⟩ = some (.int .i64 o6) ∧ w'.cell? ⟨bs, 6, none⟩ = some (.int .i64 o7) ∧ w'.cell? ⟨bs, 7, none⟩ = some (.bool false) ∧ w'.cell? ⟨bs, 8, none⟩ = some (.int .i64 (find l o3).1) ∧ w'.cell? ⟨bs, 9, none⟩ = some (.int .i64 (find l o3).2.1) ∧ w'.cell? ⟨bs, 10, none⟩ = some (.int .i64 (find l o3).2.2)) (go_keep)
          (first | (go_at_call 42; refine (clone_any _ a c l (by omega) ?_).mono ?_; exact hP5; rintro e w6 ⟨v6, rfl, hO6, hb6⟩; obtain ⟨a6, c6, rfl⟩ := hO6.val; have hb6' : Below wc.heap.size wc w6 := ((Below.refl _ wc).drew).trans hb6; have t1 := (hT5.keep hb6').at 0 rfl; have hS6 := hS5.keep hb6'; have s10 := hS6.at 0 rfl; have s11 := hS6.at 1 rfl; have s12 := hS6.at 2 rfl; have s13 := hS6.at 3 rfl; have s14 := hS6.at 4 rfl; have s15 := hS6.at 5 rfl; have s16 := hS6.at 6 rfl; have s17 := hS6.at 7 rfl; have s18 := hS6.at 8 rfl; have s19 := hS6.at 9 rfl; have s110 := hS6.at 10 rfl; have hR6 := hR5.keep hb6'; have r0 := hR6.at 0 rfl; have rf := hR6.frz; have hQ6 := hQ5.keep hb6'; have q0 := hQ6.at 0 rfl; have q1 := hQ6.at 1 rfl; have q2 := hQ6.at 2 rfl; have q3 := hQ6.at 3 rfl; have q4 := hQ6.at 4 rfl; have q5 := hQ6.at 5 rfl; have q6 := hQ6.at 6 rfl; have q7 := hQ6.at 7 rfl; have q8 := hQ6.at 8 rfl; have q9 := hQ6.at 9 rfl; have q10 := hQ6.at 10 rfl; have qf := hQ6.frz))
        go_wp2
        have hRf := (hR6.set 0 (by simp) (.slice a6 l.length c6)).others (g := w.heap.size + 1 + 1 + 1) (by omega) (stC ((o1, o2, (o3, o4, o5), o6, o7), false, find l o3)) 0
        have hQf := (hQ6.other (g := w.heap.size + 1 + 1) (by omega) 0 (.slice a6 l.length c6)).sets (stC ((o1, o2, (o3, o4, o5), o6, o7), false, find l o3)) rfl
        refine ret_cell_cell_tmp Tryz.results99 rfl rfl rfl hRf.tree (hQf.load Tryz.underlying95 rfl sizeStep) ?_
        refine ⟨.slice a6 l.length c6, ?_, ?_, ?_⟩
        · rw [HZ.out]
          have e : doS l (o1, o2, (o3, o4, o5), o6, o7) = ((o1, o2, (o3, o4, o5), o6, o7), false, find l o3) := by unfold doS; rw [if_neg (by simp [HZ.out]), HRG.out]; rfl
          rw [e]
          rfl
        · have e : doT l (o1, o2, (o3, o4, o5), o6, o7) = l := by unfold doT; rw [if_neg (by simp [HZ.out]), HRG.out]; rfl
          rw [e]
          have h1 := (hO6.mono (base' := wc.heap.size) (Nat.le_refl _)).mono (base' := w.heap.size + 1 + 1 + 1 + 1) (by omega)
          exact (OwnS.others (w.heap.size + 1 + 1 + 1) (by omega) (stC ((o1, o2, (o3, o4, o5), o6, o7), false, find l o3)) 0 _ (h1.other (w.heap.size + 1 + 1) (by omega) 0 _)).mono (by omega)
        · have h1 : Below w.heap.size w w6 := HB5.out.trans (hb6'.mono HB5.out.size)
          exact below_sets (h1.setCell (by show _ ≤ w.heap.size + 1 + 1; omega) _) (w.heap.size + 1 + 1 + 1) (by omega) (stC ((o1, o2, (o3, o4, o5), o6, o7), false, find l o3)) 0
  · have hz' : (orI (check l) (checkOp (o1, o2, (o3, o4, o5), o6, o7)) != 0) = true := by simpa using hz
    have HZ : Hid (orI (check l) (checkOp (o1, o2, (o3, o4, o5), o6, o7)) ≠ 0) := hz
    have HR3 : Hid (Blk W3 (w.heap.size + 1 + 1) [Value.slice none 0 0]) := hR3
    have HQ3 : Hid (Blk W3 (w.heap.size + 1 + 1 + 1) (stC noStep)) := hQ3
    generalize orI (check l) (checkOp (o1, o2, (o3, o4, o5), o6, o7)) = E at *
    have r0 := hR3.at 0 rfl
    have rf := hR3.frz
    clear hz hT3 hO3 hR3 hQ3 hb3 hP3
    have HTH : Hid ((W3.setCell ⟨w.heap.size + 1 + 1, 0, none⟩ (.slice none 0 0)).there (w.heap.size + 1 + 1 + 1) 0 11) := (HQ3.out.other (g := w.heap.size + 1 + 1) (by omega) 0 (.slice none 0 0)).there
    go_wp2_with (refine wpList_store_mid (by rfl) 95 _ _ (by rfl) (w.heap.size + 1 + 1 + 1) 0 (stC noStep).toArray (by rfl) (by rfl) HTH.out sizeStep (all_oneCell_toArray (stC_one _)) ?_)
    have hRf := (HR3.out.set 0 (by simp) (.slice none 0 0)).others (g := w.heap.size + 1 + 1 + 1) (by omega) (stC noStep) 0
    have hQf := (HQ3.out.other (g := w.heap.size + 1 + 1) (by omega) 0 (.slice none 0 0)).sets (stC noStep) rfl
    refine ret_cell_cell_tmp Tryz.results99 rfl rfl rfl hRf.tree (hQf.load Tryz.underlying95 rfl sizeStep) ?_
    refine ⟨.slice none 0 0, ?_, ?_, ?_⟩
    · rw [HE.out]
      have e : doS l (o1, o2, (o3, o4, o5), o6, o7) = noStep := by unfold doS; rw [if_pos (by rw [HE.out]; exact HZ.out)]
      rw [e]
      rfl
    · have e : doT l (o1, o2, (o3, o4, o5), o6, o7) = [] := by unfold doT; rw [if_pos (by rw [HE.out]; exact HZ.out)]
      rw [e]
      exact Or.inl ⟨rfl, rfl⟩
    · exact below_sets (HB3.out.setCell (by show _ ≤ w.heap.size + 1 + 1; omega) _) _ (by omega) _ _
end Go.Proofs.YthlhnokgcnieeadGreatDoor

/- orangerylaw.op; an own slice is read. -/
namespace Go.Proofs.YthlhnokgcnieeadGreatDoor
open Go.ChangeShapes Go.WideShapes Go.ChangeAt Go.RowKit
open Orangery (Pl Mv Stp)

/-- orangerylaw.op -/
def lopO (t u n p : Int) : Mv := (t, u, (n, p, 0), 1, t)

set_option maxHeartbeats 400000 in
theorem lop_any (w : World) (t u n p : Int) :
    Calls Tryz.prog 17 #[.int .i64 t, .int .i64 u, .int .i64 n, .int .i64 p] w fun e w' => e = .returned (opV (lopO t u n p)) ∧ Below w.heap.size w w' := by
  go_enter Tryz.func17, Tryz.ntmps17
  go_wp2
  refine bodyPost_ret (v := opV (lopO t u n p)) (by simp [results, Tryz.results17, go_sem, lopO]) rfl ⟨rfl, Go.Joins.below_alloc1 w _⟩

end Go.Proofs.YthlhnokgcnieeadGreatDoor

/- history.play: operations done one after the other. -/
namespace Go.Proofs.YthlhnokgcnieeadGreatDoor
open Go.ChangeShapes Go.WideShapes Go.ChangeAt Go.RowKit
open Orangery (Pl Mv Stp check checkOp doE doT doS dT dS)

set_option maxHeartbeats 2000000 in
set_option maxRecDepth 100000 in
theorem play_any (w : World) (a : Option Addr) (c : Nat) (l : List Mv) (hl : l.length ≤ 1000) (h : SlE opC w a l) (hok : ∀ o ∈ l, checkOp o = 0) :
    Calls Tryz.prog 81 #[.slice a l.length c] w
      fun e w' => ∃ vL vT, e = .returned (.tuple #[hiV vL vT, .int .i64 0]) ∧ OwnE stC 11 95 w' w.heap.size vL (Orangery.runS [] l) ∧ OwnS w' w.heap.size vT (Orangery.runT [] l) ∧ Below w.heap.size w w' := by
  obtain ⟨i0, hi, hz0, hz1, hz2⟩ := info_parts infoStep
  have HH : Hid (SlE opC w a l) := h
  have HOK : Hid (∀ o ∈ l, checkOp o = 0) := hok
  clear h hok
  obtain ⟨W0, hW, hR, hH, hB, hS⟩ := laid2 w [Value.slice none 0 0, Value.slice none 0 0] 28 [Value.slice none 0 0, Value.slice none 0 0] 28
  go_enter Tryz.func81, Tryz.ntmps81
  go_wp2
  clear hW
  go_loopw [12] (fun i W => ∃ (k : Nat) (vL vT : Value), k ≤ l.length ∧ i = .int .i64 k ∧ Blk W w.heap.size [Value.slice none 0 0, Value.slice none 0 0] ∧ Blk W (w.heap.size + 1) [vL, vT] ∧ OwnE stC 11 95 W (w.heap.size + 2) vL (Orangery.runS [] (l.take k)) ∧ OwnS W (w.heap.size + 2) vT (Orangery.runT [] (l.take k)) ∧ Below w.heap.size w W) (fun i _ => l.length - (intOf i).toNat)
  case atStart => exact ⟨0, _, _, Nat.zero_le _, rfl, hR, hH, OwnE.nil _ _, Or.inl ⟨rfl, rfl⟩, hB⟩
  case round =>
    clear hR hH hB hS
    obtain ⟨k, vL, vT, hk, rfl, hR, hH, hL, hT, hb⟩ := hrel
    by_cases hlt : k < l.length
    · obtain ⟨b, off, rfl, hbl, hr⟩ := (HH.out.below hb).at opC_len k hlt
      obtain ⟨g0, g1, g2, g3, g4, g5, g6⟩ := op_cells hr
      have HT1 : Hid (l.take (k + 1) = l.take k ++ [l[k]]) := List.take_succ_eq_append_getElem hlt
      have hco := HOK.out l[k] (List.getElem_mem hlt)
      have hct : check (Orangery.runT [] (l.take k)) = 0 := Orangery.runT_check _ _ Orangery.check_empty (fun o ho => HOK.out o (List.mem_of_mem_take ho))
      have hz := Orangery.doE_of hct hco
      obtain ⟨hdT, hdS⟩ := Orangery.dT_eq hz
      have hTl := Orangery.check_len _ hct
      have hSl : (Orangery.runS [] (l.take k)).length ≤ 1000 := by rw [Orangery.runS_len]; simp; omega
      have HRT : Hid (Orangery.runT [] (l.take (k + 1)) = dT (Orangery.runT [] (l.take k)) l[k]) := by show _ = _; rw [HT1.out, Orangery.runT_append]; rfl
      have HRS : Hid (Orangery.runS [] (l.take (k + 1)) = Orangery.runS [] (l.take k) ++ [dS (Orangery.runT [] (l.take k)) l[k]]) := by show _ = _; rw [HT1.out, Orangery.runS_append]; rfl
      clear hr hco hct HT1
      generalize l[k] = o at *
      generalize Orangery.runT [] (l.take k) = Tk at *
      generalize Orangery.runS [] (l.take k) = Sk at *
      obtain ⟨aT, cT, rfl⟩ := hT.val
      have hP := hT.read
      obtain ⟨aL, cL, rfl, _, _⟩ := hL.val
      have HD : ∀ W, SlP W aT Tk → Calls Tryz.prog 99 #[.agg #[.slice aT Tk.length cT], opV o] W fun e w' => ∃ v, e = .returned (.tuple #[.agg #[v], stV (dS Tk o), .int .i64 0]) ∧ OwnS w' W.heap.size v (dT Tk o) ∧ Below W.heap.size W w' := by
        intro W hPW
        have := do_any W aT cT Tk o (by unfold maxLen; omega) hPW
        rw [hz, hdT, hdS] at this
        exact this
      have HDD : Hid (∀ W, SlP W aT Tk → Calls Tryz.prog 99 #[.agg #[.slice aT Tk.length cT], opV o] W fun e w' => ∃ v, e = .returned (.tuple #[.agg #[v], stV (dS Tk o), .int .i64 0]) ∧ OwnS w' W.heap.size v (dT Tk o) ∧ Below W.heap.size W w') := HD
      clear HD hz hdT hdS
      generalize dS Tk o = s at *
      generalize dT Tk o = Tn at *
      obtain ⟨o1, o2, ⟨o3, o4, o5⟩, o6, o7⟩ := o
      obtain ⟨⟨q1, q2, ⟨q3, q4, q5⟩, q6, q7⟩, d, ⟨p1, p2, p3⟩⟩ := s
      simp only at g0 g1 g2 g3 g4 g5 g6
      obtain ⟨W2, hW2, hN, hBn, _⟩ := laid1 wr [Value.int IntKind.i64 o1, Value.int IntKind.i64 o2, Value.int IntKind.i64 o3, Value.int IntKind.i64 o4, Value.int IntKind.i64 o5, Value.int IntKind.i64 o6, Value.int IntKind.i64 o7] 41
      have hP2 := hP.below hBn
      have hH2 := hH.keep hBn
      have hR2 := hR.keep hBn
      have hL2 := hL.keep hBn
      have HB2 : Hid (Below w.heap.size w W2) := hb.trans (hBn.mono hb.size)
      have hwr : w.heap.size + 1 < wr.heap.size := hH.lt
      have hn0 := hN.at 0 rfl
      have hn1 := hN.at 1 rfl
      have hn2 := hN.at 2 rfl
      have hn3 := hN.at 3 rfl
      have hn4 := hN.at 4 rfl
      have hn5 := hN.at 5 rfl
      have hn6 := hN.at 6 rfl
      have hh1 := hH2.at 1 rfl
      have HLT : Hid (∀ g, (Value.slice aL Sk.length cL).ownBlock = some g → w.heap.size + 2 ≤ g ∧ g < wr.heap.size) := fun g hg => hL.row.lt g hg
      clear hP hH hR hL hT hb hBn
      go_wp2_with fail
      refine (HDD.out W2 hP2).mono ?_
      rintro e w3 ⟨v3, rfl, hO3, hb3⟩
      obtain ⟨a3, c3, rfl⟩ := hO3.val
      have hH3 := hH2.keep hb3
      have hR3 := hR2.keep hb3
      have hL3 := hL2.keep hb3
      have HB3 : Hid (Below w.heap.size w w3) := HB2.out.trans (hb3.mono HB2.out.size)
      have hO3' := hO3.mono (base' := wr.heap.size) (by omega)
      have hw3 : wr.heap.size + 1 ≤ w3.heap.size := by have := hb3.size; omega
      clear hP2 hH2 hR2 hL2 HB2 hb3 hO3 hN hn0 hn1 hn2 hn3 hn4 hn5 hn6 hh1 hW2 g0 g1 g2 g3 g4 g5 g6
      obtain ⟨W4, hW4, hTb, hSb, hBn, hS4⟩ := laid2 w3 [Value.slice a3 Tn.length c3] 26 [Value.int IntKind.i64 q1, Value.int IntKind.i64 q2, Value.int IntKind.i64 q3, Value.int IntKind.i64 q4, Value.int IntKind.i64 q5, Value.int IntKind.i64 q6, Value.int IntKind.i64 q7, Value.bool d, Value.int IntKind.i64 p1, Value.int IntKind.i64 p2, Value.int IntKind.i64 p3] 95
      have hH4 := hH3.keep hBn
      have hR4 := hR3.keep hBn
      have hL4 := hL3.keep hBn
      have hO4 := hO3'.below hBn
      have HB4 : Hid (Below w.heap.size w W4) := HB3.out.trans (hBn.mono HB3.out.size)
      clear hH3 hR3 hL3 hO3' HB3 hBn
      have HS4 : Hid (W4.heap.size = w3.heap.size + 2) := hS4
      clear hS4
      go_upto_region 8 with fail
      clear hW4
      have h0 := hH4.at 0 rfl
      refine wp_region_held_drew (S := fun w' => Blk w' w3.heap.size [Value.slice a3 Tn.length c3] ∧ Blk w' (w3.heap.size + 1) [Value.int IntKind.i64 q1, Value.int IntKind.i64 q2, Value.int IntKind.i64 q3, Value.int IntKind.i64 q4, Value.int IntKind.i64 q5, Value.int IntKind.i64 q6, Value.int IntKind.i64 q7, Value.bool d, Value.int IntKind.i64 p1, Value.int IntKind.i64 p2, Value.int IntKind.i64 p3]) (by kernel_rfl) ⟨hTb.drew, hSb.drew⟩ (fun hHeld => ?_)
      refine take_yes 0 28 (v := ?_) rfl rfl (by kernel_rfl) (by kernel_rfl) (by kernel_rfl) (fun _ _ _ h => h) (by rfl) ?_ hHeld ?_
      rotate_left 1
      · (intro w hSw; go_simp; try with_reducible rfl)
      simp only [Act.put, List.setIfInBounds_toArray, List.set_cons_succ, List.set_cons_zero]
      refine take_load 2 30 95 (w3.heap.size + 1) [Value.int IntKind.i64 q1, Value.int IntKind.i64 q2, Value.int IntKind.i64 q3, Value.int IntKind.i64 q4, Value.int IntKind.i64 q5, Value.int IntKind.i64 q6, Value.int IntKind.i64 q7, Value.bool d, Value.int IntKind.i64 p1, Value.int IntKind.i64 p2, Value.int IntKind.i64 p3] rfl rfl (by kernel_rfl) (by kernel_rfl) (by kernel_rfl) (fun _ _ _ h => h) (by rfl) (by rfl) (by rfl) (fun w hw => hw.2.range) Tryz.underlying95 rfl sizeStep hHeld ?_
      simp only [Act.put, List.setIfInBounds_toArray, List.set_cons_succ, List.set_cons_zero]
      refine take_load 5 33 26 w3.heap.size [Value.slice a3 Tn.length c3] rfl rfl (by kernel_rfl) (by kernel_rfl) (by kernel_rfl) (fun _ _ _ h => h) (by rfl) (by rfl) (by rfl) (fun w hw => hw.1.range) Tryz.underlying26 rfl sizeTree hHeld ?_
      simp only [Act.put, List.setIfInBounds_toArray, List.set_cons_succ, List.set_cons_zero]
      refine wpAnyH_ready (rs := [1, 3]) (by kernel_rfl) (by simp) ?_
      refine AllReadyH.cons rfl (fun K hK => ?_) (AllReadyH.cons rfl (fun K hK => ?_) AllReadyH.nil)
      · go_simp
        refine hK.out _ _ hHeld (fun hHeld => ?_)
        clear hK K
        refine wpAnyH_ready (rs := [3]) (by kernel_rfl) (by simp) (AllReadyH.cons rfl (fun K hK => ?_) AllReadyH.nil)
        go_simp
        refine hK.out _ _ ⟨hHeld.1.alloc _, hHeld.2.alloc _⟩ (fun hHeld => ?_)
        clear hK K
        have hown5 : (W4.alloc (.cells [Value.int IntKind.i64 q1, Value.int IntKind.i64 q2, Value.int IntKind.i64 q3, Value.int IntKind.i64 q4, Value.int IntKind.i64 q5, Value.int IntKind.i64 q6, Value.int IntKind.i64 q7, Value.bool d, Value.int IntKind.i64 p1, Value.int IntKind.i64 p2, Value.int IntKind.i64 p3].toArray 95)).drew.ownsRow (w.heap.size + 2) 95 11 (.slice aL Sk.length cL) Sk.length (Sk.flatMap stC) := (hL4.alloc _).drew.row
        have hN5 := (Blk.new W4 [Value.int IntKind.i64 q1, Value.int IntKind.i64 q2, Value.int IntKind.i64 q3, Value.int IntKind.i64 q4, Value.int IntKind.i64 q5, Value.int IntKind.i64 q6, Value.int IntKind.i64 q7, Value.bool d, Value.int IntKind.i64 p1, Value.int IntKind.i64 p2, Value.int IntKind.i64 p3] 95).drew
        have hsz5 := HB4.out.size
        refine step_append (s := Operand.tmp 29) (x := Operand.tmp 31) 4 32 23 ?x0 rfl ?x2 ?x3 ?x4 (w.heap.size + 2) 95 i0 _ 11 88 Tryz.underlying23 hi hz0 hz1 hz2 ?x5 ?x6 (.slice aL Sk.length cL) Sk.length (Sk.flatMap stC) ?x7 hown5 ⟨W4.heap.size, 0, none⟩ 1 1 [Value.int IntKind.i64 q1, Value.int IntKind.i64 q2, Value.int IntKind.i64 q3, Value.int IntKind.i64 q4, Value.int IntKind.i64 q5, Value.int IntKind.i64 q6, Value.int IntKind.i64 q7, Value.bool d, Value.int IntKind.i64 p1, Value.int IntKind.i64 p2, Value.int IntKind.i64 p3] ?x8 ?x9 ?xa ?xb ?xc ?xd ?xe ?_
        case x0 => kernel_rfl
        case x2 => rfl
        case x3 => rfl
        case x4 => rfl
        case x5 => rfl
        case x6 => decide
        case x7 => rfl
        case x8 => rfl
        case x9 => rfl
        case xa => intro j u hj; rw [Addr.add_mid, Nat.zero_add]; exact hN5.at j hj
        case xb => exact stC_one ((q1, q2, (q3, q4, q5), q6, q7), d, (p1, p2, p3))
        case xc => unfold maxLen; omega
        case xd => omega
        case xe => show _ ≤ (W4.alloc _).heap.size; rw [World.size_alloc]; have := hH4.lt; omega
        intro v5 w5 hown' hgrow
        have hgb : ∀ g, (Value.slice aL Sk.length cL).ownBlock = some g → w.heap.size + 2 ≤ g ∧ g < wr.heap.size := HLT.out
        obtain ⟨Sn, hSn⟩ : ∃ Sn, Sn = Sk ++ [((q1, q2, (q3, q4, q5), q6, q7), d, (p1, p2, p3))] := ⟨_, rfl⟩
        have hL5 : OwnE stC 11 95 w5 (w.heap.size + 2) v5 Sn := by
          show World.ownsRow _ _ _ _ _ _ _
          rw [hSn]
          simpa [stC] using hown'
        have HSN : Hid (Sn = Sk ++ [((q1, q2, (q3, q4, q5), q6, q7), d, (p1, p2, p3))]) := hSn
        clear hSn
        obtain ⟨a5, c5, rfl, _, _⟩ := hL5.val
        have hne : ∀ g, g < w.heap.size + 2 ∨ wr.heap.size ≤ g → some g ≠ (Value.slice aL Sk.length cL).ownBlock := by
          intro g hg e
          have := hgb g e.symm
          omega
        have hH5 := (hH4.alloc (.cells [Value.int IntKind.i64 q1, Value.int IntKind.i64 q2, Value.int IntKind.i64 q3, Value.int IntKind.i64 q4, Value.int IntKind.i64 q5, Value.int IntKind.i64 q6, Value.int IntKind.i64 q7, Value.bool d, Value.int IntKind.i64 p1, Value.int IntKind.i64 p2, Value.int IntKind.i64 p3].toArray 95)).drew.grown hgrow (hne _ (Or.inl (by omega)))
        have hR5 := (hR4.alloc (.cells [Value.int IntKind.i64 q1, Value.int IntKind.i64 q2, Value.int IntKind.i64 q3, Value.int IntKind.i64 q4, Value.int IntKind.i64 q5, Value.int IntKind.i64 q6, Value.int IntKind.i64 q7, Value.bool d, Value.int IntKind.i64 p1, Value.int IntKind.i64 p2, Value.int IntKind.i64 p3].toArray 95)).drew.grown hgrow (hne _ (Or.inl (by omega)))
        have hO5 := (hO4.alloc (.cells [Value.int IntKind.i64 q1, Value.int IntKind.i64 q2, Value.int IntKind.i64 q3, Value.int IntKind.i64 q4, Value.int IntKind.i64 q5, Value.int IntKind.i64 q6, Value.int IntKind.i64 q7, Value.bool d, Value.int IntKind.i64 p1, Value.int IntKind.i64 p2, Value.int IntKind.i64 p3].toArray 95)).drew.grown hgrow (fun g hg => (hgb g hg).2)
        have hB5 : Below w.heap.size w w5 := ((HB4.out.alloc HB4.out.size (.cells [Value.int IntKind.i64 q1, Value.int IntKind.i64 q2, Value.int IntKind.i64 q3, Value.int IntKind.i64 q4, Value.int IntKind.i64 q5, Value.int IntKind.i64 q6, Value.int IntKind.i64 q7, Value.bool d, Value.int IntKind.i64 p1, Value.int IntKind.i64 p2, Value.int IntKind.i64 p3].toArray 95)).drew).grown hgrow (by show _ ≤ (W4.alloc _).heap.size; rw [World.size_alloc]; have := hH4.lt; omega) (fun g hg => by have := hgb g hg; omega)
        refine ⟨⟨hHeld.1.grown hgrow (hne _ (Or.inr (by omega))), hHeld.2.grown hgrow (hne _ (Or.inr (by omega)))⟩, ?_⟩
        replace hHeld : Blk w5 w3.heap.size [Value.slice a3 Tn.length c3] ∧ Blk w5 (w3.heap.size + 1) [Value.int IntKind.i64 q1, Value.int IntKind.i64 q2, Value.int IntKind.i64 q3, Value.int IntKind.i64 q4, Value.int IntKind.i64 q5, Value.int IntKind.i64 q6, Value.int IntKind.i64 q7, Value.bool d, Value.int IntKind.i64 p1, Value.int IntKind.i64 p2, Value.int IntKind.i64 p3] := ⟨hHeld.1.grown hgrow (hne _ (Or.inr (by omega))), hHeld.2.grown hgrow (hne _ (Or.inr (by omega)))⟩
        simp only [Act.put, List.setIfInBounds_toArray, List.set_cons_succ, List.set_cons_zero]
        refine take_yes 6 34 (v := ?_) rfl rfl (by kernel_rfl) (by kernel_rfl) (by kernel_rfl) (fun _ _ _ h => h) (by rfl) ?_ hHeld ?_
        rotate_left 1
        · (intro w hSw; go_simp; try with_reducible rfl)
        simp only [Act.put, List.setIfInBounds_toArray, List.set_cons_succ, List.set_cons_zero]
        refine step_store 7 28 (w.heap.size + 1) [Value.slice a5 Sn.length c5, Value.slice a3 Tn.length c3] (by kernel_rfl) rfl rfl (by rfl) (by rfl) (by rfl) ?xf hH5.there sizeHist ?xg ⟨hHeld.1.others (by omega) _ _, hHeld.2.others (by omega) _ _⟩ ?_
        case xf => rfl
        case xg => intro v hv; simp at hv; rcases hv with rfl | rfl <;> rfl
        refine wpAnyH_done (by kernel_rfl) ?_ _
        have HL5 : Hid (OwnE stC 11 95 w5 (w.heap.size + 2) (Value.slice a5 Sn.length c5) Sn) := hL5
        clear hL5 hown' hown5 hgrow hHeld hN5
        go_wp2
        go_roundw
        case rel =>
          refine ⟨k + 1, _, _, hlt, by go_num, hR5.others (by omega) _ _, hH5.sets _ rfl, ?_, ?_, below_sets hB5 (w.heap.size + 1) (by omega) _ _⟩
          · rw [HRS.out, ← HSN.out]; exact OwnE.others (w.heap.size + 1) (by omega) _ _ _ HL5.out
          · rw [HRT.out]; exact OwnS.others (w.heap.size + 1) (by omega) _ _ _ (hO5.mono (by omega))
        case measure => simp [intOf]; omega
      · go_simp
        refine hK.out _ _ ⟨hHeld.1.alloc _, hHeld.2.alloc _⟩ (fun hHeld => ?_)
        clear hK K
        have h0 := (hH4.alloc (.cells [Value.int IntKind.i64 q1, Value.int IntKind.i64 q2, Value.int IntKind.i64 q3, Value.int IntKind.i64 q4, Value.int IntKind.i64 q5, Value.int IntKind.i64 q6, Value.int IntKind.i64 q7, Value.bool d, Value.int IntKind.i64 p1, Value.int IntKind.i64 p2, Value.int IntKind.i64 p3].toArray 95)).at 0 rfl
        refine wpAnyH_ready (rs := [1]) (by kernel_rfl) (by simp) (AllReadyH.cons rfl (fun K hK => ?_) AllReadyH.nil)
        go_simp
        refine hK.out _ _ hHeld (fun hHeld => ?_)
        clear hK K
        have hown5 : (W4.alloc (.cells [Value.int IntKind.i64 q1, Value.int IntKind.i64 q2, Value.int IntKind.i64 q3, Value.int IntKind.i64 q4, Value.int IntKind.i64 q5, Value.int IntKind.i64 q6, Value.int IntKind.i64 q7, Value.bool d, Value.int IntKind.i64 p1, Value.int IntKind.i64 p2, Value.int IntKind.i64 p3].toArray 95)).drew.ownsRow (w.heap.size + 2) 95 11 (.slice aL Sk.length cL) Sk.length (Sk.flatMap stC) := (hL4.alloc _).drew.row
        have hN5 := (Blk.new W4 [Value.int IntKind.i64 q1, Value.int IntKind.i64 q2, Value.int IntKind.i64 q3, Value.int IntKind.i64 q4, Value.int IntKind.i64 q5, Value.int IntKind.i64 q6, Value.int IntKind.i64 q7, Value.bool d, Value.int IntKind.i64 p1, Value.int IntKind.i64 p2, Value.int IntKind.i64 p3] 95).drew
        have hsz5 := HB4.out.size
        refine step_append (s := Operand.tmp 29) (x := Operand.tmp 31) 4 32 23 ?y0 rfl ?y2 ?y3 ?y4 (w.heap.size + 2) 95 i0 _ 11 88 Tryz.underlying23 hi hz0 hz1 hz2 ?y5 ?y6 (.slice aL Sk.length cL) Sk.length (Sk.flatMap stC) ?y7 hown5 ⟨W4.heap.size, 0, none⟩ 1 1 [Value.int IntKind.i64 q1, Value.int IntKind.i64 q2, Value.int IntKind.i64 q3, Value.int IntKind.i64 q4, Value.int IntKind.i64 q5, Value.int IntKind.i64 q6, Value.int IntKind.i64 q7, Value.bool d, Value.int IntKind.i64 p1, Value.int IntKind.i64 p2, Value.int IntKind.i64 p3] ?y8 ?y9 ?ya ?yb ?yc ?yd ?ye ?_
        case y0 => kernel_rfl
        case y2 => rfl
        case y3 => rfl
        case y4 => rfl
        case y5 => rfl
        case y6 => decide
        case y7 => rfl
        case y8 => rfl
        case y9 => rfl
        case ya => intro j u hj; rw [Addr.add_mid, Nat.zero_add]; exact hN5.at j hj
        case yb => exact stC_one ((q1, q2, (q3, q4, q5), q6, q7), d, (p1, p2, p3))
        case yc => unfold maxLen; omega
        case yd => omega
        case ye => show _ ≤ (W4.alloc _).heap.size; rw [World.size_alloc]; have := hH4.lt; omega
        intro v5 w5 hown' hgrow
        have hgb : ∀ g, (Value.slice aL Sk.length cL).ownBlock = some g → w.heap.size + 2 ≤ g ∧ g < wr.heap.size := HLT.out
        obtain ⟨Sn, hSn⟩ : ∃ Sn, Sn = Sk ++ [((q1, q2, (q3, q4, q5), q6, q7), d, (p1, p2, p3))] := ⟨_, rfl⟩
        have hL5 : OwnE stC 11 95 w5 (w.heap.size + 2) v5 Sn := by
          show World.ownsRow _ _ _ _ _ _ _
          rw [hSn]
          simpa [stC] using hown'
        have HSN : Hid (Sn = Sk ++ [((q1, q2, (q3, q4, q5), q6, q7), d, (p1, p2, p3))]) := hSn
        clear hSn
        obtain ⟨a5, c5, rfl, _, _⟩ := hL5.val
        have hne : ∀ g, g < w.heap.size + 2 ∨ wr.heap.size ≤ g → some g ≠ (Value.slice aL Sk.length cL).ownBlock := by
          intro g hg e
          have := hgb g e.symm
          omega
        have hH5 := (hH4.alloc (.cells [Value.int IntKind.i64 q1, Value.int IntKind.i64 q2, Value.int IntKind.i64 q3, Value.int IntKind.i64 q4, Value.int IntKind.i64 q5, Value.int IntKind.i64 q6, Value.int IntKind.i64 q7, Value.bool d, Value.int IntKind.i64 p1, Value.int IntKind.i64 p2, Value.int IntKind.i64 p3].toArray 95)).drew.grown hgrow (hne _ (Or.inl (by omega)))
        have hR5 := (hR4.alloc (.cells [Value.int IntKind.i64 q1, Value.int IntKind.i64 q2, Value.int IntKind.i64 q3, Value.int IntKind.i64 q4, Value.int IntKind.i64 q5, Value.int IntKind.i64 q6, Value.int IntKind.i64 q7, Value.bool d, Value.int IntKind.i64 p1, Value.int IntKind.i64 p2, Value.int IntKind.i64 p3].toArray 95)).drew.grown hgrow (hne _ (Or.inl (by omega)))
        have hO5 := (hO4.alloc (.cells [Value.int IntKind.i64 q1, Value.int IntKind.i64 q2, Value.int IntKind.i64 q3, Value.int IntKind.i64 q4, Value.int IntKind.i64 q5, Value.int IntKind.i64 q6, Value.int IntKind.i64 q7, Value.bool d, Value.int IntKind.i64 p1, Value.int IntKind.i64 p2, Value.int IntKind.i64 p3].toArray 95)).drew.grown hgrow (fun g hg => (hgb g hg).2)
        have hB5 : Below w.heap.size w w5 := ((HB4.out.alloc HB4.out.size (.cells [Value.int IntKind.i64 q1, Value.int IntKind.i64 q2, Value.int IntKind.i64 q3, Value.int IntKind.i64 q4, Value.int IntKind.i64 q5, Value.int IntKind.i64 q6, Value.int IntKind.i64 q7, Value.bool d, Value.int IntKind.i64 p1, Value.int IntKind.i64 p2, Value.int IntKind.i64 p3].toArray 95)).drew).grown hgrow (by show _ ≤ (W4.alloc _).heap.size; rw [World.size_alloc]; have := hH4.lt; omega) (fun g hg => by have := hgb g hg; omega)
        refine ⟨⟨hHeld.1.grown hgrow (hne _ (Or.inr (by omega))), hHeld.2.grown hgrow (hne _ (Or.inr (by omega)))⟩, ?_⟩
        replace hHeld : Blk w5 w3.heap.size [Value.slice a3 Tn.length c3] ∧ Blk w5 (w3.heap.size + 1) [Value.int IntKind.i64 q1, Value.int IntKind.i64 q2, Value.int IntKind.i64 q3, Value.int IntKind.i64 q4, Value.int IntKind.i64 q5, Value.int IntKind.i64 q6, Value.int IntKind.i64 q7, Value.bool d, Value.int IntKind.i64 p1, Value.int IntKind.i64 p2, Value.int IntKind.i64 p3] := ⟨hHeld.1.grown hgrow (hne _ (Or.inr (by omega))), hHeld.2.grown hgrow (hne _ (Or.inr (by omega)))⟩
        simp only [Act.put, List.setIfInBounds_toArray, List.set_cons_succ, List.set_cons_zero]
        refine take_yes 6 34 (v := ?_) rfl rfl (by kernel_rfl) (by kernel_rfl) (by kernel_rfl) (fun _ _ _ h => h) (by rfl) ?_ hHeld ?_
        rotate_left 1
        · (intro w hSw; go_simp; try with_reducible rfl)
        simp only [Act.put, List.setIfInBounds_toArray, List.set_cons_succ, List.set_cons_zero]
        refine step_store 7 28 (w.heap.size + 1) [Value.slice a5 Sn.length c5, Value.slice a3 Tn.length c3] (by kernel_rfl) rfl rfl (by rfl) (by rfl) (by rfl) ?yf hH5.there sizeHist ?yg ⟨hHeld.1.others (by omega) _ _, hHeld.2.others (by omega) _ _⟩ ?_
        case yf => rfl
        case yg => intro v hv; simp at hv; rcases hv with rfl | rfl <;> rfl
        refine wpAnyH_done (by kernel_rfl) ?_ _
        have HL5 : Hid (OwnE stC 11 95 w5 (w.heap.size + 2) (Value.slice a5 Sn.length c5) Sn) := hL5
        clear hL5 hown' hown5 hgrow hHeld hN5
        go_wp2
        go_roundw
        case rel =>
          refine ⟨k + 1, _, _, hlt, by go_num, hR5.others (by omega) _ _, hH5.sets _ rfl, ?_, ?_, below_sets hB5 (w.heap.size + 1) (by omega) _ _⟩
          · rw [HRS.out, ← HSN.out]; exact OwnE.others (w.heap.size + 1) (by omega) _ _ _ HL5.out
          · rw [HRT.out]; exact OwnS.others (w.heap.size + 1) (by omega) _ _ _ (hO5.mono (by omega))
        case measure => simp [intOf]; omega
    · have hk' : k = l.length := by omega
      subst hk'
      rw [List.take_of_length_le (Nat.le_refl _)] at hL hT
      obtain ⟨aT, cT, rfl⟩ := hT.val
      obtain ⟨aL, cL, rfl, _, _⟩ := hL.val
      have h0 := hH.at 0 rfl
      have h1 := hH.at 1 rfl
      have r0 := hR.at 0 rfl
      have r1 := hR.at 1 rfl
      have rf := hR.frz
      go_wp2
      have hRf := hR.sets [Value.slice aL (Orangery.runS [] l).length cL, Value.slice aT (Orangery.runT [] l).length cT] rfl
      refine ret_cell_tmp Tryz.results81 rfl rfl (hRf.load Tryz.underlying28 rfl sizeHist) ?_
      have e1 := (OwnE.others w.heap.size (by omega) [Value.slice aL (Orangery.runS [] l).length cL, Value.slice aT (Orangery.runT [] l).length cT] 0 wr hL).mono (base' := w.heap.size) (by omega)
      have e2 := (OwnS.others w.heap.size (by omega) [Value.slice aL (Orangery.runS [] l).length cL, Value.slice aT (Orangery.runT [] l).length cT] 0 wr hT).mono (base' := w.heap.size) (by omega)
      exact ⟨_, _, rfl, e1, e2, below_sets hb w.heap.size (Nat.le_refl _) [Value.slice aL (Orangery.runS [] l).length cL, Value.slice aT (Orangery.runT [] l).length cT] 0⟩
end Go.Proofs.YthlhnokgcnieeadGreatDoor

/- slices.SortFunc on a row of the call's own, whatever its elements: a permutation, in order. -/
namespace Go.Proofs.YthlhnokgcnieeadGreatDoor
open Go.ChangeShapes Go.WideShapes Go.ChangeAt Go.RowKit

theorem grown_sortE {α : Type} [Inhabited α] {enc : α → List Value} {k : Nat} {w : World} (g off n : Nat) (d : Array α) (os : Array Obj) : w.grownBy (Go.Proofs.sortWorldK enc k w g off n d os) (some g) := by
  refine ⟨rfl, rfl, rfl, Go.Proofs.size_sortWorldK_c enc k w g off n d os, fun j hj hne => ?_⟩
  show ((w.heap.modify g _) ++ os)[j]? = _
  rw [Array.getElem?_append_left (by simp; omega), Array.getElem?_modify]
  have : ¬ g = j := fun e => hne (by rw [e])
  simp [this]

theorem own_sortedE {α : Type} [Inhabited α] {enc : α → List Value} {k : Nat} (hk : ∀ x, (enc x).length = k) (hpos : 0 < k) {w : World} {base g cap : Nat} {e : TypeId} {l : List α} (h : w.ownsRow base e k (.slice (some ⟨g, 0, none⟩) l.length cap) l.length (l.flatMap enc))
    (d : Array α) (hd : d.size = l.length) (n : Nat) (os : Array Obj) :
    (Go.Proofs.sortWorldK enc k w g 0 n d os).ownsRow base e k (.slice (some ⟨g, 0, none⟩) l.length cap) d.toList.length (d.toList.flatMap enc) := by
  have hdl : d.toList.length = l.length := by simpa using hd
  refine ⟨flatE_len hk _, ?_⟩
  rcases h.2 with ⟨h', _⟩ | ⟨g', cap', cur, h', hb, hg, hn, hm, hs, ht⟩
  · simp at h'
  · obtain ⟨rfl, rfl⟩ : g = g' ∧ cap = cap' := by simpa using h'
    refine Or.inr ⟨g, cap, Go.Sort.putCells id 0 (Go.Sort.flatK enc k d) cur, by rw [hdl], hb, ?_, by omega, hm, by simp [Go.Sort.putCells, hs], ?_⟩
    · show ((Go.Sort.putRow id w g 0 (Go.Sort.flatK enc k d)).heap ++ os)[g]? = _
      have hr : g < w.heap.size := blk_lt hg
      rw [Array.getElem?_append_left (by show g < (w.heap.modify g _).size; simp; exact hr)]
      show (w.heap.modify g _)[g]? = _
      rw [Array.getElem?_modify, hg, if_pos rfl]
      rfl
    · apply List.ext_getElem?
      intro j
      by_cases hj : j < d.toList.length * k
      · have hj2 : j < d.size * k := by simpa using hj
        have hi : j / k < d.size := (Nat.div_lt_iff_lt_mul hpos).2 hj2
        have hc : j % k < k := Nat.mod_lt _ hpos
        have e1 : j / k * k + j % k = j := by rw [Nat.mul_comm]; exact Nat.div_add_mod j k
        have hcur : j < cur.size := by
          rw [hs]
          have : d.toList.length * k ≤ cap * k := Nat.mul_le_mul_right k (by omega)
          omega
        have e2 := flatE_get hk d.toList (j / k) (by simpa using hi) (j % k) hc
        rw [e1] at e2
        rw [List.getElem?_take_of_lt hj, e2]
        have e3 := Go.Sort.get_flatK enc k d j hj2
        have e4 : (Go.Sort.flatK enc k d)[j - 0]! = (enc d[j / k]!)[j % k]! := by rw [Nat.sub_zero]; exact e3
        simp only [Go.Sort.putCells, Array.getElem?_toList, Array.getElem?_mapIdx]
        rw [Array.getElem?_eq_getElem hcur]
        simp only [Option.map_some]
        rw [if_pos ⟨by omega, by rw [Go.Sort.size_flatK]; omega⟩, e4]
        have e5 : d[j / k]! = d.toList[j / k] := by simp [hi]
        rw [e5, List.getElem?_eq_getElem (by rw [hk]; exact hc)]
        simp [hk, hc]
      · have hj3 : d.toList.length * k ≤ j := Nat.le_of_not_lt hj
        rw [List.getElem?_eq_none (by rw [List.length_take]; exact Nat.le_trans (Nat.min_le_left _ _) hj3), List.getElem?_eq_none (by rw [flatE_len hk]; exact hj3)]

theorem perm_sortedE {α : Type} [Inhabited α] {f : α → α → Int} {l : List α} {d' : Array α} (hp : Go.Sort.PermIn 0 l.toArray.size l.toArray d') (hs : Go.Sort.SortedIn (Go.Proofs.ltOf f) 0 l.toArray.size d') :
    d'.size = l.length ∧ d'.toList.Perm l ∧ d'.toList.Pairwise fun p q => ¬ f q p < 0 := by
  obtain ⟨h1, _, h3⟩ := hp
  have e1 : d'.extract 0 l.toArray.size = d' := by rw [← h1]; exact Array.extract_size
  rw [e1, Array.extract_size] at h3
  refine ⟨by simpa using h1, by simpa using h3, ?_⟩
  rw [List.pairwise_iff_getElem]
  intro i j hi hj hij
  have hi' : i < d'.size := by simpa using hi
  have hj' : j < d'.size := by simpa using hj
  have := hs i j (Nat.zero_le _) hij (by omega)
  rw [getElem!_pos d' j hj', getElem!_pos d' i hi'] at this
  simpa [Go.Proofs.ltOf] using this

set_option maxHeartbeats 1000000 in
theorem sortE {α : Type} [Inhabited α] {enc : α → List Value} {k : Nat} {ρ : Go.Shelf.Ren} (L : Go.Proofs.SlLaysF0.n6 Tryz.prog ρ) (aE : ∀ w, (isAgg (ρ.t 24)).run Tryz.prog w = .ok true w) (zE : ∀ w, (Go.sizeOf (ρ.t 24)).run Tryz.prog w = .ok k w)
    (hk : ∀ x, (enc x).length = k) (hpos : 0 < k) (h1 : ∀ x, ∀ v ∈ enc x, v.oneCell' = true) (f : α → α → Int) (hf : Go.Sort.SWO (Go.Proofs.ltOf f)) (gf : Nat)
    (eg : ∀ args w, (callFunc gf args).run Tryz.prog w = .ok (.enter gf args) w)
    (hc : ∀ w x y, Calls Tryz.prog gf #[.agg (enc x).toArray, .agg (enc y).toArray] w fun e w' => e = .returned (.int .i64 (f x y)) ∧ ∃ n os, w' = Go.Sort.grow (w.drewN n) os)
    (w : World) (base : Nat) (e : TypeId) (v : Value) (l : List α) (hl : l.length ≤ 1000) (hbase : base ≤ w.heap.size) (h : w.ownsRow base e k v l.length (l.flatMap enc)) :
    Calls Tryz.prog (ρ.f 6) #[v, .func (.func gf) #[] #[]] w
      fun e' w' => e' = .returned (.tuple #[]) ∧ ∃ l' : List α, l'.Perm l ∧ (l'.Pairwise fun p q => ¬ f q p < 0) ∧ w'.ownsRow base e k v l'.length (l'.flatMap enc) ∧ Below base w w' ∧ w.grownBy w' v.ownBlock := by
  rcases h.2 with ⟨rfl, hn⟩ | ⟨g, cap, cur, rfl, hgb, hg, hn, hm, hs, ht⟩
  · have hl0 : l = [] := List.length_eq_zero_iff.1 hn
    subst hl0
    refine (Go.Proofs.AnyF.slices_SortFunc_none L none 0 (.func (.func gf) #[] #[]) w).mono ?_
    rintro e' w' ⟨rfl, rfl⟩
    exact ⟨rfl, [], List.Perm.refl _, List.Pairwise.nil, h, Below.refl _ _, ⟨rfl, rfl, rfl, Nat.le_refl _, fun _ _ _ => rfl⟩⟩
  · have hK := own_holdsK hk hpos h
    have hgl : g < w.heap.size := blk_lt hg
    have hn := Go.Proofs.AnyQ.slices_SortFunc L k aE zE enc hk h1 f hf gf #[] g 0 cap l.toArray w eg (fun _ _ _ _ x y => hc _ x y) hK hgl (by simp; omega)
    have hsz : l.toArray.size = l.length := by simp
    rw [hsz] at hn
    refine hn.mono ?_
    rintro e' w' ⟨rfl, d', n, os, hp, hs', rfl⟩
    rw [← hsz] at hp hs'
    obtain ⟨e1, e2, e3⟩ := perm_sortedE hp hs'
    have hgr := grown_sortE (enc := enc) (k := k) (w := w) g 0 n d' os
    refine ⟨rfl, d'.toList, e2, e3, own_sortedE hk hpos h d' e1 n os, (Below.refl base w).grown hgr hbase (fun j hj => by simp at hj; omega), hgr⟩
end Go.Proofs.YthlhnokgcnieeadGreatDoor

/- slices.SortFunc at operations is the library's, by its own laws. -/
namespace Go.Proofs
open Go.Shelf
def Tryz.sortOp_ren : Go.Shelf.Ren := ⟨fun | 6 => 79 | 15 => 96 | 14 => 95 | 28 => 121 | 29 => 122 | 20 => 113 | 21 => 114 | 22 => 115 | 23 => 116 | 24 => 117 | 25 => 118 | 26 => 119 | 27 => 120 | 46 => 137 | 47 => 138 | 48 => 139 | 49 => 140 | 50 => 141 | 57 => 156 | n => n, fun | 22 => 129 | 24 => 41 | 25 => 146 | 3 => 3 | 39 => 166 | 0 => 0 | 53 => 190 | 55 => 171 | 4 => 4 | 46 => 183 | 45 => 182 | 50 => 187 | 5 => 5 | 9 => 9 | 66 => 201 | 70 => 205 | 76 => 220 | 77 => 221 | n => n, fun | n => n⟩
theorem Tryz.sortOp : Go.Proofs.SlLaysF0.n6 Tryz.prog Tryz.sortOp_ren := {
  mixed := by kernel_rfl
  f6 := ⟨Tryz.f79.name, by decide, Tryz.func79.trans (congrArg some (by kernel_rfl))⟩
  f14 := ⟨Tryz.f95.name, by decide, Tryz.func95.trans (congrArg some (by kernel_rfl))⟩
  f15 := Tryz.func96.trans (congrArg some (by kernel_rfl))
  f20 := ⟨Tryz.f113.name, by decide, Tryz.func113.trans (congrArg some (by kernel_rfl))⟩
  f21 := ⟨Tryz.f114.name, by decide, Tryz.func114.trans (congrArg some (by kernel_rfl))⟩
  f22 := ⟨Tryz.f115.name, by decide, Tryz.func115.trans (congrArg some (by kernel_rfl))⟩
  f23 := ⟨Tryz.f116.name, by decide, Tryz.func116.trans (congrArg some (by kernel_rfl))⟩
  f24 := ⟨Tryz.f117.name, by decide, Tryz.func117.trans (congrArg some (by kernel_rfl))⟩
  f25 := ⟨Tryz.f118.name, by decide, Tryz.func118.trans (congrArg some (by kernel_rfl))⟩
  f26 := ⟨Tryz.f119.name, by decide, Tryz.func119.trans (congrArg some (by kernel_rfl))⟩
  f27 := ⟨Tryz.f120.name, by decide, Tryz.func120.trans (congrArg some (by kernel_rfl))⟩
  f28 := Tryz.func121.trans (congrArg some (by kernel_rfl))
  f29 := Tryz.func122.trans (congrArg some (by kernel_rfl))
  f46 := ⟨Tryz.f137.name, by decide, Tryz.func137.trans (congrArg some (by kernel_rfl))⟩
  f47 := Tryz.func138.trans (congrArg some (by kernel_rfl))
  f48 := Tryz.func139.trans (congrArg some (by kernel_rfl))
  f49 := ⟨Tryz.f140.name, by decide, Tryz.func140.trans (congrArg some (by kernel_rfl))⟩
  f50 := ⟨Tryz.f141.name, by decide, Tryz.func141.trans (congrArg some (by kernel_rfl))⟩
  f57 := ⟨Tryz.f156.name, by decide, Tryz.func156.trans (congrArg some (by kernel_rfl))⟩
  t0 := Tryz.underlying0
  a0 := Tryz.isAgg0
  z0 := Tryz.sizeOf0
  v0 := Tryz.zeroValue0
  t3 := Tryz.underlying3
  a3 := Tryz.isAgg3
  z3 := Tryz.sizeOf3
  v3 := Tryz.zeroValue3
  t4 := Tryz.underlying4
  a4 := Tryz.isAgg4
  z4 := Tryz.sizeOf4
  v4 := Tryz.zeroValue4
  t5 := Tryz.underlying5
  a5 := Tryz.isAgg5
  z5 := Tryz.sizeOf5
  v5 := Tryz.zeroValue5
  t9 := Tryz.underlying9
  a9 := Tryz.isAgg9
  z9 := Tryz.sizeOf9
  v9 := Tryz.zeroValue9
  t22 := Tryz.underlying129
  a22 := Tryz.isAgg129
  z22 := Tryz.sizeOf129
  v22 := Tryz.zeroValue129
  t25 := Tryz.underlying146
  a25 := Tryz.isAgg146
  z25 := Tryz.sizeOf146
  v25 := Tryz.zeroValue146
  t39 := Tryz.underlying166
  a39 := Tryz.isAgg166
  z39 := Tryz.sizeOf166
  v39 := Tryz.zeroValue166
  t45 := Tryz.underlying182
  a45 := Tryz.isAgg182
  z45 := Tryz.sizeOf182
  v45 := Tryz.zeroValue182
  t46 := Tryz.underlying183
  a46 := Tryz.isAgg183
  z46 := Tryz.sizeOf183
  v46 := Tryz.zeroValue183
  t50 := Tryz.underlying187
  a50 := Tryz.isAgg187
  z50 := Tryz.sizeOf187
  v50 := Tryz.zeroValue187
  t53 := Tryz.underlying190
  a53 := Tryz.isAgg190
  z53 := Tryz.sizeOf190
  v53 := Tryz.zeroValue190
  t55 := Tryz.underlying171
  a55 := Tryz.isAgg171
  z55 := Tryz.sizeOf171
  v55 := Tryz.zeroValue171
  t66 := Tryz.underlying201
  a66 := Tryz.isAgg201
  z66 := Tryz.sizeOf201
  v66 := Tryz.zeroValue201
  t70 := Tryz.underlying205
  a70 := Tryz.isAgg205
  z70 := Tryz.sizeOf205
  v70 := Tryz.zeroValue205
  t76 := Tryz.underlying220
  a76 := Tryz.isAgg220
  z76 := Tryz.sizeOf220
  v76 := Tryz.zeroValue220
  t77 := Tryz.underlying221
  a77 := Tryz.isAgg221
  z77 := Tryz.sizeOf221
  v77 := Tryz.zeroValue221 }
end Go.Proofs

/- Plain facts on chapter 3, further: stamps that are there, and what sorting by stamps makes. -/
namespace Orangery

/-- an operation of these has this stamp -/
def hasM (l : List Mv) (t u : Int) : Bool := l.any fun o => decide (o.1 = t) && decide (o.2.1 = u)

theorem hasM_iff (l : List Mv) (t u : Int) : hasM l t u = true ↔ ∃ x ∈ l, x.1 = t ∧ x.2.1 = u := by
  unfold hasM
  rw [List.any_eq_true]
  simp

theorem hasM_rk {l : List Mv} (hl : ∀ x ∈ l, checkOp x = 0) {o : Mv} (ho : checkOp o = 0) : hasM l o.1 o.2.1 = true ↔ ∃ x ∈ l, rk x = rk o := by
  rw [hasM_iff]
  constructor
  · rintro ⟨x, hx, h⟩; exact ⟨x, hx, (rk_eq (hl x hx) ho).2 h⟩
  · rintro ⟨x, hx, h⟩; exact ⟨x, hx, (rk_eq (hl x hx) ho).1 h⟩

theorem noTwo_take {l : List Mv} (hl : ∀ x ∈ l, checkOp x = 0) (k : Nat) (hk : k < l.length) (hn : noTwo (l.take k)) :
    (hasM (l.take k) l[k].1 l[k].2.1 = false → noTwo (l.take (k + 1))) ∧ (hasM (l.take k) l[k].1 l[k].2.1 = true → ¬ noTwo l) := by
  have ho := hl l[k] (List.getElem_mem hk)
  have hlk : ∀ x ∈ l.take k, checkOp x = 0 := fun x hx => hl x (List.mem_of_mem_take hx)
  constructor
  · intro h
    rw [List.take_succ_eq_append_getElem hk]
    unfold noTwo
    rw [List.pairwise_append]
    refine ⟨hn, by simp, ?_⟩
    intro x hx y hy e
    simp at hy
    subst hy
    have := (hasM_rk hlk ho).2 ⟨x, hx, e⟩
    rw [h] at this
    simp at this
  · intro h hno
    obtain ⟨x, hx, e⟩ := (hasM_rk hlk ho).1 h
    have h2 : noTwo (l.take (k + 1)) := List.Pairwise.sublist (List.take_sublist _ _) hno
    rw [List.take_succ_eq_append_getElem hk] at h2
    unfold noTwo at h2
    rw [List.pairwise_append] at h2
    exact h2.2.2 x hx l[k] (by simp) e

/-- what sorting by stamps makes -/
theorem srt_of_stamps {l l' : List Mv} (hl : ∀ x ∈ l, checkOp x = 0) (hn : noTwo l) (hp : l'.Perm l) (hs : l'.Pairwise fun p q => ¬ (q.1 < p.1 ∨ (q.1 = p.1 ∧ q.2.1 < p.2.1))) : srt l = l' := by
  refine srt_unique l l' ?_ hp
  have hn' := noTwo_perm hp.symm hn
  have hl' : ∀ x ∈ l', checkOp x = 0 := fun x hx => hl x (hp.mem_iff.1 hx)
  have h2 := hs.and hn'
  refine h2.imp_of_mem ?_
  intro a b ha hb h
  have e1 := rk_lt (hl' b hb) (hl' a ha)
  obtain ⟨h3, h4⟩ := h
  rw [← e1] at h3
  omega

theorem fold_err {l : List Mv} (h : foldE l ≠ 0) : foldL l = [] ∧ foldT l = [] := by
  unfold foldL foldT
  rw [if_pos h, if_pos h]
  exact ⟨rfl, rfl⟩
theorem foldE_many {l : List Mv} (h : 30 < l.length) : foldE l = 2 := by unfold foldE; rw [if_pos h]
theorem foldE_first {l : List Mv} (h : l.length ≤ 30) (h2 : firstE l ≠ 0) : foldE l = firstE l := by unfold foldE; rw [if_neg (by omega), if_pos h2]
theorem foldE_twice {l : List Mv} (h : l.length ≤ 30) (h2 : firstE l = 0) (h3 : ¬ noTwo l) : foldE l = 6 := by
  unfold foldE
  rw [if_neg (by omega), if_neg (by simp [h2]), if_pos ((srt_len l).2.2 h3)]
theorem foldE_ok {l : List Mv} (h : l.length ≤ 30) (h2 : firstE l = 0) (h3 : noTwo l) : foldE l = 0 := (foldE_zero l).2 ⟨h, (firstE_zero l).1 h2, h3⟩
end Orangery

