/- 4 texts of the proof: Plain facts on clients: both parts of a checked view are apart. move.Do. orangeryref.done: an operation on right places. orangeryref.ShownBy. -/
import Derived.Deep.RegionHeld3
import Derived.Deep.DeepCutAuto
import Derived.Test.YtijjiccgpobjmaeGreatP14
import Derived.Test.YtijjiccgpobjmaeGreatP02
import Derived.Test.YtijjiccgpobjmaeGreatP07
import Derived.Test.YtijjiccgpobjmaeGreatP06
import Derived.Test.YtijjiccgpobjmaeGreatP11
import Derived.Test.YtijjiccgpobjmaeGreatP08
import Derived.Test.YtijjiccgpobjmaeGreatP05
import Derived.Test.YtijjiccgpobjmaeGreatP13
import Derived.Test.YtijjiccgpobjmaeGreatP16
/- Plain facts on clients: both parts of a checked view are apart. -/
namespace Orangery

theorem tog_length (K W : List Pl) (hK : scan 0 K = 0) (hW : scan 0 W = 0) : (togL K W).length = (K.filter fun p => !inPl W p.1).length + W.length := by
  have hp := List.mergeSort_perm ((K.filter fun p => !inPl W p.1) ++ W) (fun p q => decide (p.1 ≤ q.1))
  have hs := List.pairwise_mergeSort (le := fun (p q : Pl) => decide (p.1 ≤ q.1)) (fun a b c h1 h2 => by simp at *; omega) (fun a b => by simp; omega) ((K.filter fun p => !inPl W p.1) ++ W)
  have h := tog_unique K W _ hK hW hp (hs.imp (fun h => by simpa using h))
  rw [← h, hp.length_eq, List.length_append]
theorem view_free {R : List Int} {K V : List Pl} (h : viewE R K V = 0) (h1 : scan 0 K = 0) (h2 : scan 0 V = 0) : K.filter (fun p => !inPl V p.1) = K := by
  have e1 := tog_length K V h1 h2
  have e2 := view_count (v := (R, K, V)) h
  simp only at e2
  have e3 : (K.filter (fun p => !inPl V p.1)).length = K.length := by omega
  rw [List.filter_eq_self]
  exact List.length_filter_eq_length_iff.1 e3
end Orangery

/- move.Do. -/
namespace Go.Proofs.YtijjiccgpobjmaeGreat
open Go.ChangeShapes Go.WideShapes Go.ChangeAt Go.RowKit
open Orangery (Pl Mv Stp outL inL check checkOp doE doT doS ring orI underB underE find noStep noOp)

set_option maxHeartbeats 2000000 in
set_option maxRecDepth 100000 in
theorem do_any (w : World) (a : Option Addr) (c : Nat) (l : List Pl) (o : Mv) (hl : l.length ≤ maxLen) (h : SlP w a l) :
    Calls Tryz.prog 31 #[.agg #[.slice a l.length c], opV o] w
      fun e w' => ∃ v, e = .returned (.tuple #[.agg #[v], stV (doS l o), .int .i64 (doE l o)]) ∧ OwnS w' w.heap.size v (doT l o) ∧ Below w.heap.size w w' := by
  obtain ⟨o1, o2, ⟨o3, o4, o5⟩, o6, o7⟩ := o
  go_enter Tryz.func31, Tryz.ntmps31
  go_wp2_with fail
  obtain ⟨W0, hW, hT, hO, hR, hQ, hB, hS⟩ := laid4 w [Value.slice a l.length c] 37 [Value.int IntKind.i64 o1, Value.int IntKind.i64 o2, Value.int IntKind.i64 o3, Value.int IntKind.i64 o4, Value.int IntKind.i64 o5, Value.int IntKind.i64 o6, Value.int IntKind.i64 o7] 32 [Value.slice none 0 0] 37 [Value.int IntKind.i64 0, Value.int IntKind.i64 0, Value.int IntKind.i64 0, Value.int IntKind.i64 0, Value.int IntKind.i64 0, Value.int IntKind.i64 0, Value.int IntKind.i64 0, Value.bool false, Value.int IntKind.i64 0, Value.int IntKind.i64 0, Value.int IntKind.i64 0] 68
  rw [hW]
  clear hW
  have hP := h.below hB
  clear h
  have t0 := hT.at 0 rfl
  have m0 := hO.at 0 rfl
  have m1 := hO.at 1 rfl
  have m2 := hO.at 2 rfl
  have m3 := hO.at 3 rfl
  have m4 := hO.at 4 rfl
  have m5 := hO.at 5 rfl
  have m6 := hO.at 6 rfl
  go_region_held3 (fun w' => w'.cell? ⟨w.heap.size, 0, none⟩ = some (.slice a l.length c) ∧ w'.cell? ⟨w.heap.size + 1, 0, none⟩ = some (.int .i64 o1) ∧ w'.cell? ⟨w.heap.size + 1, 1, none⟩ = some (.int .i64 o2) ∧ w'.cell? ⟨w.heap.size + 1, 2, none⟩ = some (.int .i64 o3) ∧ w'.cell? ⟨w.heap.size + 1, 3, none⟩ = some (.int .i64 o4) ∧ w'.cell? ⟨w.heap.size + 1, 4, none⟩ = some (.int .i64 o5) ∧ w'.cell? ⟨w.heap.size + 1, 5, none⟩ = some (.int .i64 o6) ∧ w'.cell? ⟨w.heap.size + 1, 6, none⟩ = some (.int .i64 o7)) (go_keep)
    (first | (go_at_call 23; refine (check_any _ a c l hl ?_).mono ?_; exact hP; rintro e w1 ⟨rfl, hb1⟩; have hb1' : Below W0.heap.size W0 w1 := ((Below.refl _ W0).drew).trans hb1; have t1 := (hT.keep hb1').at 0 rfl; have hO1 := hO.keep hb1'; have m10 := hO1.at 0 rfl; have m11 := hO1.at 1 rfl; have m12 := hO1.at 2 rfl; have m13 := hO1.at 3 rfl; have m14 := hO1.at 4 rfl; have m15 := hO1.at 5 rfl; have m16 := hO1.at 6 rfl) | (go_at_call 28; refine (moveCheck_any _ (o1, o2, (o3, o4, o5), o6, o7)).mono ?_; rintro e w2 ⟨rfl, hb2⟩; have hb2' := hb1'.trans (hb2.mono hb1'.size); have t2 := (hT.keep hb2').at 0 rfl; have hO2 := hO.keep hb2'; have m20 := hO2.at 0 rfl; have m21 := hO2.at 1 rfl; have m22 := hO2.at 2 rfl; have m23 := hO2.at 3 rfl; have m24 := hO2.at 4 rfl; have m25 := hO2.at 5 rfl; have m26 := hO2.at 6 rfl) | (go_at_call 26; refine (orE_any _ _ _ (check l) (checkOp (o1, o2, (o3, o4, o5), o6, o7)) ?_ ?_).mono ?_; simp; simp; rintro e w3 ⟨rfl, rfl⟩))
  have HE : Hid (doE l (o1, o2, (o3, o4, o5), o6, o7) = orI (check l) (checkOp (o1, o2, (o3, o4, o5), o6, o7))) := rfl
  have hT3 := (hT.keep hb2').alloc (Obj.cells #[Value.int IntKind.i64 (check l), Value.int IntKind.i64 (checkOp (o1, o2, (o3, o4, o5), o6, o7))] 33)
  have hO3 := hO2.alloc (Obj.cells #[Value.int IntKind.i64 (check l), Value.int IntKind.i64 (checkOp (o1, o2, (o3, o4, o5), o6, o7))] 33)
  have hR3 := (hR.keep hb2').alloc (Obj.cells #[Value.int IntKind.i64 (check l), Value.int IntKind.i64 (checkOp (o1, o2, (o3, o4, o5), o6, o7))] 33)
  have hQ3 := (hQ.keep hb2').alloc (Obj.cells #[Value.int IntKind.i64 (check l), Value.int IntKind.i64 (checkOp (o1, o2, (o3, o4, o5), o6, o7))] 33)
  have hb3 : Below W0.heap.size W0 (w2.alloc (Obj.cells #[Value.int IntKind.i64 (check l), Value.int IntKind.i64 (checkOp (o1, o2, (o3, o4, o5), o6, o7))] 33)) := hb2'.alloc hb2'.size _
  have hP3 := hP.below hb3
  have HB3 : Hid (Below w.heap.size w (w2.alloc (Obj.cells #[Value.int IntKind.i64 (check l), Value.int IntKind.i64 (checkOp (o1, o2, (o3, o4, o5), o6, o7))] 33))) := hB.trans (hb3.mono hB.size)
  generalize w2.alloc (Obj.cells #[Value.int IntKind.i64 (check l), Value.int IntKind.i64 (checkOp (o1, o2, (o3, o4, o5), o6, o7))] 33) = W3 at *
  clear hT hO hR hQ hB hP t0 m0 m1 m2 m3 m4 m5 m6 t1 m10 m11 m12 m13 m14 m15 m16 t2 m20 m21 m22 m23 m24 m25 m26 hb1 hb1' hb2 hb2' hO1 hO2
  by_cases hz : orI (check l) (checkOp (o1, o2, (o3, o4, o5), o6, o7)) = 0
  · obtain ⟨hck, hco⟩ := Orangery.doE_zero (l := l) (o := (o1, o2, (o3, o4, o5), o6, o7)) hz
    have hok := Orangery.checkOp_zero hco
    obtain ⟨hr1, hr2, hr3⟩ := Orangery.opOk_place hok
    have hlen := Orangery.check_len l hck
    have hby := ((Orangery.check_iff l).1 hck).2.1
    have hu1 := (Orangery.underE_ok l o4 o3 hck hr3 hr2).1
    have HZ : Hid (doE l (o1, o2, (o3, o4, o5), o6, o7) = 0) := by show _ = _; rw [HE.out]; exact hz
    rw [hz]
    clear hz hck hco hok hr1 hr2 hr3 HE
    have t0 := hT3.at 0 rfl
    have m0 := hO3.at 0 rfl
    have m1 := hO3.at 1 rfl
    have m2 := hO3.at 2 rfl
    have m3 := hO3.at 3 rfl
    have m4 := hO3.at 4 rfl
    have m5 := hO3.at 5 rfl
    have m6 := hO3.at 6 rfl
    go_wp2_with fail
    refine (under_any W3 a c l o4 o3 hl hP3).mono ?_
    rintro e w4 ⟨rfl, hb4⟩
    rw [hu1]
    have hT4 := hT3.keep hb4
    have hO4 := hO3.keep hb4
    have hR4 := hR3.keep hb4
    have hQ4 := hQ3.keep hb4
    have hP4 := hP3.below hb4
    have HB4 : Hid (Below w.heap.size w w4) := HB3.out.trans (hb4.mono HB3.out.size)
    clear hT3 hO3 hR3 hQ3 hP3 HB3 hb3 hb4 t0 m0 m1 m2 m3 m4 m5 m6 hu1
    have t0 := hT4.at 0 rfl
    have m0 := hO4.at 0 rfl
    have m1 := hO4.at 1 rfl
    have m2 := hO4.at 2 rfl
    have m3 := hO4.at 3 rfl
    have m4 := hO4.at 4 rfl
    have m5 := hO4.at 5 rfl
    have m6 := hO4.at 6 rfl
    generalize hrg : underB l o4 o3 = rg at *
    have HRG : Hid (ring l (o1, o2, (o3, o4, o5), o6, o7) = rg) := hrg
    clear hrg
    have n0 := World.new_ne w4 _ t0
    have n1 := World.new_ne w4 _ m0
    go_upto_region 7 with fail
    go_cut [10] from 10 to 43 (fun r wc => ∃ bs, r = .pointer (some ⟨bs, 0, none⟩) ∧ w4.heap.size ≤ bs ∧ Blk wc bs (stC ((o1, o2, (o3, o4, o5), o6, o7), !rg, find l o3)) ∧ Below w4.heap.size w4 wc)
    case first =>
      go_region_held3 (fun w' => w'.cell? ⟨w.heap.size, 0, none⟩ = some (.slice a l.length c) ∧ w'.cell? ⟨w.heap.size + 1, 0, none⟩ = some (.int .i64 o1) ∧ w'.cell? ⟨w.heap.size + 1, 1, none⟩ = some (.int .i64 o2) ∧ w'.cell? ⟨w.heap.size + 1, 2, none⟩ = some (.int .i64 o3) ∧ w'.cell? ⟨w.heap.size + 1, 3, none⟩ = some (.int .i64 o4) ∧ w'.cell? ⟨w.heap.size + 1, 4, none⟩ = some (.int .i64 o5) ∧ w'.cell? ⟨w.heap.size + 1, 5, none⟩ = some (.int .i64 o6) ∧ w'.cell? ⟨w.heap.size + 1, 6, none⟩ = some (.int .i64 o7)) (go_keep)
        (first | (go_at_call 25; refine (find_any _ a c l o3 hl ?_).mono ?_; exact hP4; rintro e w5 ⟨rfl, hb5⟩; have hb5' : Below w4.heap.size w4 w5 := ((Below.refl _ w4).drew).trans hb5; have t1 := (hT4.keep hb5').at 0 rfl; have hO5 := hO4.keep hb5'; have m10 := hO5.at 0 rfl; have m11 := hO5.at 1 rfl; have m12 := hO5.at 2 rfl; have m13 := hO5.at 3 rfl; have m14 := hO5.at 4 rfl; have m15 := hO5.at 5 rfl; have m16 := hO5.at 6 rfl; have y0 := World.new_ne w5 _ t1; have y1 := World.new_ne w5 _ m10) | (go_at_call 25; refine (find_any _ a c l o3 hl ?_).mono ?_; exact hP4.below (((Below.refl _ w4).alloc (Nat.le_refl _) _).drew); rintro e w5 ⟨rfl, hb5⟩; have hb5' : Below w4.heap.size w4 w5 := (((Below.refl _ w4).alloc (Nat.le_refl _) _).drew).trans (hb5.mono (by simp)); have hN5 := ((Blk.new w4 (stC noStep) 68).drew).keep hb5; have z0 := hN5.at 0 rfl; have z1 := hN5.at 1 rfl; have z2 := hN5.at 2 rfl; have z3 := hN5.at 3 rfl; have z4 := hN5.at 4 rfl; have z5 := hN5.at 5 rfl; have z6 := hN5.at 6 rfl; have z7 := hN5.at 7 rfl; have z8 := hN5.at 8 rfl; have z9 := hN5.at 9 rfl; have z10 := hN5.at 10 rfl; have zf := hN5.frz; have t1 := (hT4.keep hb5').at 0 rfl; have hO5 := hO4.keep hb5'; have m10 := hO5.at 0 rfl; have m11 := hO5.at 1 rfl; have m12 := hO5.at 2 rfl; have m13 := hO5.at 3 rfl; have m14 := hO5.at 4 rfl; have m15 := hO5.at 5 rfl; have m16 := hO5.at 6 rfl; have y0 := World.new_ne w5 _ t1; have y1 := World.new_ne w5 _ m10))
      · go_wp2
        go_meet
        case rel => exact ⟨w5.heap.size, rfl, hb5'.size, Blk.new w5 (stC ((o1, o2, (o3, o4, o5), o6, o7), !rg, find l o3)) 68, hb5'.alloc hb5'.size _⟩
      · go_wp2
        go_meet
        case rel => exact ⟨w4.heap.size, rfl, Nat.le_refl _, hN5.sets (stC ((o1, o2, (o3, o4, o5), o6, o7), !rg, find l o3)) rfl, below_sets hb5' w4.heap.size (Nat.le_refl _) (stC ((o1, o2, (o3, o4, o5), o6, o7), !rg, find l o3)) 0⟩
    case rest =>
      obtain ⟨bs, rfl, hbs, hS5, hb5⟩ := hcut
      have hT5 := hT4.keep hb5
      have hO5 := hO4.keep hb5
      have hR5 := hR4.keep hb5
      have hQ5 := hQ4.keep hb5
      have hP5 := hP4.below hb5
      have HB5 : Hid (Below w.heap.size w wc) := HB4.out.trans (hb5.mono HB4.out.size)
      have hqlt := hQ4.lt
      have hwc : w.heap.size + 1 + 1 + 1 + 1 ≤ wc.heap.size := by have := hb5.size; omega
      have n2 : ¬ bs = w.heap.size := by omega
      have n3 : ¬ bs = w.heap.size + 1 + 1 := by omega
      have n4 : ¬ bs = w.heap.size + 1 + 1 + 1 := by omega
      have n5 : ¬ w.heap.size + 1 + 1 = bs := by omega
      have n6 : ¬ w.heap.size + 1 + 1 + 1 = bs := by omega
      have n11 : ¬ bs = w.heap.size + 1 := by omega
      have n12 : ¬ w.heap.size + 1 + 1 = w.heap.size + 1 := by omega
      have n13 : ¬ w.heap.size + 1 + 1 + 1 = w.heap.size + 1 := by omega
      have n7 : ¬ w.heap.size + 1 + 1 = w.heap.size := by omega
      have n8 : ¬ w.heap.size + 1 + 1 + 1 = w.heap.size := by omega
      have n9 : ¬ w.heap.size + 1 + 1 + 1 = w.heap.size + 1 + 1 := by omega
      have n10 : ¬ w.heap.size + 1 + 1 = w.heap.size + 1 + 1 + 1 := by omega
      clear hT4 hO4 hR4 hQ4 hP4 HB4 t0 m0 m1 m2 m3 m4 m5 m6 n0 n1
      have t0 := hT5.at 0 rfl
      cases rg
      · have HBY : Hid (Orangery.byNode l) := hby
        clear hby
        have s0 := hS5.at 0 rfl
        have s1 := hS5.at 1 rfl
        have s2 := hS5.at 2 rfl
        have s3 := hS5.at 3 rfl
        have s4 := hS5.at 4 rfl
        have s5 := hS5.at 5 rfl
        have s6 := hS5.at 6 rfl
        have s7 := hS5.at 7 rfl
        have s8 := hS5.at 8 rfl
        have s9 := hS5.at 9 rfl
        have s10 := hS5.at 10 rfl
        have m0 := hO5.at 0 rfl
        have m1 := hO5.at 1 rfl
        have m2 := hO5.at 2 rfl
        have m3 := hO5.at 3 rfl
        have m4 := hO5.at 4 rfl
        have m5 := hO5.at 5 rfl
        have m6 := hO5.at 6 rfl
        go_wp2_with fail
        go_region_held3 (fun w' => w'.cell? ⟨w.heap.size, 0, none⟩ = some (.slice a l.length c) ∧ w'.cell? ⟨w.heap.size + 1, 0, none⟩ = some (.int .i64 o1) ∧ w'.cell? ⟨w.heap.size + 1, 1, none⟩ = some (.int .i64 o2) ∧ w'.cell? ⟨w.heap.size + 1, 2, none⟩ = some (.int .i64 o3) ∧ w'.cell? ⟨w.heap.size + 1, 3, none⟩ = some (.int .i64 o4) ∧ w'.cell? ⟨w.heap.size + 1, 4, none⟩ = some (.int .i64 o5) ∧ w'.cell? ⟨w.heap.size + 1, 5, none⟩ = some (.int .i64 o6) ∧ w'.cell? ⟨w.heap.size + 1, 6, none⟩ = some (.int .i64 o7) ∧ w'.cell? ⟨bs, 0, none⟩ = some (.int .i64 o1) ∧ w'.cell? ⟨bs, 1, none⟩ = some (.int .i64 o2) ∧ w'.cell? ⟨bs, 2, none⟩ = some (.int .i64 o3) ∧ w'.cell? ⟨bs, 3, none⟩ = some (.int .i64 o4) ∧ w'.cell? ⟨bs, 4, none⟩ = some (.int .i64 o5) ∧ w'.cell? ⟨bs, 5, none⟩ = some (.int .i64 o6) ∧ w'.cell? ⟨bs, 6, none⟩ = some (.int .i64 o7) ∧ w'.cell? ⟨bs, 7, none⟩ = some (.bool true) ∧ w'.cell? ⟨bs, 8, none⟩ = some (.int .i64 (find l o3).1) ∧ w'.cell? ⟨bs, 9, none⟩ = some (.int .i64 (find l o3).2.1) ∧ w'.cell? ⟨bs, 10, none⟩ = some (.int .i64 (find l o3).2.2)) (go_keep)
          (first | (go_at_call 66; refine (target_any _ (o1, o2, (o3, o4, o5), o6, o7)).mono ?_; rintro e w6 ⟨rfl, hb6⟩; have hb6' : Below wc.heap.size wc w6 := ((Below.refl _ wc).drew).trans hb6; have hP6 := hP5.below hb6'; have t6 := (hT5.keep hb6').at 0 rfl; have hO6 := hO5.keep hb6'; have m6_0 := hO6.at 0 rfl; have m6_1 := hO6.at 1 rfl; have m6_2 := hO6.at 2 rfl; have m6_3 := hO6.at 3 rfl; have m6_4 := hO6.at 4 rfl; have m6_5 := hO6.at 5 rfl; have m6_6 := hO6.at 6 rfl; have hS6 := hS5.keep hb6'; have s6_0 := hS6.at 0 rfl; have s6_1 := hS6.at 1 rfl; have s6_2 := hS6.at 2 rfl; have s6_3 := hS6.at 3 rfl; have s6_4 := hS6.at 4 rfl; have s6_5 := hS6.at 5 rfl; have s6_6 := hS6.at 6 rfl; have s6_7 := hS6.at 7 rfl; have s6_8 := hS6.at 8 rfl; have s6_9 := hS6.at 9 rfl; have s6_10 := hS6.at 10 rfl) | (go_at_call 65; refine (with_any _ a c l (o3, o4, o5) (by omega) hP6 HBY.out).mono ?_; rintro e w7 ⟨v7, rfl, hO7', hb7⟩; obtain ⟨a7, c7, rfl⟩ := hO7'.val; have hb7' : Below wc.heap.size wc w7 := hb6'.trans (hb7.mono hb6'.size); have t7 := (hT5.keep hb7').at 0 rfl; have hO7 := hO5.keep hb7'; have m7_0 := hO7.at 0 rfl; have m7_1 := hO7.at 1 rfl; have m7_2 := hO7.at 2 rfl; have m7_3 := hO7.at 3 rfl; have m7_4 := hO7.at 4 rfl; have m7_5 := hO7.at 5 rfl; have m7_6 := hO7.at 6 rfl; have hS7 := hS5.keep hb7'; have s7_0 := hS7.at 0 rfl; have s7_1 := hS7.at 1 rfl; have s7_2 := hS7.at 2 rfl; have s7_3 := hS7.at 3 rfl; have s7_4 := hS7.at 4 rfl; have s7_5 := hS7.at 5 rfl; have s7_6 := hS7.at 6 rfl; have s7_7 := hS7.at 7 rfl; have s7_8 := hS7.at 8 rfl; have s7_9 := hS7.at 9 rfl; have s7_10 := hS7.at 10 rfl; have hR7 := hR5.keep hb7'; have r0 := hR7.at 0 rfl; have rf := hR7.frz; have hQ7 := hQ5.keep hb7'; have q0 := hQ7.at 0 rfl; have q1 := hQ7.at 1 rfl; have q2 := hQ7.at 2 rfl; have q3 := hQ7.at 3 rfl; have q4 := hQ7.at 4 rfl; have q5 := hQ7.at 5 rfl; have q6 := hQ7.at 6 rfl; have q7 := hQ7.at 7 rfl; have q8 := hQ7.at 8 rfl; have q9 := hQ7.at 9 rfl; have q10 := hQ7.at 10 rfl; have qf := hQ7.frz))
        go_wp2
        have hRf := (hR7.set 0 (by simp) (.slice a7 (inL l (o3, o4, o5)).length c7)).others (g := w.heap.size + 1 + 1 + 1) (by omega) (stC ((o1, o2, (o3, o4, o5), o6, o7), true, find l o3)) 0
        have hQf := (hQ7.other (g := w.heap.size + 1 + 1) (by omega) 0 (.slice a7 (inL l (o3, o4, o5)).length c7)).sets (stC ((o1, o2, (o3, o4, o5), o6, o7), true, find l o3)) rfl
        refine ret_cell_cell_tmp Tryz.results31 rfl rfl rfl hRf.tree (hQf.load Tryz.underlying68 rfl sizeStep) ?_
        refine ⟨.slice a7 (inL l (o3, o4, o5)).length c7, ?_, ?_, ?_⟩
        · rw [HZ.out]
          have e : doS l (o1, o2, (o3, o4, o5), o6, o7) = ((o1, o2, (o3, o4, o5), o6, o7), true, find l o3) := by unfold doS; rw [if_neg (by simp [HZ.out]), HRG.out]; rfl
          rw [e]
          rfl
        · have e : doT l (o1, o2, (o3, o4, o5), o6, o7) = inL l (o3, o4, o5) := by unfold doT; rw [if_neg (by simp [HZ.out]), HRG.out]; rfl
          rw [e]
          have h1 := (hO7'.mono (base' := wc.heap.size) hb6'.size).mono (base' := w.heap.size + 1 + 1 + 1 + 1) (by omega)
          exact (OwnS.others (w.heap.size + 1 + 1 + 1) (by omega) (stC ((o1, o2, (o3, o4, o5), o6, o7), true, find l o3)) 0 _ (h1.other (w.heap.size + 1 + 1) (by omega) 0 _)).mono (by omega)
        · have h1 : Below w.heap.size w w7 := HB5.out.trans (hb7'.mono HB5.out.size)
          exact below_sets (h1.setCell (by show _ ≤ w.heap.size + 1 + 1; omega) _) (w.heap.size + 1 + 1 + 1) (by omega) (stC ((o1, o2, (o3, o4, o5), o6, o7), true, find l o3)) 0
      · have s0 := hS5.at 0 rfl
        have s1 := hS5.at 1 rfl
        have s2 := hS5.at 2 rfl
        have s3 := hS5.at 3 rfl
        have s4 := hS5.at 4 rfl
        have s5 := hS5.at 5 rfl
        have s6 := hS5.at 6 rfl
        have s7 := hS5.at 7 rfl
        have s8 := hS5.at 8 rfl
        have s9 := hS5.at 9 rfl
        have s10 := hS5.at 10 rfl
        go_wp2_with fail
        go_region_held3 (fun w' => w'.cell? ⟨w.heap.size, 0, none⟩ = some (.slice a l.length c) ∧ w'.cell? ⟨bs, 0, none⟩ = some (.int .i64 o1) ∧ w'.cell? ⟨bs, 1, none⟩ = some (.int .i64 o2) ∧ w'.cell? ⟨bs, 2, none⟩ = some (.int .i64 o3) ∧ w'.cell? ⟨bs, 3, none⟩ = some (.int .i64 o4) ∧ w'.cell? ⟨bs, 4, none⟩ = some (.int .i64 o5) ∧ w'.cell? ⟨bs, 5, none⟩ = some (.int .i64 o6) ∧ w'.cell? ⟨bs, 6, none⟩ = some (.int .i64 o7) ∧ w'.cell? ⟨bs, 7, none⟩ = some (.bool false) ∧ w'.cell? ⟨bs, 8, none⟩ = some (.int .i64 (find l o3).1) ∧ w'.cell? ⟨bs, 9, none⟩ = some (.int .i64 (find l o3).2.1) ∧ w'.cell? ⟨bs, 10, none⟩ = some (.int .i64 (find l o3).2.2)) (go_keep)
          (first | (go_at_call 64; refine (clone_any _ a c l (by omega) ?_).mono ?_; exact hP5; rintro e w6 ⟨v6, rfl, hO6, hb6⟩; obtain ⟨a6, c6, rfl⟩ := hO6.val; have hb6' : Below wc.heap.size wc w6 := ((Below.refl _ wc).drew).trans hb6; have t1 := (hT5.keep hb6').at 0 rfl; have hS6 := hS5.keep hb6'; have s10 := hS6.at 0 rfl; have s11 := hS6.at 1 rfl; have s12 := hS6.at 2 rfl; have s13 := hS6.at 3 rfl; have s14 := hS6.at 4 rfl; have s15 := hS6.at 5 rfl; have s16 := hS6.at 6 rfl; have s17 := hS6.at 7 rfl; have s18 := hS6.at 8 rfl; have s19 := hS6.at 9 rfl; have s110 := hS6.at 10 rfl; have hR6 := hR5.keep hb6'; have r0 := hR6.at 0 rfl; have rf := hR6.frz; have hQ6 := hQ5.keep hb6'; have q0 := hQ6.at 0 rfl; have q1 := hQ6.at 1 rfl; have q2 := hQ6.at 2 rfl; have q3 := hQ6.at 3 rfl; have q4 := hQ6.at 4 rfl; have q5 := hQ6.at 5 rfl; have q6 := hQ6.at 6 rfl; have q7 := hQ6.at 7 rfl; have q8 := hQ6.at 8 rfl; have q9 := hQ6.at 9 rfl; have q10 := hQ6.at 10 rfl; have qf := hQ6.frz))
        go_wp2
        have hRf := (hR6.set 0 (by simp) (.slice a6 l.length c6)).others (g := w.heap.size + 1 + 1 + 1) (by omega) (stC ((o1, o2, (o3, o4, o5), o6, o7), false, find l o3)) 0
        have hQf := (hQ6.other (g := w.heap.size + 1 + 1) (by omega) 0 (.slice a6 l.length c6)).sets (stC ((o1, o2, (o3, o4, o5), o6, o7), false, find l o3)) rfl
        refine ret_cell_cell_tmp Tryz.results31 rfl rfl rfl hRf.tree (hQf.load Tryz.underlying68 rfl sizeStep) ?_
        refine ⟨.slice a6 l.length c6, ?_, ?_, ?_⟩
        · rw [HZ.out]
          have e : doS l (o1, o2, (o3, o4, o5), o6, o7) = ((o1, o2, (o3, o4, o5), o6, o7), false, find l o3) := by unfold doS; rw [if_neg (by simp [HZ.out]), HRG.out]; rfl
          rw [e]
          rfl
        · have e : doT l (o1, o2, (o3, o4, o5), o6, o7) = l := by unfold doT; rw [if_neg (by simp [HZ.out]), HRG.out]; rfl
          rw [e]
          have h1 := (hO6.mono (base' := wc.heap.size) (Nat.le_refl _)).mono (base' := w.heap.size + 1 + 1 + 1 + 1) (by omega)
          exact (OwnS.others (w.heap.size + 1 + 1 + 1) (by omega) (stC ((o1, o2, (o3, o4, o5), o6, o7), false, find l o3)) 0 _ (h1.other (w.heap.size + 1 + 1) (by omega) 0 _)).mono (by omega)
        · have h1 : Below w.heap.size w w6 := HB5.out.trans (hb6'.mono HB5.out.size)
          exact below_sets (h1.setCell (by show _ ≤ w.heap.size + 1 + 1; omega) _) (w.heap.size + 1 + 1 + 1) (by omega) (stC ((o1, o2, (o3, o4, o5), o6, o7), false, find l o3)) 0
  · have hz' : (orI (check l) (checkOp (o1, o2, (o3, o4, o5), o6, o7)) != 0) = true := by simpa using hz
    have HZ : Hid (orI (check l) (checkOp (o1, o2, (o3, o4, o5), o6, o7)) ≠ 0) := hz
    have HR3 : Hid (Blk W3 (w.heap.size + 1 + 1) [Value.slice none 0 0]) := hR3
    have HQ3 : Hid (Blk W3 (w.heap.size + 1 + 1 + 1) (stC noStep)) := hQ3
    generalize orI (check l) (checkOp (o1, o2, (o3, o4, o5), o6, o7)) = E at *
    have r0 := hR3.at 0 rfl
    have rf := hR3.frz
    clear hz hT3 hO3 hR3 hQ3 hb3 hP3
    have HTH : Hid ((W3.setCell ⟨w.heap.size + 1 + 1, 0, none⟩ (.slice none 0 0)).there (w.heap.size + 1 + 1 + 1) 0 11) := (HQ3.out.other (g := w.heap.size + 1 + 1) (by omega) 0 (.slice none 0 0)).there
    go_wp2_with (refine wpList_store_mid (by rfl) 68 _ _ (by rfl) (w.heap.size + 1 + 1 + 1) 0 (stC noStep).toArray (by rfl) (by rfl) HTH.out sizeStep (all_oneCell_toArray (stC_one _)) ?_)
    have hRf := (HR3.out.set 0 (by simp) (.slice none 0 0)).others (g := w.heap.size + 1 + 1 + 1) (by omega) (stC noStep) 0
    have hQf := (HQ3.out.other (g := w.heap.size + 1 + 1) (by omega) 0 (.slice none 0 0)).sets (stC noStep) rfl
    refine ret_cell_cell_tmp Tryz.results31 rfl rfl rfl hRf.tree (hQf.load Tryz.underlying68 rfl sizeStep) ?_
    refine ⟨.slice none 0 0, ?_, ?_, ?_⟩
    · rw [HE.out]
      have e : doS l (o1, o2, (o3, o4, o5), o6, o7) = noStep := by unfold doS; rw [if_pos (by rw [HE.out]; exact HZ.out)]
      rw [e]
      rfl
    · have e : doT l (o1, o2, (o3, o4, o5), o6, o7) = [] := by unfold doT; rw [if_pos (by rw [HE.out]; exact HZ.out)]
      rw [e]
      exact Or.inl ⟨rfl, rfl⟩
    · exact below_sets (HB3.out.setCell (by show _ ≤ w.heap.size + 1 + 1; omega) _) _ (by omega) _ _
end Go.Proofs.YtijjiccgpobjmaeGreat

/- orangeryref.done: an operation on right places. -/
namespace Go.Proofs.YtijjiccgpobjmaeGreat
open Go.ChangeShapes Go.WideShapes Go.ChangeAt Go.RowKit
open Orangery (Pl Mv Stp outL inL check checkOp doE doT doS ring orI underB find noStep noOp chain hasB tabAt rows scan)

set_option maxHeartbeats 2000000 in
set_option maxRecDepth 100000 in
theorem rdone_any (w : World) (a : Option Addr) (c : Nat) (l : List Pl) (o : Mv) (hl : l.length ≤ maxLen) (h : SlP w a l) (hz : doE l o = 0) :
    Calls Tryz.prog 35 #[.slice a l.length c, opV o] w
      fun e w' => ∃ a' c', e = .returned (.tuple #[.slice a' (doT l o).length c', stV (doS l o)]) ∧ ((a' = a ∧ doT l o = l) ∨ OwnS w' w.heap.size (.slice a' (doT l o).length c') (doT l o)) ∧ Below w.heap.size w w' := by
  obtain ⟨o1, o2, ⟨o3, o4, o5⟩, o6, o7⟩ := o
  obtain ⟨hck, hco⟩ := Orangery.doE_zero hz
  have hok := Orangery.checkOp_zero hco
  obtain ⟨hr1, hr2, hr3⟩ := Orangery.opOk_place hok
  have hlen := Orangery.check_len l hck
  have hscan := Orangery.check_scan l hck
  have hup := Orangery.scan_up hscan
  have hrg1 := Orangery.under_eq l o4 o3 hck hr3 hr2
  have hn4 := (Orangery.isNodeB_iff o4).1 hr3
  have hn3 := (Orangery.inRangeB_iff (o3, o4, o5)).1 hr1
  have HZ : Hid (doE l (o1, o2, (o3, o4, o5), o6, o7) = 0) := hz
  have HSC : Hid (scan 0 l = 0) := hscan
  have HUP : Hid (∀ p ∈ l, 0 ≤ p.2.1 ∧ p.2.1 ≤ 16) := hup
  have HR1 : Hid (Orangery.inRangeB (o3, o4, o5) = true) := hr1
  have HRG1 : Hid (ring l (o1, o2, (o3, o4, o5), o6, o7) = hasB o3 (chain l o4)) := hrg1
  clear hz hck hco hok hr1 hr2 hr3 hscan hup hrg1
  go_enter Tryz.func35, Tryz.ntmps35
  go_wp2_with fail
  obtain ⟨W0, hW, hO, hQ, hB, hS⟩ := laid2 w [Value.int IntKind.i64 o1, Value.int IntKind.i64 o2, Value.int IntKind.i64 o3, Value.int IntKind.i64 o4, Value.int IntKind.i64 o5, Value.int IntKind.i64 o6, Value.int IntKind.i64 o7] 32 [Value.int IntKind.i64 0, Value.int IntKind.i64 0, Value.int IntKind.i64 0, Value.int IntKind.i64 0, Value.int IntKind.i64 0, Value.int IntKind.i64 0, Value.int IntKind.i64 0, Value.bool false, Value.int IntKind.i64 0, Value.int IntKind.i64 0, Value.int IntKind.i64 0] 68
  rw [hW]
  clear hW
  have hP := h.below hB
  have HPW : Hid (SlP w a l) := h
  have HS : Hid (W0.heap.size = w.heap.size + 2) := hS
  clear h hS
  have m0 := hO.at 0 rfl
  have m1 := hO.at 1 rfl
  have m2 := hO.at 2 rfl
  have m3 := hO.at 3 rfl
  have m4 := hO.at 4 rfl
  have m5 := hO.at 5 rfl
  have m6 := hO.at 6 rfl
  have n1 := World.new_ne W0 _ m0
  go_upto_region 1 with fail
  go_cut [6] from 6 to 13 (fun r wc => ∃ bs, r = .pointer (some ⟨bs, 0, none⟩) ∧ W0.heap.size ≤ bs ∧ Blk wc bs (stC ((o1, o2, (o3, o4, o5), o6, o7), false, find l o3)) ∧ Below W0.heap.size W0 wc)
  case first =>
    go_region_held3 (fun w' => w'.cell? ⟨w.heap.size, 0, none⟩ = some (.int .i64 o1) ∧ w'.cell? ⟨w.heap.size, 1, none⟩ = some (.int .i64 o2) ∧ w'.cell? ⟨w.heap.size, 2, none⟩ = some (.int .i64 o3) ∧ w'.cell? ⟨w.heap.size, 3, none⟩ = some (.int .i64 o4) ∧ w'.cell? ⟨w.heap.size, 4, none⟩ = some (.int .i64 o5) ∧ w'.cell? ⟨w.heap.size, 5, none⟩ = some (.int .i64 o6) ∧ w'.cell? ⟨w.heap.size, 6, none⟩ = some (.int .i64 o7)) (go_keep)
      (first | (go_at_call 70; refine (findIn_any _ a c l o3 hl ?_).mono ?_; exact hP; rintro e w5 ⟨rfl, hb5⟩; have hb5' : Below W0.heap.size W0 w5 := ((Below.refl _ W0).drew).trans hb5; have hO5 := hO.keep hb5'; have m10 := hO5.at 0 rfl; have m11 := hO5.at 1 rfl; have m12 := hO5.at 2 rfl; have m13 := hO5.at 3 rfl; have m14 := hO5.at 4 rfl; have m15 := hO5.at 5 rfl; have m16 := hO5.at 6 rfl; have y1 := World.new_ne w5 _ m10) | (go_at_call 70; refine (findIn_any _ a c l o3 hl ?_).mono ?_; exact hP.below (((Below.refl _ W0).alloc (Nat.le_refl _) _).drew); rintro e w5 ⟨rfl, hb5⟩; have hb5' : Below W0.heap.size W0 w5 := (((Below.refl _ W0).alloc (Nat.le_refl _) _).drew).trans (hb5.mono (by simp)); have hN5 := ((Blk.new W0 (stC noStep) 68).drew).keep hb5; have z0 := hN5.at 0 rfl; have z1 := hN5.at 1 rfl; have z2 := hN5.at 2 rfl; have z3 := hN5.at 3 rfl; have z4 := hN5.at 4 rfl; have z5 := hN5.at 5 rfl; have z6 := hN5.at 6 rfl; have z7 := hN5.at 7 rfl; have z8 := hN5.at 8 rfl; have z9 := hN5.at 9 rfl; have z10 := hN5.at 10 rfl; have zf := hN5.frz; have hO5 := hO.keep hb5'; have m10 := hO5.at 0 rfl; have m11 := hO5.at 1 rfl; have m12 := hO5.at 2 rfl; have m13 := hO5.at 3 rfl; have m14 := hO5.at 4 rfl; have m15 := hO5.at 5 rfl; have m16 := hO5.at 6 rfl; have y1 := World.new_ne w5 _ m10))
    · go_wp2
      go_meet
      case rel => exact ⟨w5.heap.size, rfl, hb5'.size, Blk.new w5 (stC ((o1, o2, (o3, o4, o5), o6, o7), false, find l o3)) 68, hb5'.alloc hb5'.size _⟩
    · go_wp2
      go_meet
      case rel => exact ⟨W0.heap.size, rfl, Nat.le_refl _, hN5.sets (stC ((o1, o2, (o3, o4, o5), o6, o7), false, find l o3)) rfl, below_sets hb5' W0.heap.size (Nat.le_refl _) (stC ((o1, o2, (o3, o4, o5), o6, o7), false, find l o3)) 0⟩
  case rest =>
    obtain ⟨bs, rfl, hbs, hS5, hb5⟩ := hcut
    have hS := HS.out
    have hO5 := hO.keep hb5
    have hQ5 := hQ.keep hb5
    have hP5 := hP.below hb5
    have HB5 : Hid (Below w.heap.size w wc) := hB.trans (hb5.mono hB.size)
    have hwc : w.heap.size + 1 + 1 ≤ wc.heap.size := by have := hb5.size; omega
    clear hO hQ hP hB hb5 m0 m1 m2 m3 m4 m5 m6 n1 HS
    rw [hS] at hbs
    clear hS
    have m0 := hO5.at 0 rfl
    have m1 := hO5.at 1 rfl
    have m2 := hO5.at 2 rfl
    have m3 := hO5.at 3 rfl
    have m4 := hO5.at 4 rfl
    have m5 := hO5.at 5 rfl
    have m6 := hO5.at 6 rfl
    go_wp2_with fail
    refine (isUnder_any wc a c l o4 o3 hl hP5 HUP.out hn4.1 hn4.2).mono ?_
    rintro e w6 ⟨rfl, hb6⟩
    rw [← HRG1.out]
    have hO6 := hO5.keep hb6
    have hQ6 := hQ5.keep hb6
    have hS6 := hS5.keep hb6
    have hP6 := hP5.below hb6
    have HB6 : Hid (Below w.heap.size w w6) := HB5.out.trans (hb6.mono HB5.out.size)
    have hw6 : w.heap.size + 1 + 1 ≤ w6.heap.size := by have := hb6.size; omega
    clear hO5 hQ5 hP5 hS5 HB5 hb6 hwc m0 m1 m2 m3 m4 m5 m6 HRG1
    have eS : doS l (o1, o2, (o3, o4, o5), o6, o7) = ((o1, o2, (o3, o4, o5), o6, o7), !ring l (o1, o2, (o3, o4, o5), o6, o7), find l o3) := by unfold doS; rw [if_neg (by simp [HZ.out])]
    have eT : doT l (o1, o2, (o3, o4, o5), o6, o7) = if ring l (o1, o2, (o3, o4, o5), o6, o7) = true then l else inL l (o3, o4, o5) := by unfold doT; rw [if_neg (by simp [HZ.out])]
    have HES : Hid (doS l (o1, o2, (o3, o4, o5), o6, o7) = ((o1, o2, (o3, o4, o5), o6, o7), !ring l (o1, o2, (o3, o4, o5), o6, o7), find l o3)) := eS
    have HET : Hid (doT l (o1, o2, (o3, o4, o5), o6, o7) = if ring l (o1, o2, (o3, o4, o5), o6, o7) = true then l else inL l (o3, o4, o5)) := eT
    clear eS eT
    cases hring : ring l (o1, o2, (o3, o4, o5), o6, o7)
    · have HRING : Hid (ring l (o1, o2, (o3, o4, o5), o6, o7) = false) := hring
      clear hring
      obtain ⟨m, rfl⟩ : ∃ m : Nat, o3 = m := ⟨o3.toNat, by omega⟩
      have hm16 : m < 16 := by omega
      have s7 := hS6.at 7 rfl
      have sf := hS6.frz
      have hS7 := hS6.set 7 (by simp [stC]) (.bool true)
      have hO7 := hO6.other (g := bs) (by omega) 7 (.bool true)
      have hQ7 := hQ6.other (g := bs) (by omega) 7 (.bool true)
      have HB7 : Hid (Below w.heap.size w (w6.setCell ⟨bs, 7, none⟩ (.bool true))) := HB6.out.setCell (by show w.heap.size ≤ bs; omega) _
      have hP7 := HPW.out.below HB7.out
      have hbl : bs < w6.heap.size := hS6.lt
      clear hS6 hO6 hQ6 hP6 HB6
      go_wp2_with fail
      have hsz : (w6.setCell ⟨bs, 7, none⟩ (.bool true)).heap.size = w6.heap.size := by simp
      generalize w6.setCell ⟨bs, 7, none⟩ (.bool true) = W7 at *
      rw [← hsz] at hw6 hbl
      clear hsz s7 sf
      refine (table_any W7 a c l (by omega) hP7 HSC.out).mono ?_
      rintro e w8 ⟨rfl, hb8⟩
      have hS8 := hS7.keep hb8
      have hO8 := hO7.keep hb8
      have hQ8 := hQ7.keep hb8
      have HB8 : Hid (Below w.heap.size w w8) := HB7.out.trans (hb8.mono HB7.out.size)
      have hw8 : w.heap.size + 1 + 1 ≤ w8.heap.size := by have := hb8.size; omega
      have hbl8 : bs < w8.heap.size := by have := hb8.size; omega
      clear hS7 hO7 hQ7 hP7 HB7 hb8 hbl hw6
      have hcs : ((tabL fun n => tabAt l n).flatMap encPl).length = 48 := by rw [flat_len, tabL_len]
      have hone := all_oneCell_toArray (flat_one (tabL fun n => tabAt l n))
      unfold tabV
      generalize hcd : (tabL fun n => tabAt l n).flatMap encPl = cs at *
      have HCD : Hid ((tabL fun n => tabAt l n).flatMap encPl = cs) := hcd
      clear hcd
      have hst : (storeCells ⟨w8.heap.size, 0, none⟩ cs 0).run Tryz.prog (w8.alloc (.cells #[Value.int IntKind.i64 0, Value.int IntKind.i64 0, Value.int IntKind.i64 0, Value.int IntKind.i64 0, Value.int IntKind.i64 0, Value.int IntKind.i64 0, Value.int IntKind.i64 0, Value.int IntKind.i64 0, Value.int IntKind.i64 0, Value.int IntKind.i64 0, Value.int IntKind.i64 0, Value.int IntKind.i64 0, Value.int IntKind.i64 0, Value.int IntKind.i64 0, Value.int IntKind.i64 0, Value.int IntKind.i64 0, Value.int IntKind.i64 0, Value.int IntKind.i64 0, Value.int IntKind.i64 0, Value.int IntKind.i64 0, Value.int IntKind.i64 0, Value.int IntKind.i64 0, Value.int IntKind.i64 0, Value.int IntKind.i64 0, Value.int IntKind.i64 0, Value.int IntKind.i64 0, Value.int IntKind.i64 0, Value.int IntKind.i64 0, Value.int IntKind.i64 0, Value.int IntKind.i64 0, Value.int IntKind.i64 0, Value.int IntKind.i64 0, Value.int IntKind.i64 0, Value.int IntKind.i64 0, Value.int IntKind.i64 0, Value.int IntKind.i64 0, Value.int IntKind.i64 0, Value.int IntKind.i64 0, Value.int IntKind.i64 0, Value.int IntKind.i64 0, Value.int IntKind.i64 0, Value.int IntKind.i64 0, Value.int IntKind.i64 0, Value.int IntKind.i64 0, Value.int IntKind.i64 0, Value.int IntKind.i64 0, Value.int IntKind.i64 0, Value.int IntKind.i64 0] 100)) = .ok () (w8.alloc (.cells cs.toArray 100)) := by
        have := run_storeCells_new (P := Tryz.prog) w8 100 #[Value.int IntKind.i64 0, Value.int IntKind.i64 0, Value.int IntKind.i64 0, Value.int IntKind.i64 0, Value.int IntKind.i64 0, Value.int IntKind.i64 0, Value.int IntKind.i64 0, Value.int IntKind.i64 0, Value.int IntKind.i64 0, Value.int IntKind.i64 0, Value.int IntKind.i64 0, Value.int IntKind.i64 0, Value.int IntKind.i64 0, Value.int IntKind.i64 0, Value.int IntKind.i64 0, Value.int IntKind.i64 0, Value.int IntKind.i64 0, Value.int IntKind.i64 0, Value.int IntKind.i64 0, Value.int IntKind.i64 0, Value.int IntKind.i64 0, Value.int IntKind.i64 0, Value.int IntKind.i64 0, Value.int IntKind.i64 0, Value.int IntKind.i64 0, Value.int IntKind.i64 0, Value.int IntKind.i64 0, Value.int IntKind.i64 0, Value.int IntKind.i64 0, Value.int IntKind.i64 0, Value.int IntKind.i64 0, Value.int IntKind.i64 0, Value.int IntKind.i64 0, Value.int IntKind.i64 0, Value.int IntKind.i64 0, Value.int IntKind.i64 0, Value.int IntKind.i64 0, Value.int IntKind.i64 0, Value.int IntKind.i64 0, Value.int IntKind.i64 0, Value.int IntKind.i64 0, Value.int IntKind.i64 0, Value.int IntKind.i64 0, Value.int IntKind.i64 0, Value.int IntKind.i64 0, Value.int IntKind.i64 0, Value.int IntKind.i64 0, Value.int IntKind.i64 0] cs.toArray (by rw [infoTable]; simp [hcs]) (by simp [hcs]) hone
        exact this
      have hT10 := Blk.new w8 cs 100
      have hS10 := hS8.alloc (.cells cs.toArray 100)
      have hO10 := hO8.alloc (.cells cs.toArray 100)
      have hQ10 := hQ8.alloc (.cells cs.toArray 100)
      have HB10 : Hid (Below w.heap.size w (w8.alloc (.cells cs.toArray 100))) := HB8.out.alloc HB8.out.size _
      have hsz10 : (w8.alloc (.cells cs.toArray 100)).heap.size = w8.heap.size + 1 := by simp
      have HFL : Hid (HoldsP (w8.alloc (.cells cs.toArray 100)) w8.heap.size (tabL fun n => tabAt l n)) := by
        show HoldsP _ _ _
        rw [← HCD.out] at hT10 ⊢
        exact hT10.holds
      clear hS8 hO8 hQ8 HB8 hone
      go_upto_region 6 with fail
      generalize w8.alloc (.cells cs.toArray 100) = W10 at *
      have k2 := hO10.at 2 rfl
      have k3 := hO10.at 3 rfl
      have k4 := hO10.at 4 rfl
      have hH := HFL.out
      have hc := hH.1 m (by rw [tabL_len]; exact hm16)
      simp only [Nat.zero_add] at hc
      obtain ⟨x0, x1, x2⟩ := hc
      have hfz := hT10.frz
      have hH11 := hH.set m (by rw [tabL_len]; exact hm16) ((m : Int), o4, o5)
      rw [tabL_set _ (fun n => if (n : Int) = (m : Int) then ((m : Int), o4, o5) else tabAt l n) m _ (by simp) (by intro n hn; rw [if_neg (by omega)])] at hH11
      have hT11 : Blk (((W10.setCell ⟨w8.heap.size, m * 3, none⟩ (.int .i64 (m : Int))).setCell ⟨w8.heap.size, m * 3 + 1, none⟩ (.int .i64 o4)).setCell ⟨w8.heap.size, m * 3 + 2, none⟩ (.int .i64 o5)) w8.heap.size ((tabL fun n => if (n : Int) = (m : Int) then ((m : Int), o4, o5) else tabAt l n).flatMap encPl) :=
        ⟨by simp; omega, fun j => by simp only [World.frozen?_setCell]; exact hfz j, fun i v hv => by have := hH11.range i v hv; rw [Nat.zero_add] at this; exact this⟩
      have hS11 := ((hS10.other (g := w8.heap.size) (by omega) (m * 3) (.int .i64 (m : Int))).other (g := w8.heap.size) (by omega) (m * 3 + 1) (.int .i64 o4)).other (g := w8.heap.size) (by omega) (m * 3 + 2) (.int .i64 o5)
      have hQ11 := ((hQ10.other (g := w8.heap.size) (by omega) (m * 3) (.int .i64 (m : Int))).other (g := w8.heap.size) (by omega) (m * 3 + 1) (.int .i64 o4)).other (g := w8.heap.size) (by omega) (m * 3 + 2) (.int .i64 o5)
      have HB11 : Hid (Below w.heap.size w (((W10.setCell ⟨w8.heap.size, m * 3, none⟩ (.int .i64 (m : Int))).setCell ⟨w8.heap.size, m * 3 + 1, none⟩ (.int .i64 o4)).setCell ⟨w8.heap.size, m * 3 + 2, none⟩ (.int .i64 o5))) := ((HB10.out.setCell (by show _ ≤ w8.heap.size; omega) _).setCell (by show _ ≤ w8.heap.size; omega) _).setCell (by show _ ≤ w8.heap.size; omega) _
      have hsz11 : (((W10.setCell ⟨w8.heap.size, m * 3, none⟩ (.int .i64 (m : Int))).setCell ⟨w8.heap.size, m * 3 + 1, none⟩ (.int .i64 o4)).setCell ⟨w8.heap.size, m * 3 + 2, none⟩ (.int .i64 o5)).heap.size = W10.heap.size := by simp
      have HX11 : Hid (Blk (((W10.setCell ⟨w8.heap.size, m * 3, none⟩ (.int .i64 (m : Int))).setCell ⟨w8.heap.size, m * 3 + 1, none⟩ (.int .i64 o4)).setCell ⟨w8.heap.size, m * 3 + 2, none⟩ (.int .i64 o5)) w8.heap.size ((tabL fun n => if (n : Int) = (m : Int) then ((m : Int), o4, o5) else tabAt l n).flatMap encPl)) := hT11
      have HX12 : Hid (Blk (((W10.setCell ⟨w8.heap.size, m * 3, none⟩ (.int .i64 (m : Int))).setCell ⟨w8.heap.size, m * 3 + 1, none⟩ (.int .i64 o4)).setCell ⟨w8.heap.size, m * 3 + 2, none⟩ (.int .i64 o5)) bs (stC ((o1, o2, ((m : Int), o4, o5), o6, o7), true, find l (m : Int)))) := hS11
      have HX13 : Hid (Blk (((W10.setCell ⟨w8.heap.size, m * 3, none⟩ (.int .i64 (m : Int))).setCell ⟨w8.heap.size, m * 3 + 1, none⟩ (.int .i64 o4)).setCell ⟨w8.heap.size, m * 3 + 2, none⟩ (.int .i64 o5)) (w.heap.size + 1) [Value.int IntKind.i64 0, Value.int IntKind.i64 0, Value.int IntKind.i64 0, Value.int IntKind.i64 0, Value.int IntKind.i64 0, Value.int IntKind.i64 0, Value.int IntKind.i64 0, Value.bool false, Value.int IntKind.i64 0, Value.int IntKind.i64 0, Value.int IntKind.i64 0]) := hQ11
      clear hH hH11 hT11 hS11 hQ11 hS10 hO10 hQ10 HB10 hT10 hst
      go_upto_region 7 with fail
      generalize ((W10.setCell ⟨w8.heap.size, m * 3, none⟩ (.int .i64 (m : Int))).setCell ⟨w8.heap.size, m * 3 + 1, none⟩ (.int .i64 o4)).setCell ⟨w8.heap.size, m * 3 + 2, none⟩ (.int .i64 o5) = W11 at *
      have hW11 : w8.heap.size + 1 = W11.heap.size := by omega
      clear hsz11 hsz10 k2 k3 k4 x0 x1 x2 hfz HFL HCD hcs
      have HIT : Hid ((Tryz.prog.info? 100).map (·.size) = some ((tabL fun n => if (n : Int) = (m : Int) then ((m : Int), o4, o5) else tabAt l n).flatMap encPl).length) := by show _ = _; rw [infoTable, flat_len, tabL_len]
      refine wp_region_held_drew (S := fun w' => Blk w' w8.heap.size ((tabL fun n => if (n : Int) = (m : Int) then ((m : Int), o4, o5) else tabAt l n).flatMap encPl) ∧ Blk w' bs (stC ((o1, o2, ((m : Int), o4, o5), o6, o7), true, find l (m : Int)))) (by kernel_rfl) ⟨HX11.out.drew, HX12.out.drew⟩ (fun hHeld => ?_)
      refine take_load 0 35 100 w8.heap.size ((tabL fun n => if (n : Int) = (m : Int) then ((m : Int), o4, o5) else tabAt l n).flatMap encPl) rfl rfl (by kernel_rfl) (by kernel_rfl) (by kernel_rfl) (fun _ _ _ h => h) (by rfl) (by rfl) (by rfl) (fun w hw => hw.1.range) Tryz.underlying100 rfl HIT.out hHeld ?_
      simp only [Act.put, List.setIfInBounds_toArray, List.set_cons_succ, List.set_cons_zero]
      refine take_load 2 37 68 bs (stC ((o1, o2, ((m : Int), o4, o5), o6, o7), true, find l (m : Int))) rfl rfl (by kernel_rfl) (by kernel_rfl) (by kernel_rfl) (fun _ _ _ h => h) (by rfl) (by rfl) (by rfl) (fun w hw => hw.2.range) Tryz.underlying68 rfl sizeStep hHeld ?_
      simp only [Act.put, List.setIfInBounds_toArray, List.set_cons_succ, List.set_cons_zero]
      refine wpAnyH_ready (rs := [1]) (by kernel_rfl) (by simp) ?_
      refine AllReadyH.cons rfl (fun K hK => ?_) AllReadyH.nil
      go_simp
      refine (places_any _ (fun n => if (n : Int) = (m : Int) then ((m : Int), o4, o5) else tabAt l n)).mono ?_
      rintro e w12 ⟨v12, rfl, hO12, hb12⟩
      have hrw := Orangery.rows_set l ((m : Int), o4, o5) HSC.out HR1.out
      have hO13 : OwnS w12 (w.heap.size + 1 + 1) v12 (inL l ((m : Int), o4, o5)) := by
        rw [← hrw]
        exact hO12.mono (by show _ ≤ W11.heap.size; omega)
      obtain ⟨a12, c12, rfl⟩ := hO13.val
      have hb12' : Below W11.heap.size W11 w12 := ((Below.refl _ W11).drew).trans hb12
      have hQ12 := HX13.out.keep hb12'
      have hS12 := HX12.out.keep hb12'
      have hT12 := HX11.out.keep hb12'
      go_wp2_with fail
      refine hK.out _ _ ⟨hT12, hS12⟩ (fun hHeld => ?_)
      clear hK K
      refine take_yes 3 4 (v := ?_) rfl rfl (by kernel_rfl) (by kernel_rfl) (by kernel_rfl) (fun _ _ _ h => h) (by rfl) ?_ hHeld ?_
      rotate_left 1
      · (intro w hSw; go_simp; try with_reducible rfl)
      simp only [Act.put, List.setIfInBounds_toArray, List.set_cons_succ, List.set_cons_zero]
      refine step_store 4 68 (w.heap.size + 1) (stC ((o1, o2, ((m : Int), o4, o5), o6, o7), true, find l (m : Int))) (by kernel_rfl) rfl rfl (by rfl) (by rfl) (by rfl) (by rfl) hQ12.there sizeStep (stC_one _) ⟨hT12.others (by omega) _ _, hS12.others (by omega) _ _⟩ ?_
      refine wpAnyH_done (by kernel_rfl) ?_ _
      go_wp2
      refine ret_tmp_cell Tryz.results35 rfl rfl ((hQ12.sets (stC ((o1, o2, ((m : Int), o4, o5), o6, o7), true, find l (m : Int))) rfl).load Tryz.underlying68 rfl sizeStep) ?_
      refine ⟨a12, c12, ?_, ?_, ?_⟩
      · rw [HES.out, HET.out, HRING.out]; rfl
      · rw [HET.out, HRING.out]
        exact Or.inr ((OwnS.others (w.heap.size + 1) (by omega) (stC ((o1, o2, ((m : Int), o4, o5), o6, o7), true, find l (m : Int))) 0 _ hO13).mono (by omega))
      · exact below_sets (HB11.out.trans (hb12'.mono HB11.out.size)) (w.heap.size + 1) (by omega) (stC ((o1, o2, ((m : Int), o4, o5), o6, o7), true, find l (m : Int))) 0
    · have HRING : Hid (ring l (o1, o2, (o3, o4, o5), o6, o7) = true) := hring
      clear hring
      have hth : w6.there (w.heap.size + 1) 0 11 := hQ6.there
      have hne : bs ≠ w.heap.size + 1 := by omega
      go_upto_region 3 with fail
      refine wp_region_held_drew (S := fun w' => Blk w' bs (stC ((o1, o2, (o3, o4, o5), o6, o7), false, find l o3))) (by kernel_rfl) hS6.drew (fun hHeld => ?_)
      refine take_load 1 21 68 bs (stC ((o1, o2, (o3, o4, o5), o6, o7), false, find l o3)) rfl rfl (by kernel_rfl) (by kernel_rfl) (by kernel_rfl) (fun _ _ _ h => h) (by rfl) (by rfl) (by rfl) (fun w hw => hw.range) Tryz.underlying68 rfl sizeStep hHeld ?_
      simp only [Act.put, List.setIfInBounds_toArray, List.set_cons_succ, List.set_cons_zero]
      refine take_yes 0 20 (v := ?_) rfl rfl (by kernel_rfl) (by kernel_rfl) (by kernel_rfl) (fun _ _ _ h => h) (by rfl) ?_ hHeld ?_
      rotate_left 1
      · (intro w hSw; go_simp; try with_reducible rfl)
      simp only [Act.put, List.setIfInBounds_toArray, List.set_cons_succ, List.set_cons_zero]
      refine take_yes 2 4 (v := ?_) rfl rfl (by kernel_rfl) (by kernel_rfl) (by kernel_rfl) (fun _ _ _ h => h) (by rfl) ?_ hHeld ?_
      rotate_left 1
      · (intro w hSw; go_simp; try with_reducible rfl)
      simp only [Act.put, List.setIfInBounds_toArray, List.set_cons_succ, List.set_cons_zero]
      refine step_store 3 68 (w.heap.size + 1) (stC ((o1, o2, (o3, o4, o5), o6, o7), false, find l o3)) (by kernel_rfl) rfl rfl (by rfl) (by rfl) (by rfl) (by rfl) hth sizeStep (stC_one _) (hS6.drew.others hne _ _) ?_
      refine wpAnyH_done (by kernel_rfl) ?_ _
      go_wp2
      refine ret_tmp_cell Tryz.results35 rfl rfl ((hQ6.drew.sets (stC ((o1, o2, (o3, o4, o5), o6, o7), false, find l o3)) rfl).load Tryz.underlying68 rfl sizeStep) ?_
      refine ⟨a, c, ?_, ?_, ?_⟩
      · rw [HES.out, HET.out, HRING.out]; rfl
      · rw [HET.out, HRING.out]
        exact Or.inl ⟨rfl, rfl⟩
      · exact below_sets HB6.out.drew (w.heap.size + 1) (by omega) (stC ((o1, o2, (o3, o4, o5), o6, o7), false, find l o3)) 0
end Go.Proofs.YtijjiccgpobjmaeGreat

/- orangeryref.ShownBy. -/
namespace Go.Proofs.YtijjiccgpobjmaeGreat
open Go.ChangeShapes Go.WideShapes Go.ChangeAt Go.RowKit
open Orangery (Pl Mv Vw Cl clE viewME viewE check scan togL doT doE shown showT checkOp)

theorem view_scans {R : List Int} {K V : List Pl} (h : viewE R K V = 0) : scan 0 K = 0 ∧ scan 0 V = 0 := by
  unfold viewE at h
  split at h
  · rename_i h1; exact absurd h h1
  split at h
  · rename_i h1; exact absurd h h1
  rename_i h1
  split at h
  · rename_i h2; exact absurd h h2
  rename_i h2
  exact ⟨Orangery.check_scan K (by simpa using h1), Orangery.check_scan V (by simpa using h2)⟩
theorem sizeTree1 : (Tryz.prog.info? 37).map (·.size) = some 1 := by kernel_rfl
theorem shows_take {T : List Pl} {P : List Mv} (h : check T = 0) (ho : ∀ o ∈ P, checkOp o = 0) (k : Nat) (hk : k < P.length) :
    check ((P.take k).foldl doT T) = 0 ∧ doE ((P.take k).foldl doT T) P[k] = 0 ∧ (P.take (k + 1)).foldl doT T = doT ((P.take k).foldl doT T) P[k] := by
  have h1 := Orangery.does_check (l := P.take k) h (fun o hp => ho o (List.mem_of_mem_take hp))
  refine ⟨h1, ?_, ?_⟩
  · unfold doE Orangery.orI
    rw [if_neg (by simp [h1])]
    exact ho _ (List.getElem_mem hk)
  · rw [List.take_succ_eq_append_getElem hk, List.foldl_append]
    rfl

set_option maxHeartbeats 8000000 in
set_option maxRecDepth 100000 in
theorem rshown_any (w : World) (x : Cm) (me : Int) (hx : ClIn w x) :
    Calls Tryz.prog 11 #[x.val, .int .i64 me] w fun e w' => ∃ a c, e = .returned (.tuple #[.agg #[.slice a (showT x.1 me).length c], .int .i64 (clE x.1 me)]) ∧ SlP w' a (showT x.1 me) ∧ Below w.heap.size w w' := by
  obtain ⟨⟨⟨f, t, s, v⟩, P, R, K, V⟩, ⟨aP, cP⟩, ⟨aR, cR⟩, ⟨aK, cK⟩, ⟨aV, cV⟩⟩ := x
  obtain ⟨E, hE⟩ : ∃ E, E = clE ((f, t, s, v), P, R, K, V) me := ⟨_, rfl⟩
  obtain ⟨S, hS⟩ : ∃ S, S = showT ((f, t, s, v), P, R, K, V) me := ⟨_, rfl⟩
  show Calls Tryz.prog _ #[.agg #[Value.int .i64 f, .int .i64 t, .int .i64 s, .slice aP P.length cP, .int .i64 v, .slice aR R.length cR, .slice aK K.length cK, .slice aV V.length cV], .int .i64 me] w fun e w' => ∃ a c, e = .returned (.tuple #[.agg #[.slice a (showT ((f, t, s, v), P, R, K, V) me).length c], .int .i64 (clE ((f, t, s, v), P, R, K, V) me)]) ∧ SlP w' a (showT ((f, t, s, v), P, R, K, V) me) ∧ _
  rw [← hE, ← hS]
  have HE := Lib.hid hE
  have HS := Lib.hid hS
  obtain ⟨W0, hW, hN, hR, hB, -⟩ := laid2 w [Value.int .i64 f, .int .i64 t, .int .i64 s, .slice aP P.length cP, .int .i64 v, .slice aR R.length cR, .slice aK K.length cK, .slice aV V.length cV] 28 [Value.slice none 0 0] 37
  have HB := Lib.hid hB
  have HX := Lib.hid (hx.keep hB)
  have HN := Lib.hid hN
  have HR := Lib.hid hR
  clear hB hE hS hx hR
  have x0 := hN.at 0 rfl
  have x1 := hN.at 1 rfl
  have x2 := hN.at 2 rfl
  have x3 := hN.at 3 rfl
  have x4 := hN.at 4 rfl
  have x5 := hN.at 5 rfl
  have x6 := hN.at 6 rfl
  have x7 := hN.at 7 rfl
  clear hN
  go_enter Tryz.func11, Tryz.ntmps11
  go_wp2_with fail
  clear hW x0 x1 x2 x3 x4 x5 x6 x7
  refine (rcheckClient_any W0 (((f, t, s, v), P, R, K, V), (aP, cP), (aR, cR), (aK, cK), (aV, cV)) me HX.out).mono ?_
  rintro e w1 ⟨rfl, hb⟩
  rw [← HE.out]
  have HB1 := Lib.hid (HB.out.trans (hb.mono HB.out.size))
  have HX1 := Lib.hid (HX.out.keep hb)
  have HN1 := Lib.hid (HN.out.keep hb)
  have HR1 := Lib.hid (HR.out.keep hb)
  clear hb HB HX HN HR
  by_cases h0 : E = 0
  case neg =>
    have h0' : (E != 0) = true := by simpa using h0
    have HSE : Hid (S = []) := by show _ = _; rw [HS.out]; unfold showT; rw [if_pos (by rw [← HE.out]; exact h0)]
    have HR2 := Lib.hid (HR1.out.sets [Value.slice none 0 0] rfl)
    have HB2 := Lib.hid (below_sets HB1.out (w.heap.size + 1) (by omega) [Value.slice none 0 0] 0)
    have y0 := HR1.out.at 0 rfl
    have yf := HR1.out.frz
    clear h0 HE HS HX1 HN1
    go_wp2
    refine ret_cell_tmp Tryz.results11 rfl rfl (HR2.out.load Tryz.underlying37 rfl sizeTree1) ?_
    refine ⟨none, 0, ?_, ?_, HB2.out⟩
    · rw [HSE.out]; rfl
    · rw [HSE.out]; exact Or.inl rfl
  have HZ := Lib.hid h0
  have hz : clE ((f, t, s, v), P, R, K, V) me = 0 := by rw [← HE.out]; exact h0
  have hcl := Orangery.clE_zero hz
  have HV : Hid (viewE R K V = 0) := hcl.2.2.2.1
  have HT : Hid (check (togL K V) = 0) := Orangery.view_tog (v := (R, K, V)) HV.out
  have HO : Hid (∀ o ∈ P, checkOp o = 0) := fun o ho => (Orangery.pend_ops hcl.2.2.2.2.2 o ho).1
  have HSE : Hid (S = P.foldl doT (togL K V)) := by show _ = _; rw [HS.out]; unfold showT; rw [if_neg (by rw [hz]; simp)]; rfl
  have q8 : P.length ≤ 8 := hcl.2.2.1
  rw [h0]
  clear h0 hz hcl HE HS
  have x5 := HN1.out.at 5 rfl
  have x6 := HN1.out.at 6 rfl
  have x7 := HN1.out.at 7 rfl
  have hft := run_field_tree
  go_wp2_with fail
  clear x5 x6 x7
  refine (rallof_any w1 aK aV cK cV K V (.slice aR R.length cR) (view_scans HV.out).1 (view_scans HV.out).2 HX1.out.nils.1 HX1.out.nils.2 HX1.out.lk HX1.out.lv).mono ?_
  rintro e w2 ⟨vT, rfl, hO, hb⟩
  have hN2 := HN1.out.keep hb
  have HR2 := Lib.hid (HR1.out.keep hb)
  have HB2 := Lib.hid (HB1.out.trans (hb.mono HB1.out.size))
  have HX2 := Lib.hid (HX1.out.keep hb)
  have hlo : w.heap.size + 1 < w1.heap.size := HR1.out.lt
  have hO2 := hO.mono (base' := w.heap.size + 2) (by omega)
  obtain ⟨a2, c2, rfl⟩ := hO2.val
  have HO2 := Lib.hid (And.intro hO2.whole.1 hO2.whole.2.2)
  have x3 := hN2.at 3 rfl
  clear hb HB1 HX1 HN1 HR1 hO hlo hO2
  rename World => W2
  go_wp2
  clear x3 hft
  go_loopw [7, 24] (fun vv i W => ∃ (k : Nat) (a : Option Addr) (c : Nat), k ≤ P.length ∧ i = .int .i64 k ∧ vv = .slice a ((P.take k).foldl doT (togL K V)).length c ∧ (SlP W a ((P.take k).foldl doT (togL K V)) ∧ Fresh (w.heap.size + 2) a) ∧ Below W2.heap.size W2 W) (fun _ i _ => P.length - (intOf i).toNat)
  case atStart => exact ⟨0, a2, c2, Nat.zero_le _, rfl, rfl, HO2.out, Below.refl _ _⟩
  case round =>
    obtain ⟨k, a3, c3, hk, rfl, rfl, hO3, hb⟩ := hrel
    have HBW := Lib.hid hb
    by_cases hlt : k < P.length
    case neg =>
      have hk' : k = P.length := by omega
      subst hk'
      rw [List.take_length, ← HSE.out] at hO3 ⊢
      have hR3 := HR2.out.keep hb
      have HRf := Lib.hid (hR3.sets [Value.slice a3 S.length c3] rfl)
      have y0 := hR3.at 0 rfl
      have yf := hR3.frz
      have HO3 := Lib.hid hO3
      have HB3 := Lib.hid (HB2.out.trans (hb.mono HB2.out.size))
      clear hb hR3 hO3 HSE HT HO HO2
      go_wp2
      refine ret_cell_tmp Tryz.results11 rfl rfl (HRf.out.load Tryz.underlying37 rfl sizeTree1) ?_
      refine ⟨a3, c3, by rw [HZ.out]; rfl, ?_, below_sets HB3.out (w.heap.size + 1) (by omega) [Value.slice a3 S.length c3] 0⟩
      exact HO3.out.1.other _ (fun b off e => by have := HO3.out.2 b off e; omega) _ _
    obtain ⟨b, off, rfl, hbl, hr⟩ := (HX2.out.keep hb).lp.at opC_len k hlt
    obtain ⟨g0, g1, g2, g3, g4, g5, g6⟩ := op_cells hr
    obtain ⟨s1, s2, s3⟩ := shows_take HT.out HO.out k hlt
    have HNX := Lib.hid s3
    have HDE := Lib.hid s2
    have HTL := Lib.hid (Orangery.check_len _ s1)
    have HLT := Lib.hid hlt
    clear hr s1 s2 s3
    have hlt' : (k : Int) < (P.length : Int) := by omega
    generalize P[k] = o at *
    generalize (P.take k).foldl doT (togL K V) = Tk at *
    obtain ⟨o1, o2, ⟨o3, o4, o5⟩, o6, o7⟩ := o
    simp only at g0 g1 g2 g3 g4 g5 g6
    obtain ⟨W3, hW3, hN3, hBn, -⟩ := laid1 wr [Value.int IntKind.i64 o1, Value.int IntKind.i64 o2, Value.int IntKind.i64 o3, Value.int IntKind.i64 o4, Value.int IntKind.i64 o5, Value.int IntKind.i64 o6, Value.int IntKind.i64 o7] 32
    have n0 := hN3.at 0 rfl
    have n1 := hN3.at 1 rfl
    have n2 := hN3.at 2 rfl
    have n3 := hN3.at 3 rfl
    have n4 := hN3.at 4 rfl
    have n5 := hN3.at 5 rfl
    have n6 := hN3.at 6 rfl
    have HO4 := Lib.hid (And.intro (hO3.1.below hBn) hO3.2)
    have HBW3 := Lib.hid (HBW.out.trans (hBn.mono HBW.out.size))
    have HLO : Hid (w.heap.size + 2 ≤ W3.heap.size) := by show _ ≤ _; have := HR2.out.lt; have := HBW3.out.size; omega
    clear hb hBn hN3 hO3 HBW
    go_wp2_with fail
    refine (rdone_any W3 a3 c3 Tk (o1, o2, (o3, o4, o5), o6, o7) (by have := HTL.out; unfold maxLen; omega) HO4.out.1 HDE.out).mono ?_
    rintro e w4 ⟨a4, c4, rfl, hd, hb4⟩
    have HBW4 := Lib.hid (HBW3.out.trans (hb4.mono HBW3.out.size))
    have HO5 : Hid (SlP w4 a4 (doT Tk (o1, o2, (o3, o4, o5), o6, o7)) ∧ Fresh (w.heap.size + 2) a4) := by
      rcases hd with ⟨rfl, he⟩ | hd
      · rw [he]
        exact ⟨HO4.out.1.below hb4, HO4.out.2⟩
      · have h5 := (hd.mono HLO.out).whole
        exact ⟨h5.1, h5.2.2⟩
    clear hd hb4 HO4 HBW3 hW3 n0 n1 n2 n3 n4 n5 n6 g0 g1 g2 g3 g4 g5 g6
    go_wp2
    go_roundw
    case rel => exact ⟨k + 1, a4, c4, HLT.out, by go_num, by rw [HNX.out], by rw [HNX.out]; exact HO5.out, HBW4.out⟩
    case measure => have := HLT.out; simp [intOf]; omega
end Go.Proofs.YtijjiccgpobjmaeGreat

