/- move.Undo. -/
import Derived.Test.YtmbglohfbdaijaaWith
import Derived.Test.YtmbglohfbdaijaaOrE
import Derived.Test.YtmbglohfbdaijaaUnder
import Derived.Test.YtmbglohfbdaijaaEqual
import Derived.Test.YtmbglohfbdaijaaRet
import Derived.Test.YtmbglohfbdaijaaTakes
import Derived.Deep.DeepCutAuto
namespace Go.Proofs.Ytmbglohfbdaijaa
open Go.ChangeShapes Go.WideShapes Go.ChangeAt Go.RowKit
open Orangery (Pl Mv Stp outL inL check checkOp doE doT doS ring orI underB underE find noStep noOp undoE undoT badB goneB)

theorem in_len (l : List Pl) (p : Pl) : (inL l p).length ≤ l.length + 1 := by
  have h := (Orangery.out_perm l p).length_eq
  have h2 : (outL l p.1).length ≤ l.length := List.length_filter_le _ _
  rw [List.length_append, List.length_singleton] at h
  omega

theorem bad_eq (l : List Pl) (s : Stp) (h : (s.2.2.1 != 0 && s.2.2.1 != s.1.2.2.1.1) = false) :
    badB l s = !eqPl ((find l s.1.2.2.1.1).1, (find l s.1.2.2.1.1).2.1, (find l s.1.2.2.1.1).2.2) (s.1.2.2.1.1, s.1.2.2.1.2.1, s.1.2.2.1.2.2) := by
  obtain ⟨⟨o1, o2, ⟨o3, o4, o5⟩, o6, o7⟩, d, p1, p2, p3⟩ := s
  unfold badB eqPl
  rw [h]
  simp only
  generalize find l o3 = f
  obtain ⟨f1, f2, f3⟩ := f
  simp

set_option maxHeartbeats 2000000 in
set_option maxRecDepth 100000 in
theorem undo_any (w : World) (a : Option Addr) (c : Nat) (l : List Pl) (s : Stp) (hl : l.length ≤ maxLen) (h : SlP w a l) :
    Calls Try.prog 22 #[.agg #[.slice a l.length c], stV s] w
      fun e w' => ∃ v, e = .returned (.tuple #[.agg #[v], .int .i64 (undoE l s)]) ∧ OwnS w' w.heap.size v (undoT l s) ∧ Below w.heap.size w w' := by
  obtain ⟨⟨o1, o2, ⟨o3, o4, o5⟩, o6, o7⟩, did, ⟨p1, p2, p3⟩⟩ := s
  go_enter Try.func22, Try.ntmps22
  go_wp2_with fail
  obtain ⟨W0, hW, hT, hO, hR, hB, hS⟩ := laid3 w [Value.slice a l.length c] 29 [Value.int IntKind.i64 o1, Value.int IntKind.i64 o2, Value.int IntKind.i64 o3, Value.int IntKind.i64 o4, Value.int IntKind.i64 o5, Value.int IntKind.i64 o6, Value.int IntKind.i64 o7, Value.bool did, Value.int IntKind.i64 p1, Value.int IntKind.i64 p2, Value.int IntKind.i64 p3] 51 [Value.slice none 0 0] 29
  rw [hW]
  clear hW
  have hP := h.below hB
  clear h
  have t0 := hT.at 0 rfl
  have m0 := hO.at 0 rfl
  have m1 := hO.at 1 rfl
  have m2 := hO.at 2 rfl
  have m3 := hO.at 3 rfl
  have m4 := hO.at 4 rfl
  have m5 := hO.at 5 rfl
  have m6 := hO.at 6 rfl
  go_region_held3 (fun w' => w'.cell? ⟨w.heap.size, 0, none⟩ = some (.slice a l.length c) ∧ w'.cell? ⟨w.heap.size + 1, 0, none⟩ = some (.int .i64 o1) ∧ w'.cell? ⟨w.heap.size + 1, 1, none⟩ = some (.int .i64 o2) ∧ w'.cell? ⟨w.heap.size + 1, 2, none⟩ = some (.int .i64 o3) ∧ w'.cell? ⟨w.heap.size + 1, 3, none⟩ = some (.int .i64 o4) ∧ w'.cell? ⟨w.heap.size + 1, 4, none⟩ = some (.int .i64 o5) ∧ w'.cell? ⟨w.heap.size + 1, 5, none⟩ = some (.int .i64 o6) ∧ w'.cell? ⟨w.heap.size + 1, 6, none⟩ = some (.int .i64 o7)) (go_keep)
    (first | (go_at_call 13; refine (check_any _ a c l hl ?_).mono ?_; exact hP; rintro e w1 ⟨rfl, hb1⟩; have hb1' : Below W0.heap.size W0 w1 := ((Below.refl _ W0).drew).trans hb1; have t1 := (hT.keep hb1').at 0 rfl; have hO1 := hO.keep hb1'; have m1_0 := hO1.at 0 rfl; have m1_1 := hO1.at 1 rfl; have m1_2 := hO1.at 2 rfl; have m1_3 := hO1.at 3 rfl; have m1_4 := hO1.at 4 rfl; have m1_5 := hO1.at 5 rfl; have m1_6 := hO1.at 6 rfl) | (go_at_call 26; refine (moveCheck_any _ (o1, o2, (o3, o4, o5), o6, o7)).mono ?_; rintro e w2 ⟨rfl, hb2⟩; have hb2' := hb1'.trans (hb2.mono hb1'.size); have t2 := (hT.keep hb2').at 0 rfl; have hO2 := hO.keep hb2'; have m2_0 := hO2.at 0 rfl; have m2_1 := hO2.at 1 rfl; have m2_2 := hO2.at 2 rfl; have m2_3 := hO2.at 3 rfl; have m2_4 := hO2.at 4 rfl; have m2_5 := hO2.at 5 rfl; have m2_6 := hO2.at 6 rfl) | (go_at_call 44; refine (orE_any _ _ _ (check l) (checkOp (o1, o2, (o3, o4, o5), o6, o7)) ?_ ?_).mono ?_; simp; simp; rintro e w3 ⟨rfl, rfl⟩))
  have HE : Hid (doE l (o1, o2, (o3, o4, o5), o6, o7) = orI (check l) (checkOp (o1, o2, (o3, o4, o5), o6, o7))) := rfl
  have hT3 := (hT.keep hb2').alloc (Obj.cells #[Value.int IntKind.i64 (check l), Value.int IntKind.i64 (checkOp (o1, o2, (o3, o4, o5), o6, o7))] 22)
  have hO3 := hO2.alloc (Obj.cells #[Value.int IntKind.i64 (check l), Value.int IntKind.i64 (checkOp (o1, o2, (o3, o4, o5), o6, o7))] 22)
  have hR3 := (hR.keep hb2').alloc (Obj.cells #[Value.int IntKind.i64 (check l), Value.int IntKind.i64 (checkOp (o1, o2, (o3, o4, o5), o6, o7))] 22)
  have hb3 : Below W0.heap.size W0 (w2.alloc (Obj.cells #[Value.int IntKind.i64 (check l), Value.int IntKind.i64 (checkOp (o1, o2, (o3, o4, o5), o6, o7))] 22)) := hb2'.alloc hb2'.size _
  have hP3 := hP.below hb3
  have HB3 : Hid (Below w.heap.size w (w2.alloc (Obj.cells #[Value.int IntKind.i64 (check l), Value.int IntKind.i64 (checkOp (o1, o2, (o3, o4, o5), o6, o7))] 22))) := hB.trans (hb3.mono hB.size)
  generalize w2.alloc (Obj.cells #[Value.int IntKind.i64 (check l), Value.int IntKind.i64 (checkOp (o1, o2, (o3, o4, o5), o6, o7))] 22) = W3 at *
  have hW3 : w.heap.size + 3 ≤ W3.heap.size := by have := hb3.size; omega
  clear hT hO hR hB hP t0 m0 m1 m2 m3 m4 m5 m6 t1 m1_0 m1_1 m1_2 m1_3 m1_4 m1_5 m1_6 t2 m2_0 m2_1 m2_2 m2_3 m2_4 m2_5 m2_6 hb1 hb1' hb2 hb2' hO1 hO2 hb3
  by_cases hz : orI (check l) (checkOp (o1, o2, (o3, o4, o5), o6, o7)) = 0
  · obtain ⟨hck, hco⟩ := Orangery.doE_zero (l := l) (o := (o1, o2, (o3, o4, o5), o6, o7)) hz
    have hlen := Orangery.check_len l hck
    have hby := ((Orangery.check_iff l).1 hck).2.1
    have HZ : Hid (doE l (o1, o2, (o3, o4, o5), o6, o7) = 0) := by show _ = _; rw [HE.out]; exact hz
    have HCK : Hid (check l = 0) := hck
    rw [hz]
    clear hz hck hco HE
    have t0 := hT3.at 0 rfl
    have m0 := hO3.at 0 rfl
    have m1 := hO3.at 1 rfl
    have m2 := hO3.at 2 rfl
    have m3 := hO3.at 3 rfl
    have m4 := hO3.at 4 rfl
    have m5 := hO3.at 5 rfl
    have m6 := hO3.at 6 rfl
    have m7 := hO3.at 7 rfl
    have m8 := hO3.at 8 rfl
    have m9 := hO3.at 9 rfl
    have m10 := hO3.at 10 rfl
    have r0 := hR3.at 0 rfl
    have rf := hR3.frz
    cases did
    · have HU : Hid (undoE l ((o1, o2, (o3, o4, o5), o6, o7), false, (p1, p2, p3)) = 0 ∧ undoT l ((o1, o2, (o3, o4, o5), o6, o7), false, (p1, p2, p3)) = l) := by
        have e0 : undoE l ((o1, o2, (o3, o4, o5), o6, o7), false, (p1, p2, p3)) = 0 := by unfold undoE; rw [if_neg (by simp [HZ.out]), if_pos rfl]
        exact ⟨e0, by unfold undoT; rw [if_neg (by simp [e0]), if_pos rfl]⟩
      clear r0 rf
      go_wp2_with fail
      refine (clone_any W3 a c l (by omega) hP3).mono ?_
      rintro e w4 ⟨v4, rfl, hO4, hb4⟩
      obtain ⟨a4, c4, rfl⟩ := hO4.val
      have hR4 := hR3.keep hb4
      have r0 := hR4.at 0 rfl
      have rf := hR4.frz
      have HO4 : Hid (OwnS w4 (w.heap.size + 3) (.slice a4 l.length c4) l) := hO4.mono hW3
      have HB4 : Hid (Below w.heap.size w w4) := HB3.out.trans (hb4.mono HB3.out.size)
      have HR4 : Hid (Blk w4 (w.heap.size + 1 + 1) [Value.slice none 0 0]) := hR4
      clear hO4 hb4 hR4 hT3 hO3 hR3 hP3 HB3
      go_wp2
      refine ret_cell_tmp Try.results22 rfl rfl (HR4.out.set 0 (by simp) (.slice a4 l.length c4)).tree ?_
      refine ⟨.slice a4 l.length c4, by rw [HU.out.1]; rfl, ?_, ?_⟩
      · rw [HU.out.2]
        exact (HO4.out.other _ (by omega) _ _).mono (by omega)
      · exact HB4.out.setCell (by show _ ≤ w.heap.size + 1 + 1; omega) _
    · have hne := run_neq_pl
      have hgd := guard_pl
      go_upto_region 6 with fail
      go_cut [50] from 27 to 50 (fun r wc => r = .bool (badB l ((o1, o2, (o3, o4, o5), o6, o7), true, (p1, p2, p3))) ∧ Below W3.heap.size W3 wc)
      case first =>
        by_cases h1 : p1 = 0
        · subst h1
          have HX : Hid (badB l ((o1, o2, (o3, o4, o5), o6, o7), true, (0, p2, p3)) = !eqPl ((find l o3).1, (find l o3).2.1, (find l o3).2.2) (o3, o4, o5)) := bad_eq l _ (by simp)
          refine wp_region_held_drew (S := (fun w' => w'.cell? ⟨w.heap.size, 0, none⟩ = some (.slice a l.length c) ∧ w'.cell? ⟨w.heap.size + 1, 0, none⟩ = some (.int .i64 o1) ∧ w'.cell? ⟨w.heap.size + 1, 1, none⟩ = some (.int .i64 o2) ∧ w'.cell? ⟨w.heap.size + 1, 2, none⟩ = some (.int .i64 o3) ∧ w'.cell? ⟨w.heap.size + 1, 3, none⟩ = some (.int .i64 o4) ∧ w'.cell? ⟨w.heap.size + 1, 4, none⟩ = some (.int .i64 o5) ∧ w'.cell? ⟨w.heap.size + 1, 5, none⟩ = some (.int .i64 o6) ∧ w'.cell? ⟨w.heap.size + 1, 6, none⟩ = some (.int .i64 o7) ∧ w'.cell? ⟨w.heap.size + 1, 8, none⟩ = some (.int .i64 0))) (by kernel_rfl) ?_ (fun hHeld => ?_)
          · (try dsimp only); go_keep
          refine take_yes 0 27 (v := ?_) rfl rfl (by kernel_rfl) (by kernel_rfl) (by kernel_rfl) (fun _ _ _ h => h) (by rfl) ?_ (by assumption) ?_
          rotate_left 1
          · (intro w hSw; (try dsimp only at hSw); go_simp; try with_reducible rfl)
          simp only [Act.put, List.setIfInBounds_toArray, List.set_cons_succ, List.set_cons_zero]
          refine take_yes 1 28 (v := ?_) rfl rfl (by kernel_rfl) (by kernel_rfl) (by kernel_rfl) (fun _ _ _ h => h) (by rfl) ?_ (by assumption) ?_
          rotate_left 1
          · (intro w hSw; (try dsimp only at hSw); go_simp; try with_reducible rfl)
          simp only [Act.put, List.setIfInBounds_toArray, List.set_cons_succ, List.set_cons_zero]
          refine take_yes 2 29 (v := ?_) rfl rfl (by kernel_rfl) (by kernel_rfl) (by kernel_rfl) (fun _ _ _ h => h) (by rfl) ?_ (by assumption) ?_
          rotate_left 1
          · (intro w hSw; (try dsimp only at hSw); go_simp; try with_reducible rfl)
          simp only [Act.put, List.setIfInBounds_toArray, List.set_cons_succ, List.set_cons_zero]
          refine take_yes 3 30 (v := ?_) rfl rfl (by kernel_rfl) (by kernel_rfl) (by kernel_rfl) (fun _ _ _ h => h) (by rfl) ?_ (by assumption) ?_
          rotate_left 1
          · (intro w hSw; (try dsimp only at hSw); go_simp; try with_reducible rfl)
          simp only [Act.put, List.setIfInBounds_toArray, List.set_cons_succ, List.set_cons_zero]
          refine take_yes 4 31 (v := ?_) rfl rfl (by kernel_rfl) (by kernel_rfl) (by kernel_rfl) (fun _ _ _ h => h) (by rfl) ?_ (by assumption) ?_
          rotate_left 1
          · (intro w hSw; (try dsimp only at hSw); go_simp; try with_reducible rfl)
          simp only [Act.put, List.setIfInBounds_toArray, List.set_cons_succ, List.set_cons_zero]
          refine take_no 5 32 rfl rfl (by kernel_rfl) (by kernel_rfl) (by kernel_rfl) (fun _ _ _ h => h) (by rfl) (by assumption) ?_
          simp only [Act.put, List.setIfInBounds_toArray, List.set_cons_succ, List.set_cons_zero]
          refine take_no 6 33 rfl rfl (by kernel_rfl) (by kernel_rfl) (by kernel_rfl) (fun _ _ _ h => h) (by rfl) (by assumption) ?_
          simp only [Act.put, List.setIfInBounds_toArray, List.set_cons_succ, List.set_cons_zero]
          refine take_no 7 34 rfl rfl (by kernel_rfl) (by kernel_rfl) (by kernel_rfl) (fun _ _ _ h => h) (by rfl) (by assumption) ?_
          simp only [Act.put, List.setIfInBounds_toArray, List.set_cons_succ, List.set_cons_zero]
          refine take_no 8 35 rfl rfl (by kernel_rfl) (by kernel_rfl) (by kernel_rfl) (fun _ _ _ h => h) (by rfl) (by assumption) ?_
          simp only [Act.put, List.setIfInBounds_toArray, List.set_cons_succ, List.set_cons_zero]
          refine take_no 9 36 rfl rfl (by kernel_rfl) (by kernel_rfl) (by kernel_rfl) (fun _ _ _ h => h) (by rfl) (by assumption) ?_
          simp only [Act.put, List.setIfInBounds_toArray, List.set_cons_succ, List.set_cons_zero]
          refine take_no 10 37 rfl rfl (by kernel_rfl) (by kernel_rfl) (by kernel_rfl) (fun _ _ _ h => h) (by rfl) (by assumption) ?_
          simp only [Act.put, List.setIfInBounds_toArray, List.set_cons_succ, List.set_cons_zero]
          refine take_no 11 38 rfl rfl (by kernel_rfl) (by kernel_rfl) (by kernel_rfl) (fun _ _ _ h => h) (by rfl) (by assumption) ?_
          simp only [Act.put, List.setIfInBounds_toArray, List.set_cons_succ, List.set_cons_zero]
          refine take_yes 12 39 (v := ?_) rfl rfl (by kernel_rfl) (by kernel_rfl) (by kernel_rfl) (fun _ _ _ h => h) (by rfl) ?_ (by assumption) ?_
          rotate_left 1
          · (intro w hSw; (try dsimp only at hSw); go_simp; try with_reducible rfl)
          simp only [Act.put, List.setIfInBounds_toArray, List.set_cons_succ, List.set_cons_zero]
          refine take_yes 13 40 (v := ?_) rfl rfl (by kernel_rfl) (by kernel_rfl) (by kernel_rfl) (fun _ _ _ h => h) (by rfl) ?_ (by assumption) ?_
          rotate_left 1
          · (intro w hSw; (try dsimp only at hSw); go_simp; try with_reducible rfl)
          simp only [Act.put, List.setIfInBounds_toArray, List.set_cons_succ, List.set_cons_zero]
          refine take_yes 14 41 (v := ?_) rfl rfl (by kernel_rfl) (by kernel_rfl) (by kernel_rfl) (fun _ _ _ h => h) (by rfl) ?_ (by assumption) ?_
          rotate_left 1
          · (intro w hSw; (try dsimp only at hSw); go_simp; try with_reducible rfl)
          simp only [Act.put, List.setIfInBounds_toArray, List.set_cons_succ, List.set_cons_zero]
          refine take_yes 15 42 (v := ?_) rfl rfl (by kernel_rfl) (by kernel_rfl) (by kernel_rfl) (fun _ _ _ h => h) (by rfl) ?_ (by assumption) ?_
          rotate_left 1
          · (intro w hSw; (try dsimp only at hSw); go_simp; try with_reducible rfl)
          simp only [Act.put, List.setIfInBounds_toArray, List.set_cons_succ, List.set_cons_zero]
          refine take_yes 16 43 (v := ?_) rfl rfl (by kernel_rfl) (by kernel_rfl) (by kernel_rfl) (fun _ _ _ h => h) (by rfl) ?_ (by assumption) ?_
          rotate_left 1
          · (intro w hSw; (try dsimp only at hSw); go_simp; try with_reducible rfl)
          simp only [Act.put, List.setIfInBounds_toArray, List.set_cons_succ, List.set_cons_zero]
          refine take_yes 17 44 (v := ?_) rfl rfl (by kernel_rfl) (by kernel_rfl) (by kernel_rfl) (fun _ _ _ h => h) (by rfl) ?_ (by assumption) ?_
          rotate_left 1
          · (intro w hSw; (try dsimp only at hSw); go_simp; try with_reducible rfl)
          simp only [Act.put, List.setIfInBounds_toArray, List.set_cons_succ, List.set_cons_zero]
          refine take_yes 19 46 (v := ?_) rfl rfl (by kernel_rfl) (by kernel_rfl) (by kernel_rfl) (fun _ _ _ h => h) (by rfl) ?_ (by assumption) ?_
          rotate_left 1
          · (intro w hSw; (try dsimp only at hSw); go_simp; try with_reducible rfl)
          simp only [Act.put, List.setIfInBounds_toArray, List.set_cons_succ, List.set_cons_zero]
          refine take_yes 20 47 (v := ?_) rfl rfl (by kernel_rfl) (by kernel_rfl) (by kernel_rfl) (fun _ _ _ h => h) (by rfl) ?_ (by assumption) ?_
          rotate_left 1
          · (intro w hSw; (try dsimp only at hSw); go_simp; try with_reducible rfl)
          simp only [Act.put, List.setIfInBounds_toArray, List.set_cons_succ, List.set_cons_zero]
          refine wpAnyH_ready (rs := [18]) (by kernel_rfl) (by simp) ?_
          refine AllReadyH.cons rfl (fun K hK => ?_) AllReadyH.nil
          go_simp
          refine (find_any _ a c l o3 hl ?_).mono ?_
          · exact hP3
          rintro e w4 ⟨rfl, hb4⟩
          have hb4' : Below W3.heap.size W3 w4 := ((Below.refl _ W3).drew).trans hb4
          have t_4 := (hT3.keep hb4').at 0 rfl
          have hO_4 := hO3.keep hb4'
          have k4_0 := hO_4.at 0 rfl
          have k4_1 := hO_4.at 1 rfl
          have k4_2 := hO_4.at 2 rfl
          have k4_3 := hO_4.at 3 rfl
          have k4_4 := hO_4.at 4 rfl
          have k4_5 := hO_4.at 5 rfl
          have k4_6 := hO_4.at 6 rfl
          have k4_8 := hO_4.at 8 rfl
          go_wp2_with fail
          refine hK.out _ _ ?_ (fun hHeld => ?_)
          · (try dsimp only); go_keep
          clear hK K
          refine wpAnyH_ready (rs := [21]) (by kernel_rfl) (by simp) ?_
          refine AllReadyH.cons rfl (fun K hK => ?_) AllReadyH.nil
          go_simp
          refine (target_any _ (o1, o2, (o3, o4, o5), o6, o7)).mono ?_
          rintro e w5 ⟨rfl, hb5⟩
          have hb5' : Below W3.heap.size W3 w5 := hb4'.trans (hb5.mono hb4'.size)
          have t_5 := (hT3.keep hb5').at 0 rfl
          have hO_5 := hO3.keep hb5'
          have k5_0 := hO_5.at 0 rfl
          have k5_1 := hO_5.at 1 rfl
          have k5_2 := hO_5.at 2 rfl
          have k5_3 := hO_5.at 3 rfl
          have k5_4 := hO_5.at 4 rfl
          have k5_5 := hO_5.at 5 rfl
          have k5_6 := hO_5.at 6 rfl
          have k5_8 := hO_5.at 8 rfl
          go_wp2_with fail
          refine hK.out _ _ ?_ (fun hHeld => ?_)
          · (try dsimp only); go_keep
          clear hK K
          refine take_yes 22 49 (v := ?_) rfl rfl (by kernel_rfl) (by kernel_rfl) (by kernel_rfl) (fun _ _ _ h => h) (by rfl) ?_ (by assumption) ?_
          rotate_left 1
          · (intro w hSw; (try dsimp only at hSw); go_simp; try with_reducible rfl)
          simp only [Act.put, List.setIfInBounds_toArray, List.set_cons_succ, List.set_cons_zero]
          refine take_yes 23 50 (v := ?_) rfl rfl (by kernel_rfl) (by kernel_rfl) (by kernel_rfl) (fun _ _ _ h => h) (by rfl) ?_ (by assumption) ?_
          rotate_left 1
          · (intro w hSw; (try dsimp only at hSw); go_simp; try with_reducible rfl)
          simp only [Act.put, List.setIfInBounds_toArray, List.set_cons_succ, List.set_cons_zero]
          refine wpAnyH_done (by kernel_rfl) ?_ _
          go_wp2
          go_meet
          case rel => exact ⟨by rw [HX.out], hb5'⟩
        · have h1' : (p1 != 0) = true := by simpa using h1
          by_cases h2 : p1 = o3
          · subst h2
            have HX : Hid (badB l ((o1, o2, (p1, o4, o5), o6, o7), true, (p1, p2, p3)) = !eqPl ((find l p1).1, (find l p1).2.1, (find l p1).2.2) (p1, o4, o5)) := bad_eq l _ (by simp)
            clear h1
            go_region_held3 (fun w' => w'.cell? ⟨w.heap.size, 0, none⟩ = some (.slice a l.length c) ∧ w'.cell? ⟨w.heap.size + 1, 0, none⟩ = some (.int .i64 o1) ∧ w'.cell? ⟨w.heap.size + 1, 1, none⟩ = some (.int .i64 o2) ∧ w'.cell? ⟨w.heap.size + 1, 2, none⟩ = some (.int .i64 p1) ∧ w'.cell? ⟨w.heap.size + 1, 3, none⟩ = some (.int .i64 o4) ∧ w'.cell? ⟨w.heap.size + 1, 4, none⟩ = some (.int .i64 o5) ∧ w'.cell? ⟨w.heap.size + 1, 5, none⟩ = some (.int .i64 o6) ∧ w'.cell? ⟨w.heap.size + 1, 6, none⟩ = some (.int .i64 o7) ∧ w'.cell? ⟨w.heap.size + 1, 8, none⟩ = some (.int .i64 p1)) (go_keep)
              (first | (go_at_call 14; refine (find_any _ a c l p1 hl ?_).mono ?_; exact hP3; rintro e w4 ⟨rfl, hb4⟩; have hb4' : Below W3.heap.size W3 w4 := ((Below.refl _ W3).drew).trans hb4; have t_4 := (hT3.keep hb4').at 0 rfl; have hO_4 := hO3.keep hb4'; have k4_0 := hO_4.at 0 rfl; have k4_1 := hO_4.at 1 rfl; have k4_2 := hO_4.at 2 rfl; have k4_3 := hO_4.at 3 rfl; have k4_4 := hO_4.at 4 rfl; have k4_5 := hO_4.at 5 rfl; have k4_6 := hO_4.at 6 rfl; have k4_8 := hO_4.at 8 rfl) | (go_at_call 46; refine (target_any _ (o1, o2, (p1, o4, o5), o6, o7)).mono ?_; rintro e w5 ⟨rfl, hb5⟩; have hb5' : Below W3.heap.size W3 w5 := hb4'.trans (hb5.mono hb4'.size); have t_5 := (hT3.keep hb5').at 0 rfl; have hO_5 := hO3.keep hb5'; have k5_0 := hO_5.at 0 rfl; have k5_1 := hO_5.at 1 rfl; have k5_2 := hO_5.at 2 rfl; have k5_3 := hO_5.at 3 rfl; have k5_4 := hO_5.at 4 rfl; have k5_5 := hO_5.at 5 rfl; have k5_6 := hO_5.at 6 rfl; have k5_8 := hO_5.at 8 rfl))
            go_wp2
            go_meet
            case rel => exact ⟨by rw [HX.out], hb5'⟩
          · have h2' : (p1 != o3) = true := by simpa using h2
            have HX : Hid (badB l ((o1, o2, (o3, o4, o5), o6, o7), true, (p1, p2, p3)) = true) := by show _ = _; simp [badB, h1, h2]
            clear h1 h2
            refine wp_region_held_drew (S := (fun w' => w'.cell? ⟨w.heap.size, 0, none⟩ = some (.slice a l.length c) ∧ w'.cell? ⟨w.heap.size + 1, 0, none⟩ = some (.int .i64 o1) ∧ w'.cell? ⟨w.heap.size + 1, 1, none⟩ = some (.int .i64 o2) ∧ w'.cell? ⟨w.heap.size + 1, 2, none⟩ = some (.int .i64 o3) ∧ w'.cell? ⟨w.heap.size + 1, 3, none⟩ = some (.int .i64 o4) ∧ w'.cell? ⟨w.heap.size + 1, 4, none⟩ = some (.int .i64 o5) ∧ w'.cell? ⟨w.heap.size + 1, 5, none⟩ = some (.int .i64 o6) ∧ w'.cell? ⟨w.heap.size + 1, 6, none⟩ = some (.int .i64 o7) ∧ w'.cell? ⟨w.heap.size + 1, 8, none⟩ = some (.int .i64 p1))) (by kernel_rfl) ?_ (fun hHeld => ?_)
            · (try dsimp only); go_keep
            refine take_yes 0 27 (v := ?_) rfl rfl (by kernel_rfl) (by kernel_rfl) (by kernel_rfl) (fun _ _ _ h => h) (by rfl) ?_ (by assumption) ?_
            rotate_left 1
            · (intro w hSw; (try dsimp only at hSw); go_simp; try with_reducible rfl)
            simp only [Act.put, List.setIfInBounds_toArray, List.set_cons_succ, List.set_cons_zero]
            refine take_yes 1 28 (v := ?_) rfl rfl (by kernel_rfl) (by kernel_rfl) (by kernel_rfl) (fun _ _ _ h => h) (by rfl) ?_ (by assumption) ?_
            rotate_left 1
            · (intro w hSw; (try dsimp only at hSw); go_simp; try with_reducible rfl)
            simp only [Act.put, List.setIfInBounds_toArray, List.set_cons_succ, List.set_cons_zero]
            refine take_yes 2 29 (v := ?_) rfl rfl (by kernel_rfl) (by kernel_rfl) (by kernel_rfl) (fun _ _ _ h => h) (by rfl) ?_ (by assumption) ?_
            rotate_left 1
            · (intro w hSw; (try dsimp only at hSw); go_simp; try with_reducible rfl)
            simp only [Act.put, List.setIfInBounds_toArray, List.set_cons_succ, List.set_cons_zero]
            refine take_yes 3 30 (v := ?_) rfl rfl (by kernel_rfl) (by kernel_rfl) (by kernel_rfl) (fun _ _ _ h => h) (by rfl) ?_ (by assumption) ?_
            rotate_left 1
            · (intro w hSw; (try dsimp only at hSw); go_simp; try with_reducible rfl)
            simp only [Act.put, List.setIfInBounds_toArray, List.set_cons_succ, List.set_cons_zero]
            refine take_yes 4 31 (v := ?_) rfl rfl (by kernel_rfl) (by kernel_rfl) (by kernel_rfl) (fun _ _ _ h => h) (by rfl) ?_ (by assumption) ?_
            rotate_left 1
            · (intro w hSw; (try dsimp only at hSw); go_simp; try with_reducible rfl)
            simp only [Act.put, List.setIfInBounds_toArray, List.set_cons_succ, List.set_cons_zero]
            refine take_yes 5 32 (v := ?_) rfl rfl (by kernel_rfl) (by kernel_rfl) (by kernel_rfl) (fun _ _ _ h => h) (by rfl) ?_ (by assumption) ?_
            rotate_left 1
            · (intro w hSw; (try dsimp only at hSw); go_simp; try with_reducible rfl)
            simp only [Act.put, List.setIfInBounds_toArray, List.set_cons_succ, List.set_cons_zero]
            refine take_yes 6 33 (v := ?_) rfl rfl (by kernel_rfl) (by kernel_rfl) (by kernel_rfl) (fun _ _ _ h => h) (by rfl) ?_ (by assumption) ?_
            rotate_left 1
            · (intro w hSw; (try dsimp only at hSw); go_simp; try with_reducible rfl)
            simp only [Act.put, List.setIfInBounds_toArray, List.set_cons_succ, List.set_cons_zero]
            refine take_yes 7 34 (v := ?_) rfl rfl (by kernel_rfl) (by kernel_rfl) (by kernel_rfl) (fun _ _ _ h => h) (by rfl) ?_ (by assumption) ?_
            rotate_left 1
            · (intro w hSw; (try dsimp only at hSw); go_simp; try with_reducible rfl)
            simp only [Act.put, List.setIfInBounds_toArray, List.set_cons_succ, List.set_cons_zero]
            refine take_yes 8 35 (v := ?_) rfl rfl (by kernel_rfl) (by kernel_rfl) (by kernel_rfl) (fun _ _ _ h => h) (by rfl) ?_ (by assumption) ?_
            rotate_left 1
            · (intro w hSw; (try dsimp only at hSw); go_simp; try with_reducible rfl)
            simp only [Act.put, List.setIfInBounds_toArray, List.set_cons_succ, List.set_cons_zero]
            refine take_yes 9 36 (v := ?_) rfl rfl (by kernel_rfl) (by kernel_rfl) (by kernel_rfl) (fun _ _ _ h => h) (by rfl) ?_ (by assumption) ?_
            rotate_left 1
            · (intro w hSw; (try dsimp only at hSw); go_simp; try with_reducible rfl)
            simp only [Act.put, List.setIfInBounds_toArray, List.set_cons_succ, List.set_cons_zero]
            refine take_yes 10 37 (v := ?_) rfl rfl (by kernel_rfl) (by kernel_rfl) (by kernel_rfl) (fun _ _ _ h => h) (by rfl) ?_ (by assumption) ?_
            rotate_left 1
            · (intro w hSw; (try dsimp only at hSw); go_simp; try with_reducible rfl)
            simp only [Act.put, List.setIfInBounds_toArray, List.set_cons_succ, List.set_cons_zero]
            refine take_yes 11 38 (v := ?_) rfl rfl (by kernel_rfl) (by kernel_rfl) (by kernel_rfl) (fun _ _ _ h => h) (by rfl) ?_ (by assumption) ?_
            rotate_left 1
            · (intro w hSw; (try dsimp only at hSw); go_simp; try with_reducible rfl)
            simp only [Act.put, List.setIfInBounds_toArray, List.set_cons_succ, List.set_cons_zero]
            refine take_yes 12 39 (v := ?_) rfl rfl (by kernel_rfl) (by kernel_rfl) (by kernel_rfl) (fun _ _ _ h => h) (by rfl) ?_ (by assumption) ?_
            rotate_left 1
            · (intro w hSw; (try dsimp only at hSw); go_simp; try with_reducible rfl)
            simp only [Act.put, List.setIfInBounds_toArray, List.set_cons_succ, List.set_cons_zero]
            refine take_yes 13 40 (v := ?_) rfl rfl (by kernel_rfl) (by kernel_rfl) (by kernel_rfl) (fun _ _ _ h => h) (by rfl) ?_ (by assumption) ?_
            rotate_left 1
            · (intro w hSw; (try dsimp only at hSw); go_simp; try with_reducible rfl)
            simp only [Act.put, List.setIfInBounds_toArray, List.set_cons_succ, List.set_cons_zero]
            refine take_no 14 41 rfl rfl (by kernel_rfl) (by kernel_rfl) (by kernel_rfl) (fun _ _ _ h => h) (by rfl) (by assumption) ?_
            simp only [Act.put, List.setIfInBounds_toArray, List.set_cons_succ, List.set_cons_zero]
            refine take_no 15 42 rfl rfl (by kernel_rfl) (by kernel_rfl) (by kernel_rfl) (fun _ _ _ h => h) (by rfl) (by assumption) ?_
            simp only [Act.put, List.setIfInBounds_toArray, List.set_cons_succ, List.set_cons_zero]
            refine take_no 16 43 rfl rfl (by kernel_rfl) (by kernel_rfl) (by kernel_rfl) (fun _ _ _ h => h) (by rfl) (by assumption) ?_
            simp only [Act.put, List.setIfInBounds_toArray, List.set_cons_succ, List.set_cons_zero]
            refine take_no 17 44 rfl rfl (by kernel_rfl) (by kernel_rfl) (by kernel_rfl) (fun _ _ _ h => h) (by rfl) (by assumption) ?_
            simp only [Act.put, List.setIfInBounds_toArray, List.set_cons_succ, List.set_cons_zero]
            refine take_no 18 45 rfl rfl (by kernel_rfl) (by kernel_rfl) (by kernel_rfl) (fun _ _ _ h => h) (by rfl) (by assumption) ?_
            simp only [Act.put, List.setIfInBounds_toArray, List.set_cons_succ, List.set_cons_zero]
            refine take_no 19 46 rfl rfl (by kernel_rfl) (by kernel_rfl) (by kernel_rfl) (fun _ _ _ h => h) (by rfl) (by assumption) ?_
            simp only [Act.put, List.setIfInBounds_toArray, List.set_cons_succ, List.set_cons_zero]
            refine take_no 20 47 rfl rfl (by kernel_rfl) (by kernel_rfl) (by kernel_rfl) (fun _ _ _ h => h) (by rfl) (by assumption) ?_
            simp only [Act.put, List.setIfInBounds_toArray, List.set_cons_succ, List.set_cons_zero]
            refine take_no 21 48 rfl rfl (by kernel_rfl) (by kernel_rfl) (by kernel_rfl) (fun _ _ _ h => h) (by rfl) (by assumption) ?_
            simp only [Act.put, List.setIfInBounds_toArray, List.set_cons_succ, List.set_cons_zero]
            refine take_no 22 49 rfl rfl (by kernel_rfl) (by kernel_rfl) (by kernel_rfl) (fun _ _ _ h => h) (by rfl) (by assumption) ?_
            simp only [Act.put, List.setIfInBounds_toArray, List.set_cons_succ, List.set_cons_zero]
            refine take_yes 23 50 (v := ?_) rfl rfl (by kernel_rfl) (by kernel_rfl) (by kernel_rfl) (fun _ _ _ h => h) (by rfl) ?_ (by assumption) ?_
            rotate_left 1
            · (intro w hSw; (try dsimp only at hSw); go_simp; try with_reducible rfl)
            simp only [Act.put, List.setIfInBounds_toArray, List.set_cons_succ, List.set_cons_zero]
            refine wpAnyH_done (by kernel_rfl) ?_ _
            go_wp2
            go_meet
            case rel => exact ⟨by rw [HX.out], (Below.refl _ W3).drew⟩
      case rest =>
        obtain ⟨rfl, hb4⟩ := hcut
        have hT4 := hT3.keep hb4
        have hO4 := hO3.keep hb4
        have hR4 := hR3.keep hb4
        have hP4 := hP3.below hb4
        have HB4 : Hid (Below w.heap.size w wc) := HB3.out.trans (hb4.mono HB3.out.size)
        have hW4 : w.heap.size + 3 ≤ wc.heap.size := by have := hb4.size; omega
        clear hT3 hO3 hR3 hP3 HB3 hb4 t0 m0 m1 m2 m3 m4 m5 m6 m7 m8 m9 m10 r0 rf hne hgd hW3
        have t0 := hT4.at 0 rfl
        have m0 := hO4.at 0 rfl
        have m1 := hO4.at 1 rfl
        have m2 := hO4.at 2 rfl
        have m3 := hO4.at 3 rfl
        have m4 := hO4.at 4 rfl
        have m5 := hO4.at 5 rfl
        have m6 := hO4.at 6 rfl
        have m7 := hO4.at 7 rfl
        have m8 := hO4.at 8 rfl
        have m9 := hO4.at 9 rfl
        have m10 := hO4.at 10 rfl
        cases hbad : badB l ((o1, o2, (o3, o4, o5), o6, o7), true, (p1, p2, p3))
        · have HBAD : Hid (badB l ((o1, o2, (o3, o4, o5), o6, o7), true, (p1, p2, p3)) = false) := hbad
          clear hbad
          by_cases hg : p1 = 0 ∨ p2 < 0
          · have HU : Hid (undoE l ((o1, o2, (o3, o4, o5), o6, o7), true, (p1, p2, p3)) = 0 ∧ undoT l ((o1, o2, (o3, o4, o5), o6, o7), true, (p1, p2, p3)) = outL l o3) := by
              have hgn : goneB ((o1, o2, (o3, o4, o5), o6, o7), true, (p1, p2, p3)) = true := by simp [goneB]; exact hg
              have e0 : undoE l ((o1, o2, (o3, o4, o5), o6, o7), true, (p1, p2, p3)) = 0 := by unfold undoE; rw [if_neg (by simp [HZ.out]), if_neg (by simp), if_neg (by simp [HBAD.out]), if_pos hgn]
              exact ⟨e0, by unfold undoT; rw [if_neg (by simp [e0]), if_neg (by simp), if_pos hgn]⟩
            have hcall : ∀ (R : Ending → World → Prop), (∀ w5 a5 c5, OwnS w5 (w.heap.size + 3) (.slice a5 (outL l o3).length c5) (outL l o3) → Below wc.heap.size wc w5 → R (.returned (.agg #[.slice a5 (outL l o3).length c5])) w5) → Calls Try.prog 47 #[.agg #[.slice a l.length c], .int .i64 o3] wc R := by
              intro R hR
              refine (without_any wc a c l o3 (by omega) hP4).mono ?_
              rintro e w5 ⟨v5, rfl, hO5, hb5⟩
              obtain ⟨a5, c5, rfl⟩ := hO5.val
              exact hR w5 a5 c5 (hO5.mono hW4) hb5
            have HC : Hid (∀ (R : Ending → World → Prop), (∀ w5 a5 c5, OwnS w5 (w.heap.size + 3) (.slice a5 (outL l o3).length c5) (outL l o3) → Below wc.heap.size wc w5 → R (.returned (.agg #[.slice a5 (outL l o3).length c5])) w5) → Calls Try.prog 47 #[.agg #[.slice a l.length c], .int .i64 o3] wc R) := hcall
            clear hcall hP4
            by_cases h1 : p1 = 0
            · have h1' : (p1 == 0) = true := by simpa using h1
              clear h1 hg
              go_wp2_with fail
              refine HC.out _ ?_
              intro w5 a5 c5 hO5 hb5
              have hR5 := hR4.keep hb5
              have HB5 : Hid (Below w.heap.size w w5) := HB4.out.trans (hb5.mono HB4.out.size)
              have HO5 : Hid (OwnS w5 (w.heap.size + 3) (.slice a5 (outL l o3).length c5) (outL l o3)) := hO5
              have HR5 : Hid (Blk w5 (w.heap.size + 1 + 1) [Value.slice none 0 0]) := hR5
              have r0 := hR5.at 0 rfl
              have rf := hR5.frz
              clear hT4 hO4 hR4 HB4 t0 m0 m1 m2 m3 m4 m5 m6 m7 m8 m9 m10 hO5 hb5 hR5
              go_wp2
              refine ret_cell_tmp Try.results22 rfl rfl (HR5.out.set 0 (by simp) (.slice a5 (outL l o3).length c5)).tree ?_
              refine ⟨.slice a5 (outL l o3).length c5, by rw [HU.out.1]; rfl, ?_, ?_⟩
              · rw [HU.out.2]
                exact (HO5.out.other _ (by omega) _ _).mono (by omega)
              · exact HB5.out.setCell (by show _ ≤ w.heap.size + 1 + 1; omega) _
            · have h1' : (p1 == 0) = false := by simpa using h1
              have h2 : p2 < 0 := by rcases hg with hg | hg; exact absurd hg h1; exact hg
              have h2' : decide (p2 < 0) = true := by simpa using h2
              clear h1 hg h2
              go_wp2_with fail
              refine HC.out _ ?_
              intro w5 a5 c5 hO5 hb5
              have hR5 := hR4.keep hb5
              have HB5 : Hid (Below w.heap.size w w5) := HB4.out.trans (hb5.mono HB4.out.size)
              have HO5 : Hid (OwnS w5 (w.heap.size + 3) (.slice a5 (outL l o3).length c5) (outL l o3)) := hO5
              have HR5 : Hid (Blk w5 (w.heap.size + 1 + 1) [Value.slice none 0 0]) := hR5
              have r0 := hR5.at 0 rfl
              have rf := hR5.frz
              clear hT4 hO4 hR4 HB4 t0 m0 m1 m2 m3 m4 m5 m6 m7 m8 m9 m10 hO5 hb5 hR5
              go_wp2
              refine ret_cell_tmp Try.results22 rfl rfl (HR5.out.set 0 (by simp) (.slice a5 (outL l o3).length c5)).tree ?_
              refine ⟨.slice a5 (outL l o3).length c5, by rw [HU.out.1]; rfl, ?_, ?_⟩
              · rw [HU.out.2]
                exact (HO5.out.other _ (by omega) _ _).mono (by omega)
              · exact HB5.out.setCell (by show _ ≤ w.heap.size + 1 + 1; omega) _
          · have h1' : (p1 == 0) = false := by simp; omega
            have h2' : decide (p2 < 0) = false := by simp; omega
            have hgn : goneB ((o1, o2, (o3, o4, o5), o6, o7), true, (p1, p2, p3)) = false := by simp [goneB]; omega
            have HU : Hid (undoE l ((o1, o2, (o3, o4, o5), o6, o7), true, (p1, p2, p3)) = check (inL l (p1, p2, p3)) ∧ (check (inL l (p1, p2, p3)) = 0 → undoT l ((o1, o2, (o3, o4, o5), o6, o7), true, (p1, p2, p3)) = inL l (p1, p2, p3)) ∧ (check (inL l (p1, p2, p3)) ≠ 0 → undoT l ((o1, o2, (o3, o4, o5), o6, o7), true, (p1, p2, p3)) = [])) := by
              have e0 : undoE l ((o1, o2, (o3, o4, o5), o6, o7), true, (p1, p2, p3)) = check (inL l (p1, p2, p3)) := by unfold undoE; rw [if_neg (by simp [HZ.out]), if_neg (by simp), if_neg (by simp [HBAD.out]), if_neg (by simp [hgn])]
              refine ⟨e0, fun h0 => ?_, fun h0 => ?_⟩
              · unfold undoT; rw [if_neg (by rw [e0]; simp [h0]), if_neg (by simp), if_neg (by simp [hgn])]
              · unfold undoT; rw [if_pos (by rw [e0]; exact h0)]
            clear hg hgn
            go_wp2_with fail
            refine (with_any wc a c l (p1, p2, p3) (by omega) hP4 hby).mono ?_
            rintro e w5 ⟨v5, rfl, hO5, hb5⟩
            obtain ⟨a5, c5, rfl⟩ := hO5.val
            have hil := in_len l (p1, p2, p3)
            have hO6 := (hO5.below (Go.Joins.below_alloc1 w5 (Obj.cells #[.slice a5 (inL l (p1, p2, p3)).length c5] 29))).mono hW4
            have hU6 := Blk.new w5 [.slice a5 (inL l (p1, p2, p3)).length c5] 29
            have hR6 := (hR4.keep hb5).alloc (Obj.cells #[.slice a5 (inL l (p1, p2, p3)).length c5] 29)
            have HB6 : Hid (Below w.heap.size w (w5.alloc (Obj.cells #[.slice a5 (inL l (p1, p2, p3)).length c5] 29))) := (HB4.out.trans (hb5.mono HB4.out.size)).alloc (by have := hb5.size; omega) _
            clear hT4 hO4 hR4 hP4 HB4 t0 m0 m1 m2 m3 m4 m5 m6 m7 m8 m9 m10 hO5
            go_wp2_with fail
            generalize inL l (p1, p2, p3) = K at *
            generalize w5.alloc (Obj.cells #[.slice a5 K.length c5] 29) = W6 at *
            have hP6 : SlP W6 a5 K := by
              obtain ⟨a', c', e, h'⟩ := hO6.slp
              obtain ⟨rfl, rfl⟩ : a5 = a' ∧ c5 = c' := by simpa using e
              exact h'
            refine (check_any W6 a5 c5 K (by unfold maxLen; omega) hP6).mono ?_
            rintro e w7 ⟨rfl, hb7⟩
            have hU7 := hU6.keep hb7
            have hR7 := hR6.keep hb7
            have hO7 := hO6.below hb7
            have HB7 : Hid (Below w.heap.size w w7) := HB6.out.trans (hb7.mono HB6.out.size)
            have HR7 : Hid (Blk w7 (w.heap.size + 1 + 1) [Value.slice none 0 0]) := hR7
            have HO7 : Hid (OwnS w7 (w.heap.size + 3) (.slice a5 K.length c5) K) := hO7
            have u0 := hU7.at 0 rfl
            have r0 := hR7.at 0 rfl
            have rf := hR7.frz
            clear hU6 hR6 hO6 hP6 hb7 HB6 hU7 hR7 hO7
            by_cases hk : check K = 0
            · have hk' : (check K != 0) = false := by simp [hk]
              have HK : Hid (check K = 0) := hk
              clear hk
              go_wp2
              refine ret_cell_tmp Try.results22 rfl rfl (HR7.out.set 0 (by simp) (.slice a5 K.length c5)).tree ?_
              refine ⟨.slice a5 K.length c5, by rw [HU.out.1, HK.out]; rfl, ?_, ?_⟩
              · rw [HU.out.2.1 HK.out]
                exact (HO7.out.other _ (by omega) _ _).mono (by omega)
              · exact HB7.out.setCell (by show _ ≤ w.heap.size + 1 + 1; omega) _
            · have hk' : (check K != 0) = true := by simpa using hk
              have HK : Hid (check K ≠ 0) := hk
              clear hk
              go_wp2
              refine ret_cell_tmp Try.results22 rfl rfl (HR7.out.set 0 (by simp) (.slice none 0 0)).tree ?_
              refine ⟨.slice none 0 0, by rw [HU.out.1]; rfl, ?_, ?_⟩
              · rw [HU.out.2.2 HK.out]
                exact Or.inl ⟨rfl, rfl⟩
              · exact HB7.out.setCell (by show _ ≤ w.heap.size + 1 + 1; omega) _
        · have HU : Hid (undoE l ((o1, o2, (o3, o4, o5), o6, o7), true, (p1, p2, p3)) = 4 ∧ undoT l ((o1, o2, (o3, o4, o5), o6, o7), true, (p1, p2, p3)) = []) := by
            have e0 : undoE l ((o1, o2, (o3, o4, o5), o6, o7), true, (p1, p2, p3)) = 4 := by unfold undoE; rw [if_neg (by simp [HZ.out]), if_neg (by simp), if_pos hbad]
            exact ⟨e0, by unfold undoT; rw [if_pos (by rw [e0]; decide)]⟩
          have r0 := hR4.at 0 rfl
          have rf := hR4.frz
          clear hbad hT4 hO4 hP4
          go_wp2
          refine ret_cell_tmp Try.results22 rfl rfl (hR4.set 0 (by simp) (.slice none 0 0)).tree ?_
          refine ⟨.slice none 0 0, by rw [HU.out.1]; rfl, ?_, ?_⟩
          · rw [HU.out.2]
            exact Or.inl ⟨rfl, rfl⟩
          · exact HB4.out.setCell (by show _ ≤ w.heap.size + 1 + 1; omega) _
  · have hz' : (orI (check l) (checkOp (o1, o2, (o3, o4, o5), o6, o7)) != 0) = true := by simpa using hz
    have HU : Hid (undoE l ((o1, o2, (o3, o4, o5), o6, o7), did, (p1, p2, p3)) = orI (check l) (checkOp (o1, o2, (o3, o4, o5), o6, o7)) ∧ undoT l ((o1, o2, (o3, o4, o5), o6, o7), did, (p1, p2, p3)) = []) := by
      have e0 : undoE l ((o1, o2, (o3, o4, o5), o6, o7), did, (p1, p2, p3)) = orI (check l) (checkOp (o1, o2, (o3, o4, o5), o6, o7)) := by unfold undoE; rw [if_pos (by rw [HE.out]; exact hz), HE.out]
      exact ⟨e0, by unfold undoT; rw [if_pos (by rw [e0]; exact hz)]⟩
    have HR3 : Hid (Blk W3 (w.heap.size + 1 + 1) [Value.slice none 0 0]) := hR3
    generalize orI (check l) (checkOp (o1, o2, (o3, o4, o5), o6, o7)) = E at *
    have r0 := hR3.at 0 rfl
    have rf := hR3.frz
    clear hz hT3 hO3 hR3 hP3
    go_wp2
    refine ret_cell_tmp Try.results22 rfl rfl (HR3.out.set 0 (by simp) (.slice none 0 0)).tree ?_
    refine ⟨.slice none 0 0, by rw [HU.out.1]; rfl, ?_, ?_⟩
    · rw [HU.out.2]
      exact Or.inl ⟨rfl, rfl⟩
    · exact HB3.out.setCell (by show _ ≤ w.heap.size + 1 + 1; omega) _
end Go.Proofs.Ytmbglohfbdaijaa
