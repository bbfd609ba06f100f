/- orangeryref.Undone. -/
import Derived.Test.YtmbglohfbdaijaaUndo
import Derived.Test.YtmbglohfbdaijaaCheckTree
import Derived.Test.YtmbglohfbdaijaaRefA
namespace Go.Proofs.Ytmbglohfbdaijaa
open Go.ChangeShapes Go.WideShapes Go.ChangeAt Go.RowKit
open Orangery (Pl Mv Stp outL inL check checkOp doE doT doS ring orI underB underE find noStep noOp undoE undoT badB goneB swap)

set_option maxHeartbeats 4000000 in
set_option maxRecDepth 100000 in
theorem rUndone_any (w : World) (a : Option Addr) (c : Nat) (l : List Pl) (s : Stp) (hl : l.length ≤ maxLen) (h : SlP w a l) :
    Calls Try.prog 24 #[.agg #[.slice a l.length c], stV s] w
      fun e w' => ∃ a' c', e = .returned (.tuple #[.agg #[.slice a' (undoT l s).length c'], .int .i64 (undoE l s)]) ∧ ((a' = a ∧ undoT l s = l) ∨ OwnS w' w.heap.size (.slice a' (undoT l s).length c') (undoT l s)) ∧ Below w.heap.size w w' := by
  obtain ⟨⟨o1, o2, ⟨o3, o4, o5⟩, o6, o7⟩, did, ⟨p1, p2, p3⟩⟩ := s
  go_enter Try.func24, Try.ntmps24
  go_wp2_with fail
  obtain ⟨W0, hW, hT, hO, hR, hB, hS⟩ := laid3 w [Value.slice a l.length c] 29 [Value.int IntKind.i64 o1, Value.int IntKind.i64 o2, Value.int IntKind.i64 o3, Value.int IntKind.i64 o4, Value.int IntKind.i64 o5, Value.int IntKind.i64 o6, Value.int IntKind.i64 o7, Value.bool did, Value.int IntKind.i64 p1, Value.int IntKind.i64 p2, Value.int IntKind.i64 p3] 51 [Value.slice none 0 0] 29
  rw [hW]
  clear hW
  have hP := h.below hB
  have HPW : Hid (SlP w a l) := h
  clear h
  refine (checkTree_any W0 a c l hl hP).mono ?_
  rintro e w1 ⟨rfl, hb1⟩
  rw [← Orangery.check_eq]
  have hT1 := hT.keep hb1
  have hO1 := hO.keep hb1
  have hR1 := hR.keep hb1
  have HB1 : Hid (Below w.heap.size w w1) := hB.trans (hb1.mono hB.size)
  have hw1 : w.heap.size + 1 + 1 + 1 ≤ w1.heap.size := by have := hb1.size; omega
  clear hT hO hR hB hP hb1 hS
  by_cases hz : check l = 0
  · have hz' : (check l != 0) = false := by simp [hz]
    have HZ : Hid (check l = 0) := hz
    have hlen := Orangery.check_len l hz
    clear hz
    have m0 := hO1.at 0 rfl
    have m1 := hO1.at 1 rfl
    have m2 := hO1.at 2 rfl
    have m3 := hO1.at 3 rfl
    have m4 := hO1.at 4 rfl
    have m5 := hO1.at 5 rfl
    have m6 := hO1.at 6 rfl
    have m7 := hO1.at 7 rfl
    have m8 := hO1.at 8 rfl
    have m9 := hO1.at 9 rfl
    have m10 := hO1.at 10 rfl
    go_wp2_with fail
    refine (refCheckOp_any w1 (o1, o2, (o3, o4, o5), o6, o7)).mono ?_
    rintro e w2 ⟨rfl, hb2⟩
    have hT2 := hT1.keep hb2
    have hO2 := hO1.keep hb2
    have hR2 := hR1.keep hb2
    have HB2 : Hid (Below w.heap.size w w2) := HB1.out.trans (hb2.mono HB1.out.size)
    have hw2 : w.heap.size + 1 + 1 + 1 ≤ w2.heap.size := by have := hb2.size; omega
    have hP2 := HPW.out.below HB2.out
    clear hT1 hO1 hR1 hb2 HB1 m0 m1 m2 m3 m4 m5 m6 m7 m8 m9 m10
    have HE : Hid (doE l (o1, o2, (o3, o4, o5), o6, o7) = checkOp (o1, o2, (o3, o4, o5), o6, o7)) := by show _ = _; unfold doE orI; rw [if_neg (by simp [HZ.out])]
    by_cases hz2 : checkOp (o1, o2, (o3, o4, o5), o6, o7) = 0
    · have hz2' : (checkOp (o1, o2, (o3, o4, o5), o6, o7) != 0) = false := by simp [hz2]
      have HZ2 : Hid (doE l (o1, o2, (o3, o4, o5), o6, o7) = 0) := by show _ = _; rw [HE.out]; exact hz2
      have hok := Orangery.checkOp_zero hz2
      obtain ⟨hr1, hr2, hr3⟩ := Orangery.opOk_place hok
      have hn3 := (Orangery.inRangeB_iff (o3, o4, o5)).1 hr1
      clear hz2 hok hr1 hr2 hr3
      have t0 := hT2.at 0 rfl
      have m0 := hO2.at 0 rfl
      have m1 := hO2.at 1 rfl
      have m2 := hO2.at 2 rfl
      have m3 := hO2.at 3 rfl
      have m4 := hO2.at 4 rfl
      have m5 := hO2.at 5 rfl
      have m6 := hO2.at 6 rfl
      have m7 := hO2.at 7 rfl
      have m8 := hO2.at 8 rfl
      have m9 := hO2.at 9 rfl
      have m10 := hO2.at 10 rfl
      have r0 := hR2.at 0 rfl
      have rf := hR2.frz
      cases did
      · have HU : Hid (undoE l ((o1, o2, (o3, o4, o5), o6, o7), false, (p1, p2, p3)) = 0 ∧ undoT l ((o1, o2, (o3, o4, o5), o6, o7), false, (p1, p2, p3)) = l) := by
          have e0 : undoE l ((o1, o2, (o3, o4, o5), o6, o7), false, (p1, p2, p3)) = 0 := by unfold undoE; rw [if_neg (by simp [HZ2.out]), if_pos rfl]
          exact ⟨e0, by unfold undoT; rw [if_neg (by simp [e0]), if_pos rfl]⟩
        go_wp2
        refine ret_cell_tmp Try.results24 rfl rfl (hR2.set 0 (by simp) (.slice a l.length c)).tree ?_
        refine ⟨a, c, by rw [HU.out.1, HU.out.2]; rfl, ?_, ?_⟩
        · exact Or.inl ⟨rfl, HU.out.2⟩
        · exact HB2.out.setCell (by show _ ≤ w.heap.size + 1 + 1; omega) _
      · have hne := run_neq_pl
        have hgd := guard_pl
        go_upto_region 9 with fail
        go_cut [61] from 30 to 61 (fun r wc => r = .bool (badB l ((o1, o2, (o3, o4, o5), o6, o7), true, (p1, p2, p3))) ∧ Below w2.heap.size w2 wc)
        case first =>
          by_cases h1 : p1 = 0
          · subst h1
            have HX : Hid (badB l ((o1, o2, (o3, o4, o5), o6, o7), true, (0, p2, p3)) = !eqPl ((find l o3).1, (find l o3).2.1, (find l o3).2.2) (o3, o4, o5)) := bad_eq l _ (by simp)
            refine wp_region_held_drew (S := (fun w' => w'.cell? ⟨w.heap.size, 0, none⟩ = some (.slice a l.length c) ∧ w'.cell? ⟨w.heap.size + 1, 2, none⟩ = some (.int .i64 o3) ∧ w'.cell? ⟨w.heap.size + 1, 3, none⟩ = some (.int .i64 o4) ∧ w'.cell? ⟨w.heap.size + 1, 4, none⟩ = some (.int .i64 o5) ∧ w'.cell? ⟨w.heap.size + 1, 8, none⟩ = some (.int .i64 0))) (by kernel_rfl) ?_ (fun hHeld => ?_)
            · (try dsimp only); go_keep
            refine take_yes 0 30 (v := ?_) rfl rfl (by kernel_rfl) (by kernel_rfl) (by kernel_rfl) (fun _ _ _ h => h) (by rfl) ?_ (by assumption) ?_
            rotate_left 1
            · (intro w hSw; (try dsimp only at hSw); go_simp; try with_reducible rfl)
            simp only [Act.put, List.setIfInBounds_toArray, List.set_cons_succ, List.set_cons_zero]
            refine take_yes 1 31 (v := ?_) rfl rfl (by kernel_rfl) (by kernel_rfl) (by kernel_rfl) (fun _ _ _ h => h) (by rfl) ?_ (by assumption) ?_
            rotate_left 1
            · (intro w hSw; (try dsimp only at hSw); go_simp; try with_reducible rfl)
            simp only [Act.put, List.setIfInBounds_toArray, List.set_cons_succ, List.set_cons_zero]
            refine take_yes 2 32 (v := ?_) rfl rfl (by kernel_rfl) (by kernel_rfl) (by kernel_rfl) (fun _ _ _ h => h) (by rfl) ?_ (by assumption) ?_
            rotate_left 1
            · (intro w hSw; (try dsimp only at hSw); go_simp; try with_reducible rfl)
            simp only [Act.put, List.setIfInBounds_toArray, List.set_cons_succ, List.set_cons_zero]
            refine take_yes 3 33 (v := ?_) rfl rfl (by kernel_rfl) (by kernel_rfl) (by kernel_rfl) (fun _ _ _ h => h) (by rfl) ?_ (by assumption) ?_
            rotate_left 1
            · (intro w hSw; (try dsimp only at hSw); go_simp; try with_reducible rfl)
            simp only [Act.put, List.setIfInBounds_toArray, List.set_cons_succ, List.set_cons_zero]
            refine take_yes 4 34 (v := ?_) rfl rfl (by kernel_rfl) (by kernel_rfl) (by kernel_rfl) (fun _ _ _ h => h) (by rfl) ?_ (by assumption) ?_
            rotate_left 1
            · (intro w hSw; (try dsimp only at hSw); go_simp; try with_reducible rfl)
            simp only [Act.put, List.setIfInBounds_toArray, List.set_cons_succ, List.set_cons_zero]
            refine take_no 5 35 rfl rfl (by kernel_rfl) (by kernel_rfl) (by kernel_rfl) (fun _ _ _ h => h) (by rfl) (by assumption) ?_
            simp only [Act.put, List.setIfInBounds_toArray, List.set_cons_succ, List.set_cons_zero]
            refine take_no 6 36 rfl rfl (by kernel_rfl) (by kernel_rfl) (by kernel_rfl) (fun _ _ _ h => h) (by rfl) (by assumption) ?_
            simp only [Act.put, List.setIfInBounds_toArray, List.set_cons_succ, List.set_cons_zero]
            refine take_no 7 37 rfl rfl (by kernel_rfl) (by kernel_rfl) (by kernel_rfl) (fun _ _ _ h => h) (by rfl) (by assumption) ?_
            simp only [Act.put, List.setIfInBounds_toArray, List.set_cons_succ, List.set_cons_zero]
            refine take_no 8 38 rfl rfl (by kernel_rfl) (by kernel_rfl) (by kernel_rfl) (fun _ _ _ h => h) (by rfl) (by assumption) ?_
            simp only [Act.put, List.setIfInBounds_toArray, List.set_cons_succ, List.set_cons_zero]
            refine take_no 9 39 rfl rfl (by kernel_rfl) (by kernel_rfl) (by kernel_rfl) (fun _ _ _ h => h) (by rfl) (by assumption) ?_
            simp only [Act.put, List.setIfInBounds_toArray, List.set_cons_succ, List.set_cons_zero]
            refine take_no 10 40 rfl rfl (by kernel_rfl) (by kernel_rfl) (by kernel_rfl) (fun _ _ _ h => h) (by rfl) (by assumption) ?_
            simp only [Act.put, List.setIfInBounds_toArray, List.set_cons_succ, List.set_cons_zero]
            refine take_no 11 41 rfl rfl (by kernel_rfl) (by kernel_rfl) (by kernel_rfl) (fun _ _ _ h => h) (by rfl) (by assumption) ?_
            simp only [Act.put, List.setIfInBounds_toArray, List.set_cons_succ, List.set_cons_zero]
            refine take_yes 12 42 (v := ?_) rfl rfl (by kernel_rfl) (by kernel_rfl) (by kernel_rfl) (fun _ _ _ h => h) (by rfl) ?_ (by assumption) ?_
            rotate_left 1
            · (intro w hSw; (try dsimp only at hSw); go_simp; try with_reducible rfl)
            simp only [Act.put, List.setIfInBounds_toArray, List.set_cons_succ, List.set_cons_zero]
            refine take_yes 13 43 (v := ?_) rfl rfl (by kernel_rfl) (by kernel_rfl) (by kernel_rfl) (fun _ _ _ h => h) (by rfl) ?_ (by assumption) ?_
            rotate_left 1
            · (intro w hSw; (try dsimp only at hSw); go_simp; try with_reducible rfl)
            simp only [Act.put, List.setIfInBounds_toArray, List.set_cons_succ, List.set_cons_zero]
            refine take_yes 14 44 (v := ?_) rfl rfl (by kernel_rfl) (by kernel_rfl) (by kernel_rfl) (fun _ _ _ h => h) (by rfl) ?_ (by assumption) ?_
            rotate_left 1
            · (intro w hSw; (try dsimp only at hSw); go_simp; try with_reducible rfl)
            simp only [Act.put, List.setIfInBounds_toArray, List.set_cons_succ, List.set_cons_zero]
            refine take_yes 15 45 (v := ?_) rfl rfl (by kernel_rfl) (by kernel_rfl) (by kernel_rfl) (fun _ _ _ h => h) (by rfl) ?_ (by assumption) ?_
            rotate_left 1
            · (intro w hSw; (try dsimp only at hSw); go_simp; try with_reducible rfl)
            simp only [Act.put, List.setIfInBounds_toArray, List.set_cons_succ, List.set_cons_zero]
            refine take_yes 16 46 (v := ?_) rfl rfl (by kernel_rfl) (by kernel_rfl) (by kernel_rfl) (fun _ _ _ h => h) (by rfl) ?_ (by assumption) ?_
            rotate_left 1
            · (intro w hSw; (try dsimp only at hSw); go_simp; try with_reducible rfl)
            simp only [Act.put, List.setIfInBounds_toArray, List.set_cons_succ, List.set_cons_zero]
            refine take_yes 17 47 (v := ?_) rfl rfl (by kernel_rfl) (by kernel_rfl) (by kernel_rfl) (fun _ _ _ h => h) (by rfl) ?_ (by assumption) ?_
            rotate_left 1
            · (intro w hSw; (try dsimp only at hSw); go_simp; try with_reducible rfl)
            simp only [Act.put, List.setIfInBounds_toArray, List.set_cons_succ, List.set_cons_zero]
            refine take_yes 18 48 (v := ?_) rfl rfl (by kernel_rfl) (by kernel_rfl) (by kernel_rfl) (fun _ _ _ h => h) (by rfl) ?_ (by assumption) ?_
            rotate_left 1
            · (intro w hSw; (try dsimp only at hSw); go_simp; try with_reducible rfl)
            simp only [Act.put, List.setIfInBounds_toArray, List.set_cons_succ, List.set_cons_zero]
            refine take_yes 20 50 (v := ?_) rfl rfl (by kernel_rfl) (by kernel_rfl) (by kernel_rfl) (fun _ _ _ h => h) (by rfl) ?_ (by assumption) ?_
            rotate_left 1
            · (intro w hSw; (try dsimp only at hSw); go_simp; try with_reducible rfl)
            simp only [Act.put, List.setIfInBounds_toArray, List.set_cons_succ, List.set_cons_zero]
            refine take_yes 21 51 (v := ?_) rfl rfl (by kernel_rfl) (by kernel_rfl) (by kernel_rfl) (fun _ _ _ h => h) (by rfl) ?_ (by assumption) ?_
            rotate_left 1
            · (intro w hSw; (try dsimp only at hSw); go_simp; try with_reducible rfl)
            simp only [Act.put, List.setIfInBounds_toArray, List.set_cons_succ, List.set_cons_zero]
            refine take_yes 22 52 (v := ?_) rfl rfl (by kernel_rfl) (by kernel_rfl) (by kernel_rfl) (fun _ _ _ h => h) (by rfl) ?_ (by assumption) ?_
            rotate_left 1
            · (intro w hSw; (try dsimp only at hSw); go_simp; try with_reducible rfl)
            simp only [Act.put, List.setIfInBounds_toArray, List.set_cons_succ, List.set_cons_zero]
            refine take_yes 23 53 (v := ?_) rfl rfl (by kernel_rfl) (by kernel_rfl) (by kernel_rfl) (fun _ _ _ h => h) (by rfl) ?_ (by assumption) ?_
            rotate_left 1
            · (intro w hSw; (try dsimp only at hSw); go_simp; try with_reducible rfl)
            simp only [Act.put, List.setIfInBounds_toArray, List.set_cons_succ, List.set_cons_zero]
            refine take_yes 24 54 (v := ?_) rfl rfl (by kernel_rfl) (by kernel_rfl) (by kernel_rfl) (fun _ _ _ h => h) (by rfl) ?_ (by assumption) ?_
            rotate_left 1
            · (intro w hSw; (try dsimp only at hSw); go_simp; try with_reducible rfl)
            simp only [Act.put, List.setIfInBounds_toArray, List.set_cons_succ, List.set_cons_zero]
            refine take_yes 25 55 (v := ?_) rfl rfl (by kernel_rfl) (by kernel_rfl) (by kernel_rfl) (fun _ _ _ h => h) (by rfl) ?_ (by assumption) ?_
            rotate_left 1
            · (intro w hSw; (try dsimp only at hSw); go_simp; try with_reducible rfl)
            simp only [Act.put, List.setIfInBounds_toArray, List.set_cons_succ, List.set_cons_zero]
            refine take_yes 26 56 (v := ?_) rfl rfl (by kernel_rfl) (by kernel_rfl) (by kernel_rfl) (fun _ _ _ h => h) (by rfl) ?_ (by assumption) ?_
            rotate_left 1
            · (intro w hSw; (try dsimp only at hSw); go_simp; try with_reducible rfl)
            simp only [Act.put, List.setIfInBounds_toArray, List.set_cons_succ, List.set_cons_zero]
            refine take_yes 27 57 (v := ?_) rfl rfl (by kernel_rfl) (by kernel_rfl) (by kernel_rfl) (fun _ _ _ h => h) (by rfl) ?_ (by assumption) ?_
            rotate_left 1
            · (intro w hSw; (try dsimp only at hSw); go_simp; try with_reducible rfl)
            simp only [Act.put, List.setIfInBounds_toArray, List.set_cons_succ, List.set_cons_zero]
            refine take_yes 28 58 (v := ?_) rfl rfl (by kernel_rfl) (by kernel_rfl) (by kernel_rfl) (fun _ _ _ h => h) (by rfl) ?_ (by assumption) ?_
            rotate_left 1
            · (intro w hSw; (try dsimp only at hSw); go_simp; try with_reducible rfl)
            simp only [Act.put, List.setIfInBounds_toArray, List.set_cons_succ, List.set_cons_zero]
            refine take_yes 29 59 (v := ?_) rfl rfl (by kernel_rfl) (by kernel_rfl) (by kernel_rfl) (fun _ _ _ h => h) (by rfl) ?_ (by assumption) ?_
            rotate_left 1
            · (intro w hSw; (try dsimp only at hSw); go_simp; try with_reducible rfl)
            simp only [Act.put, List.setIfInBounds_toArray, List.set_cons_succ, List.set_cons_zero]
            refine wpAnyH_ready (rs := [19]) (by kernel_rfl) (by simp) ?_
            refine AllReadyH.cons rfl (fun K hK => ?_) AllReadyH.nil
            go_simp
            refine (findIn_any _ a c l o3 hl ?_).mono ?_
            · exact hP2
            rintro e w4 ⟨rfl, hb4⟩
            have hb4' : Below w2.heap.size w2 w4 := ((Below.refl _ w2).drew).trans hb4
            have t_4 := (hT2.keep hb4').at 0 rfl
            have hO_4 := hO2.keep hb4'
            have k4_2 := hO_4.at 2 rfl
            have k4_3 := hO_4.at 3 rfl
            have k4_4 := hO_4.at 4 rfl
            have k4_8 := hO_4.at 8 rfl
            go_wp2_with fail
            refine hK.out _ _ ?_ (fun hHeld => ?_)
            · (try dsimp only); go_keep
            clear hK K
            refine take_yes 30 60 (v := ?_) rfl rfl (by kernel_rfl) (by kernel_rfl) (by kernel_rfl) (fun _ _ _ h => h) (by rfl) ?_ (by assumption) ?_
            rotate_left 1
            · (intro w hSw; (try dsimp only at hSw); go_simp; try with_reducible rfl)
            simp only [Act.put, List.setIfInBounds_toArray, List.set_cons_succ, List.set_cons_zero]
            refine take_yes 31 61 (v := ?_) rfl rfl (by kernel_rfl) (by kernel_rfl) (by kernel_rfl) (fun _ _ _ h => h) (by rfl) ?_ (by assumption) ?_
            rotate_left 1
            · (intro w hSw; (try dsimp only at hSw); go_simp; try with_reducible rfl)
            simp only [Act.put, List.setIfInBounds_toArray, List.set_cons_succ, List.set_cons_zero]
            refine wpAnyH_done (by kernel_rfl) ?_ _
            go_wp2
            go_meet
            case rel => exact ⟨by rw [HX.out], hb4'⟩
          · have h1' : (p1 != 0) = true := by simpa using h1
            by_cases h2 : p1 = o3
            · subst h2
              have HX : Hid (badB l ((o1, o2, (p1, o4, o5), o6, o7), true, (p1, p2, p3)) = !eqPl ((find l p1).1, (find l p1).2.1, (find l p1).2.2) (p1, o4, o5)) := bad_eq l _ (by simp)
              have h2' : (p1 != p1) = false := by simp
              clear h1
              refine wp_region_held_drew (S := (fun w' => w'.cell? ⟨w.heap.size, 0, none⟩ = some (.slice a l.length c) ∧ w'.cell? ⟨w.heap.size + 1, 2, none⟩ = some (.int .i64 p1) ∧ w'.cell? ⟨w.heap.size + 1, 3, none⟩ = some (.int .i64 o4) ∧ w'.cell? ⟨w.heap.size + 1, 4, none⟩ = some (.int .i64 o5) ∧ w'.cell? ⟨w.heap.size + 1, 8, none⟩ = some (.int .i64 p1))) (by kernel_rfl) ?_ (fun hHeld => ?_)
              · (try dsimp only); go_keep
              refine take_yes 0 30 (v := ?_) rfl rfl (by kernel_rfl) (by kernel_rfl) (by kernel_rfl) (fun _ _ _ h => h) (by rfl) ?_ (by assumption) ?_
              rotate_left 1
              · (intro w hSw; (try dsimp only at hSw); go_simp; try with_reducible rfl)
              simp only [Act.put, List.setIfInBounds_toArray, List.set_cons_succ, List.set_cons_zero]
              refine take_yes 1 31 (v := ?_) rfl rfl (by kernel_rfl) (by kernel_rfl) (by kernel_rfl) (fun _ _ _ h => h) (by rfl) ?_ (by assumption) ?_
              rotate_left 1
              · (intro w hSw; (try dsimp only at hSw); go_simp; try with_reducible rfl)
              simp only [Act.put, List.setIfInBounds_toArray, List.set_cons_succ, List.set_cons_zero]
              refine take_yes 2 32 (v := ?_) rfl rfl (by kernel_rfl) (by kernel_rfl) (by kernel_rfl) (fun _ _ _ h => h) (by rfl) ?_ (by assumption) ?_
              rotate_left 1
              · (intro w hSw; (try dsimp only at hSw); go_simp; try with_reducible rfl)
              simp only [Act.put, List.setIfInBounds_toArray, List.set_cons_succ, List.set_cons_zero]
              refine take_yes 3 33 (v := ?_) rfl rfl (by kernel_rfl) (by kernel_rfl) (by kernel_rfl) (fun _ _ _ h => h) (by rfl) ?_ (by assumption) ?_
              rotate_left 1
              · (intro w hSw; (try dsimp only at hSw); go_simp; try with_reducible rfl)
              simp only [Act.put, List.setIfInBounds_toArray, List.set_cons_succ, List.set_cons_zero]
              refine take_yes 4 34 (v := ?_) rfl rfl (by kernel_rfl) (by kernel_rfl) (by kernel_rfl) (fun _ _ _ h => h) (by rfl) ?_ (by assumption) ?_
              rotate_left 1
              · (intro w hSw; (try dsimp only at hSw); go_simp; try with_reducible rfl)
              simp only [Act.put, List.setIfInBounds_toArray, List.set_cons_succ, List.set_cons_zero]
              refine take_yes 5 35 (v := ?_) rfl rfl (by kernel_rfl) (by kernel_rfl) (by kernel_rfl) (fun _ _ _ h => h) (by rfl) ?_ (by assumption) ?_
              rotate_left 1
              · (intro w hSw; (try dsimp only at hSw); go_simp; try with_reducible rfl)
              simp only [Act.put, List.setIfInBounds_toArray, List.set_cons_succ, List.set_cons_zero]
              refine take_yes 6 36 (v := ?_) rfl rfl (by kernel_rfl) (by kernel_rfl) (by kernel_rfl) (fun _ _ _ h => h) (by rfl) ?_ (by assumption) ?_
              rotate_left 1
              · (intro w hSw; (try dsimp only at hSw); go_simp; try with_reducible rfl)
              simp only [Act.put, List.setIfInBounds_toArray, List.set_cons_succ, List.set_cons_zero]
              refine take_yes 7 37 (v := ?_) rfl rfl (by kernel_rfl) (by kernel_rfl) (by kernel_rfl) (fun _ _ _ h => h) (by rfl) ?_ (by assumption) ?_
              rotate_left 1
              · (intro w hSw; (try dsimp only at hSw); go_simp; try with_reducible rfl)
              simp only [Act.put, List.setIfInBounds_toArray, List.set_cons_succ, List.set_cons_zero]
              refine take_yes 8 38 (v := ?_) rfl rfl (by kernel_rfl) (by kernel_rfl) (by kernel_rfl) (fun _ _ _ h => h) (by rfl) ?_ (by assumption) ?_
              rotate_left 1
              · (intro w hSw; (try dsimp only at hSw); go_simp; try with_reducible rfl)
              simp only [Act.put, List.setIfInBounds_toArray, List.set_cons_succ, List.set_cons_zero]
              refine take_yes 9 39 (v := ?_) rfl rfl (by kernel_rfl) (by kernel_rfl) (by kernel_rfl) (fun _ _ _ h => h) (by rfl) ?_ (by assumption) ?_
              rotate_left 1
              · (intro w hSw; (try dsimp only at hSw); go_simp; try with_reducible rfl)
              simp only [Act.put, List.setIfInBounds_toArray, List.set_cons_succ, List.set_cons_zero]
              refine take_yes 10 40 (v := ?_) rfl rfl (by kernel_rfl) (by kernel_rfl) (by kernel_rfl) (fun _ _ _ h => h) (by rfl) ?_ (by assumption) ?_
              rotate_left 1
              · (intro w hSw; (try dsimp only at hSw); go_simp; try with_reducible rfl)
              simp only [Act.put, List.setIfInBounds_toArray, List.set_cons_succ, List.set_cons_zero]
              refine take_yes 11 41 (v := ?_) rfl rfl (by kernel_rfl) (by kernel_rfl) (by kernel_rfl) (fun _ _ _ h => h) (by rfl) ?_ (by assumption) ?_
              rotate_left 1
              · (intro w hSw; (try dsimp only at hSw); go_simp; try with_reducible rfl)
              simp only [Act.put, List.setIfInBounds_toArray, List.set_cons_succ, List.set_cons_zero]
              refine take_yes 12 42 (v := ?_) rfl rfl (by kernel_rfl) (by kernel_rfl) (by kernel_rfl) (fun _ _ _ h => h) (by rfl) ?_ (by assumption) ?_
              rotate_left 1
              · (intro w hSw; (try dsimp only at hSw); go_simp; try with_reducible rfl)
              simp only [Act.put, List.setIfInBounds_toArray, List.set_cons_succ, List.set_cons_zero]
              refine take_yes 13 43 (v := ?_) rfl rfl (by kernel_rfl) (by kernel_rfl) (by kernel_rfl) (fun _ _ _ h => h) (by rfl) ?_ (by assumption) ?_
              rotate_left 1
              · (intro w hSw; (try dsimp only at hSw); go_simp; try with_reducible rfl)
              simp only [Act.put, List.setIfInBounds_toArray, List.set_cons_succ, List.set_cons_zero]
              refine take_yes 14 44 (v := ?_) rfl rfl (by kernel_rfl) (by kernel_rfl) (by kernel_rfl) (fun _ _ _ h => h) (by rfl) ?_ (by assumption) ?_
              rotate_left 1
              · (intro w hSw; (try dsimp only at hSw); go_simp; try with_reducible rfl)
              simp only [Act.put, List.setIfInBounds_toArray, List.set_cons_succ, List.set_cons_zero]
              refine take_yes 15 45 (v := ?_) rfl rfl (by kernel_rfl) (by kernel_rfl) (by kernel_rfl) (fun _ _ _ h => h) (by rfl) ?_ (by assumption) ?_
              rotate_left 1
              · (intro w hSw; (try dsimp only at hSw); go_simp; try with_reducible rfl)
              simp only [Act.put, List.setIfInBounds_toArray, List.set_cons_succ, List.set_cons_zero]
              refine take_yes 16 46 (v := ?_) rfl rfl (by kernel_rfl) (by kernel_rfl) (by kernel_rfl) (fun _ _ _ h => h) (by rfl) ?_ (by assumption) ?_
              rotate_left 1
              · (intro w hSw; (try dsimp only at hSw); go_simp; try with_reducible rfl)
              simp only [Act.put, List.setIfInBounds_toArray, List.set_cons_succ, List.set_cons_zero]
              refine take_yes 17 47 (v := ?_) rfl rfl (by kernel_rfl) (by kernel_rfl) (by kernel_rfl) (fun _ _ _ h => h) (by rfl) ?_ (by assumption) ?_
              rotate_left 1
              · (intro w hSw; (try dsimp only at hSw); go_simp; try with_reducible rfl)
              simp only [Act.put, List.setIfInBounds_toArray, List.set_cons_succ, List.set_cons_zero]
              refine take_yes 18 48 (v := ?_) rfl rfl (by kernel_rfl) (by kernel_rfl) (by kernel_rfl) (fun _ _ _ h => h) (by rfl) ?_ (by assumption) ?_
              rotate_left 1
              · (intro w hSw; (try dsimp only at hSw); go_simp; try with_reducible rfl)
              simp only [Act.put, List.setIfInBounds_toArray, List.set_cons_succ, List.set_cons_zero]
              refine take_yes 20 50 (v := ?_) rfl rfl (by kernel_rfl) (by kernel_rfl) (by kernel_rfl) (fun _ _ _ h => h) (by rfl) ?_ (by assumption) ?_
              rotate_left 1
              · (intro w hSw; (try dsimp only at hSw); go_simp; try with_reducible rfl)
              simp only [Act.put, List.setIfInBounds_toArray, List.set_cons_succ, List.set_cons_zero]
              refine take_yes 21 51 (v := ?_) rfl rfl (by kernel_rfl) (by kernel_rfl) (by kernel_rfl) (fun _ _ _ h => h) (by rfl) ?_ (by assumption) ?_
              rotate_left 1
              · (intro w hSw; (try dsimp only at hSw); go_simp; try with_reducible rfl)
              simp only [Act.put, List.setIfInBounds_toArray, List.set_cons_succ, List.set_cons_zero]
              refine take_yes 22 52 (v := ?_) rfl rfl (by kernel_rfl) (by kernel_rfl) (by kernel_rfl) (fun _ _ _ h => h) (by rfl) ?_ (by assumption) ?_
              rotate_left 1
              · (intro w hSw; (try dsimp only at hSw); go_simp; try with_reducible rfl)
              simp only [Act.put, List.setIfInBounds_toArray, List.set_cons_succ, List.set_cons_zero]
              refine take_yes 23 53 (v := ?_) rfl rfl (by kernel_rfl) (by kernel_rfl) (by kernel_rfl) (fun _ _ _ h => h) (by rfl) ?_ (by assumption) ?_
              rotate_left 1
              · (intro w hSw; (try dsimp only at hSw); go_simp; try with_reducible rfl)
              simp only [Act.put, List.setIfInBounds_toArray, List.set_cons_succ, List.set_cons_zero]
              refine take_yes 24 54 (v := ?_) rfl rfl (by kernel_rfl) (by kernel_rfl) (by kernel_rfl) (fun _ _ _ h => h) (by rfl) ?_ (by assumption) ?_
              rotate_left 1
              · (intro w hSw; (try dsimp only at hSw); go_simp; try with_reducible rfl)
              simp only [Act.put, List.setIfInBounds_toArray, List.set_cons_succ, List.set_cons_zero]
              refine take_yes 25 55 (v := ?_) rfl rfl (by kernel_rfl) (by kernel_rfl) (by kernel_rfl) (fun _ _ _ h => h) (by rfl) ?_ (by assumption) ?_
              rotate_left 1
              · (intro w hSw; (try dsimp only at hSw); go_simp; try with_reducible rfl)
              simp only [Act.put, List.setIfInBounds_toArray, List.set_cons_succ, List.set_cons_zero]
              refine take_yes 26 56 (v := ?_) rfl rfl (by kernel_rfl) (by kernel_rfl) (by kernel_rfl) (fun _ _ _ h => h) (by rfl) ?_ (by assumption) ?_
              rotate_left 1
              · (intro w hSw; (try dsimp only at hSw); go_simp; try with_reducible rfl)
              simp only [Act.put, List.setIfInBounds_toArray, List.set_cons_succ, List.set_cons_zero]
              refine take_yes 27 57 (v := ?_) rfl rfl (by kernel_rfl) (by kernel_rfl) (by kernel_rfl) (fun _ _ _ h => h) (by rfl) ?_ (by assumption) ?_
              rotate_left 1
              · (intro w hSw; (try dsimp only at hSw); go_simp; try with_reducible rfl)
              simp only [Act.put, List.setIfInBounds_toArray, List.set_cons_succ, List.set_cons_zero]
              refine take_yes 28 58 (v := ?_) rfl rfl (by kernel_rfl) (by kernel_rfl) (by kernel_rfl) (fun _ _ _ h => h) (by rfl) ?_ (by assumption) ?_
              rotate_left 1
              · (intro w hSw; (try dsimp only at hSw); go_simp; try with_reducible rfl)
              simp only [Act.put, List.setIfInBounds_toArray, List.set_cons_succ, List.set_cons_zero]
              refine take_yes 29 59 (v := ?_) rfl rfl (by kernel_rfl) (by kernel_rfl) (by kernel_rfl) (fun _ _ _ h => h) (by rfl) ?_ (by assumption) ?_
              rotate_left 1
              · (intro w hSw; (try dsimp only at hSw); go_simp; try with_reducible rfl)
              simp only [Act.put, List.setIfInBounds_toArray, List.set_cons_succ, List.set_cons_zero]
              refine wpAnyH_ready (rs := [19]) (by kernel_rfl) (by simp) ?_
              refine AllReadyH.cons rfl (fun K hK => ?_) AllReadyH.nil
              go_simp
              refine (findIn_any _ a c l p1 hl ?_).mono ?_
              · exact hP2
              rintro e w4 ⟨rfl, hb4⟩
              have hb4' : Below w2.heap.size w2 w4 := ((Below.refl _ w2).drew).trans hb4
              have t_4 := (hT2.keep hb4').at 0 rfl
              have hO_4 := hO2.keep hb4'
              have k4_2 := hO_4.at 2 rfl
              have k4_3 := hO_4.at 3 rfl
              have k4_4 := hO_4.at 4 rfl
              have k4_8 := hO_4.at 8 rfl
              go_wp2_with fail
              refine hK.out _ _ ?_ (fun hHeld => ?_)
              · (try dsimp only); go_keep
              clear hK K
              refine take_yes 30 60 (v := ?_) rfl rfl (by kernel_rfl) (by kernel_rfl) (by kernel_rfl) (fun _ _ _ h => h) (by rfl) ?_ (by assumption) ?_
              rotate_left 1
              · (intro w hSw; (try dsimp only at hSw); go_simp; try with_reducible rfl)
              simp only [Act.put, List.setIfInBounds_toArray, List.set_cons_succ, List.set_cons_zero]
              refine take_yes 31 61 (v := ?_) rfl rfl (by kernel_rfl) (by kernel_rfl) (by kernel_rfl) (fun _ _ _ h => h) (by rfl) ?_ (by assumption) ?_
              rotate_left 1
              · (intro w hSw; (try dsimp only at hSw); go_simp; try with_reducible rfl)
              simp only [Act.put, List.setIfInBounds_toArray, List.set_cons_succ, List.set_cons_zero]
              refine wpAnyH_done (by kernel_rfl) ?_ _
              go_wp2
              go_meet
              case rel => exact ⟨by rw [HX.out], hb4'⟩
            · have h2' : (p1 != o3) = true := by simpa using h2
              have HX : Hid (badB l ((o1, o2, (o3, o4, o5), o6, o7), true, (p1, p2, p3)) = true) := by show _ = _; simp [badB, h1, h2]
              clear h1 h2
              refine wp_region_held_drew (S := (fun w' => w'.cell? ⟨w.heap.size, 0, none⟩ = some (.slice a l.length c) ∧ w'.cell? ⟨w.heap.size + 1, 2, none⟩ = some (.int .i64 o3) ∧ w'.cell? ⟨w.heap.size + 1, 3, none⟩ = some (.int .i64 o4) ∧ w'.cell? ⟨w.heap.size + 1, 4, none⟩ = some (.int .i64 o5) ∧ w'.cell? ⟨w.heap.size + 1, 8, none⟩ = some (.int .i64 p1))) (by kernel_rfl) ?_ (fun hHeld => ?_)
              · (try dsimp only); go_keep
              refine take_yes 0 30 (v := ?_) rfl rfl (by kernel_rfl) (by kernel_rfl) (by kernel_rfl) (fun _ _ _ h => h) (by rfl) ?_ (by assumption) ?_
              rotate_left 1
              · (intro w hSw; (try dsimp only at hSw); go_simp; try with_reducible rfl)
              simp only [Act.put, List.setIfInBounds_toArray, List.set_cons_succ, List.set_cons_zero]
              refine take_yes 1 31 (v := ?_) rfl rfl (by kernel_rfl) (by kernel_rfl) (by kernel_rfl) (fun _ _ _ h => h) (by rfl) ?_ (by assumption) ?_
              rotate_left 1
              · (intro w hSw; (try dsimp only at hSw); go_simp; try with_reducible rfl)
              simp only [Act.put, List.setIfInBounds_toArray, List.set_cons_succ, List.set_cons_zero]
              refine take_yes 2 32 (v := ?_) rfl rfl (by kernel_rfl) (by kernel_rfl) (by kernel_rfl) (fun _ _ _ h => h) (by rfl) ?_ (by assumption) ?_
              rotate_left 1
              · (intro w hSw; (try dsimp only at hSw); go_simp; try with_reducible rfl)
              simp only [Act.put, List.setIfInBounds_toArray, List.set_cons_succ, List.set_cons_zero]
              refine take_yes 3 33 (v := ?_) rfl rfl (by kernel_rfl) (by kernel_rfl) (by kernel_rfl) (fun _ _ _ h => h) (by rfl) ?_ (by assumption) ?_
              rotate_left 1
              · (intro w hSw; (try dsimp only at hSw); go_simp; try with_reducible rfl)
              simp only [Act.put, List.setIfInBounds_toArray, List.set_cons_succ, List.set_cons_zero]
              refine take_yes 4 34 (v := ?_) rfl rfl (by kernel_rfl) (by kernel_rfl) (by kernel_rfl) (fun _ _ _ h => h) (by rfl) ?_ (by assumption) ?_
              rotate_left 1
              · (intro w hSw; (try dsimp only at hSw); go_simp; try with_reducible rfl)
              simp only [Act.put, List.setIfInBounds_toArray, List.set_cons_succ, List.set_cons_zero]
              refine take_yes 5 35 (v := ?_) rfl rfl (by kernel_rfl) (by kernel_rfl) (by kernel_rfl) (fun _ _ _ h => h) (by rfl) ?_ (by assumption) ?_
              rotate_left 1
              · (intro w hSw; (try dsimp only at hSw); go_simp; try with_reducible rfl)
              simp only [Act.put, List.setIfInBounds_toArray, List.set_cons_succ, List.set_cons_zero]
              refine take_yes 6 36 (v := ?_) rfl rfl (by kernel_rfl) (by kernel_rfl) (by kernel_rfl) (fun _ _ _ h => h) (by rfl) ?_ (by assumption) ?_
              rotate_left 1
              · (intro w hSw; (try dsimp only at hSw); go_simp; try with_reducible rfl)
              simp only [Act.put, List.setIfInBounds_toArray, List.set_cons_succ, List.set_cons_zero]
              refine take_yes 7 37 (v := ?_) rfl rfl (by kernel_rfl) (by kernel_rfl) (by kernel_rfl) (fun _ _ _ h => h) (by rfl) ?_ (by assumption) ?_
              rotate_left 1
              · (intro w hSw; (try dsimp only at hSw); go_simp; try with_reducible rfl)
              simp only [Act.put, List.setIfInBounds_toArray, List.set_cons_succ, List.set_cons_zero]
              refine take_yes 8 38 (v := ?_) rfl rfl (by kernel_rfl) (by kernel_rfl) (by kernel_rfl) (fun _ _ _ h => h) (by rfl) ?_ (by assumption) ?_
              rotate_left 1
              · (intro w hSw; (try dsimp only at hSw); go_simp; try with_reducible rfl)
              simp only [Act.put, List.setIfInBounds_toArray, List.set_cons_succ, List.set_cons_zero]
              refine take_yes 9 39 (v := ?_) rfl rfl (by kernel_rfl) (by kernel_rfl) (by kernel_rfl) (fun _ _ _ h => h) (by rfl) ?_ (by assumption) ?_
              rotate_left 1
              · (intro w hSw; (try dsimp only at hSw); go_simp; try with_reducible rfl)
              simp only [Act.put, List.setIfInBounds_toArray, List.set_cons_succ, List.set_cons_zero]
              refine take_yes 10 40 (v := ?_) rfl rfl (by kernel_rfl) (by kernel_rfl) (by kernel_rfl) (fun _ _ _ h => h) (by rfl) ?_ (by assumption) ?_
              rotate_left 1
              · (intro w hSw; (try dsimp only at hSw); go_simp; try with_reducible rfl)
              simp only [Act.put, List.setIfInBounds_toArray, List.set_cons_succ, List.set_cons_zero]
              refine take_yes 11 41 (v := ?_) rfl rfl (by kernel_rfl) (by kernel_rfl) (by kernel_rfl) (fun _ _ _ h => h) (by rfl) ?_ (by assumption) ?_
              rotate_left 1
              · (intro w hSw; (try dsimp only at hSw); go_simp; try with_reducible rfl)
              simp only [Act.put, List.setIfInBounds_toArray, List.set_cons_succ, List.set_cons_zero]
              refine take_yes 12 42 (v := ?_) rfl rfl (by kernel_rfl) (by kernel_rfl) (by kernel_rfl) (fun _ _ _ h => h) (by rfl) ?_ (by assumption) ?_
              rotate_left 1
              · (intro w hSw; (try dsimp only at hSw); go_simp; try with_reducible rfl)
              simp only [Act.put, List.setIfInBounds_toArray, List.set_cons_succ, List.set_cons_zero]
              refine take_yes 13 43 (v := ?_) rfl rfl (by kernel_rfl) (by kernel_rfl) (by kernel_rfl) (fun _ _ _ h => h) (by rfl) ?_ (by assumption) ?_
              rotate_left 1
              · (intro w hSw; (try dsimp only at hSw); go_simp; try with_reducible rfl)
              simp only [Act.put, List.setIfInBounds_toArray, List.set_cons_succ, List.set_cons_zero]
              refine take_no 14 44 rfl rfl (by kernel_rfl) (by kernel_rfl) (by kernel_rfl) (fun _ _ _ h => h) (by rfl) (by assumption) ?_
              simp only [Act.put, List.setIfInBounds_toArray, List.set_cons_succ, List.set_cons_zero]
              refine take_no 15 45 rfl rfl (by kernel_rfl) (by kernel_rfl) (by kernel_rfl) (fun _ _ _ h => h) (by rfl) (by assumption) ?_
              simp only [Act.put, List.setIfInBounds_toArray, List.set_cons_succ, List.set_cons_zero]
              refine take_no 16 46 rfl rfl (by kernel_rfl) (by kernel_rfl) (by kernel_rfl) (fun _ _ _ h => h) (by rfl) (by assumption) ?_
              simp only [Act.put, List.setIfInBounds_toArray, List.set_cons_succ, List.set_cons_zero]
              refine take_no 17 47 rfl rfl (by kernel_rfl) (by kernel_rfl) (by kernel_rfl) (fun _ _ _ h => h) (by rfl) (by assumption) ?_
              simp only [Act.put, List.setIfInBounds_toArray, List.set_cons_succ, List.set_cons_zero]
              refine take_no 18 48 rfl rfl (by kernel_rfl) (by kernel_rfl) (by kernel_rfl) (fun _ _ _ h => h) (by rfl) (by assumption) ?_
              simp only [Act.put, List.setIfInBounds_toArray, List.set_cons_succ, List.set_cons_zero]
              refine take_no 19 49 rfl rfl (by kernel_rfl) (by kernel_rfl) (by kernel_rfl) (fun _ _ _ h => h) (by rfl) (by assumption) ?_
              simp only [Act.put, List.setIfInBounds_toArray, List.set_cons_succ, List.set_cons_zero]
              refine take_no 20 50 rfl rfl (by kernel_rfl) (by kernel_rfl) (by kernel_rfl) (fun _ _ _ h => h) (by rfl) (by assumption) ?_
              simp only [Act.put, List.setIfInBounds_toArray, List.set_cons_succ, List.set_cons_zero]
              refine take_no 21 51 rfl rfl (by kernel_rfl) (by kernel_rfl) (by kernel_rfl) (fun _ _ _ h => h) (by rfl) (by assumption) ?_
              simp only [Act.put, List.setIfInBounds_toArray, List.set_cons_succ, List.set_cons_zero]
              refine take_no 22 52 rfl rfl (by kernel_rfl) (by kernel_rfl) (by kernel_rfl) (fun _ _ _ h => h) (by rfl) (by assumption) ?_
              simp only [Act.put, List.setIfInBounds_toArray, List.set_cons_succ, List.set_cons_zero]
              refine take_no 23 53 rfl rfl (by kernel_rfl) (by kernel_rfl) (by kernel_rfl) (fun _ _ _ h => h) (by rfl) (by assumption) ?_
              simp only [Act.put, List.setIfInBounds_toArray, List.set_cons_succ, List.set_cons_zero]
              refine take_no 24 54 rfl rfl (by kernel_rfl) (by kernel_rfl) (by kernel_rfl) (fun _ _ _ h => h) (by rfl) (by assumption) ?_
              simp only [Act.put, List.setIfInBounds_toArray, List.set_cons_succ, List.set_cons_zero]
              refine take_no 25 55 rfl rfl (by kernel_rfl) (by kernel_rfl) (by kernel_rfl) (fun _ _ _ h => h) (by rfl) (by assumption) ?_
              simp only [Act.put, List.setIfInBounds_toArray, List.set_cons_succ, List.set_cons_zero]
              refine take_no 26 56 rfl rfl (by kernel_rfl) (by kernel_rfl) (by kernel_rfl) (fun _ _ _ h => h) (by rfl) (by assumption) ?_
              simp only [Act.put, List.setIfInBounds_toArray, List.set_cons_succ, List.set_cons_zero]
              refine take_no 27 57 rfl rfl (by kernel_rfl) (by kernel_rfl) (by kernel_rfl) (fun _ _ _ h => h) (by rfl) (by assumption) ?_
              simp only [Act.put, List.setIfInBounds_toArray, List.set_cons_succ, List.set_cons_zero]
              refine take_no 28 58 rfl rfl (by kernel_rfl) (by kernel_rfl) (by kernel_rfl) (fun _ _ _ h => h) (by rfl) (by assumption) ?_
              simp only [Act.put, List.setIfInBounds_toArray, List.set_cons_succ, List.set_cons_zero]
              refine take_no 29 59 rfl rfl (by kernel_rfl) (by kernel_rfl) (by kernel_rfl) (fun _ _ _ h => h) (by rfl) (by assumption) ?_
              simp only [Act.put, List.setIfInBounds_toArray, List.set_cons_succ, List.set_cons_zero]
              refine take_no 30 60 rfl rfl (by kernel_rfl) (by kernel_rfl) (by kernel_rfl) (fun _ _ _ h => h) (by rfl) (by assumption) ?_
              simp only [Act.put, List.setIfInBounds_toArray, List.set_cons_succ, List.set_cons_zero]
              refine take_yes 31 61 (v := ?_) rfl rfl (by kernel_rfl) (by kernel_rfl) (by kernel_rfl) (fun _ _ _ h => h) (by rfl) ?_ (by assumption) ?_
              rotate_left 1
              · (intro w hSw; (try dsimp only at hSw); go_simp; try with_reducible rfl)
              simp only [Act.put, List.setIfInBounds_toArray, List.set_cons_succ, List.set_cons_zero]
              refine wpAnyH_done (by kernel_rfl) ?_ _
              go_wp2
              go_meet
              case rel => exact ⟨by rw [HX.out], (Below.refl _ w2).drew⟩
        case rest =>
          obtain ⟨rfl, hb4⟩ := hcut
          have hT4 := hT2.keep hb4
          have hO4 := hO2.keep hb4
          have hR4 := hR2.keep hb4
          have HB4 : Hid (Below w.heap.size w wc) := HB2.out.trans (hb4.mono HB2.out.size)
          have hw4 : w.heap.size + 1 + 1 + 1 ≤ wc.heap.size := by have := hb4.size; omega
          clear hT2 hO2 hR2 hP2 HB2 hb4 t0 m0 m1 m2 m3 m4 m5 m6 m7 m8 m9 m10 r0 rf hne hgd hw2
          cases hbad : badB l ((o1, o2, (o3, o4, o5), o6, o7), true, (p1, p2, p3))
          · have HBAD : Hid (badB l ((o1, o2, (o3, o4, o5), o6, o7), true, (p1, p2, p3)) = false) := hbad
            have hby := ((Orangery.check_iff l).1 HZ.out).2.1
            have hfd : find l o3 = (o3, o4, o5) := by
              have := hbad
              simp [badB] at this
              exact this.2
            have hfz : (find l o3).1 ≠ 0 := by rw [hfd]; show o3 ≠ 0; omega
            have hwas : ¬ (p1 = 0 ∨ p2 < 0) → p1 = o3 := by
              intro hg
              have := hbad
              simp [badB] at this
              exact this.1 (by omega)
            clear hbad hfd
            obtain ⟨r, hr⟩ : ∃ r : List Pl, r = if p1 = 0 ∨ p2 < 0 then [] else [(p1, p2, p3)] := ⟨_, rfl⟩
            have hrl : r.length ≤ 1 := by rw [hr]; split <;> simp
            have HSW : Hid (undoE l ((o1, o2, (o3, o4, o5), o6, o7), true, (p1, p2, p3)) = check (swap o3 r l) ∧ (check (swap o3 r l) = 0 → undoT l ((o1, o2, (o3, o4, o5), o6, o7), true, (p1, p2, p3)) = swap o3 r l) ∧ (check (swap o3 r l) ≠ 0 → undoT l ((o1, o2, (o3, o4, o5), o6, o7), true, (p1, p2, p3)) = [])) := by
              by_cases hg : p1 = 0 ∨ p2 < 0
              · have hgn : goneB ((o1, o2, (o3, o4, o5), o6, o7), true, (p1, p2, p3)) = true := by simp [goneB]; exact hg
                have e1 : swap o3 r l = outL l o3 := by rw [hr, if_pos hg]; exact Orangery.swap_nil l o3
                have e2 := Orangery.check_out l o3 HZ.out
                have e0 : undoE l ((o1, o2, (o3, o4, o5), o6, o7), true, (p1, p2, p3)) = 0 := by unfold undoE; rw [if_neg (by simp [HZ2.out]), if_neg (by simp), if_neg (by simp [HBAD.out]), if_pos hgn]
                rw [e1]
                exact ⟨by rw [e0, e2], fun _ => by unfold undoT; rw [if_neg (by simp [e0]), if_neg (by simp), if_pos hgn], fun h => absurd e2 h⟩
              · have hgn : goneB ((o1, o2, (o3, o4, o5), o6, o7), true, (p1, p2, p3)) = false := by simp [goneB]; omega
                have e1 : swap o3 r l = inL l (p1, p2, p3) := by rw [hr, if_neg hg]; exact Orangery.swap_one l o3 (p1, p2, p3) hby hfz (hwas hg)
                have e0 : undoE l ((o1, o2, (o3, o4, o5), o6, o7), true, (p1, p2, p3)) = check (inL l (p1, p2, p3)) := by unfold undoE; rw [if_neg (by simp [HZ2.out]), if_neg (by simp), if_neg (by simp [HBAD.out]), if_neg (by simp [hgn])]
                rw [e1]
                exact ⟨e0, fun h0 => by unfold undoT; rw [if_neg (by rw [e0]; simp [h0]), if_neg (by simp), if_neg (by simp [hgn])], fun h0 => by unfold undoT; rw [if_pos (by rw [e0]; exact h0)]⟩
            have HR0 : Hid (r = if p1 = 0 ∨ p2 < 0 then [] else [(p1, p2, p3)]) := hr
            have HBY : Hid (Orangery.byNode l) := hby
            clear hr hwas hfz hby HBAD
            have hN5 := Blk.new wc [Value.slice none 0 0] 29
            have hT5 := hT4.alloc (.cells #[Value.slice none 0 0] 29)
            have hO5 := hO4.alloc (.cells #[Value.slice none 0 0] 29)
            have hR5 := hR4.alloc (.cells #[Value.slice none 0 0] 29)
            have HB5 : Hid (Below w.heap.size w (wc.alloc (.cells #[Value.slice none 0 0] 29))) := HB4.out.alloc HB4.out.size _
            have hsz5 : (wc.alloc (.cells #[Value.slice none 0 0] 29)).heap.size = wc.heap.size + 1 := by simp
            have t0 := hT4.at 0 rfl
            have n0 : ¬ wc.heap.size = w.heap.size := by omega
            have n00 : w.heap.size < wc.heap.size := by omega
            clear hT4 hO4 hR4 HB4
            go_wp2_with fail
            obtain ⟨i0, hi, hz0, hz1, hz2⟩ := info_parts infoPlace
            generalize wc.alloc (.cells #[Value.slice none 0 0] 29) = W5 at *
            generalize wc.heap.size = bo at *
            have HN5 : Hid (Blk W5 bo [Value.slice none 0 0]) := hN5
            clear hN5 t0 n0 n00 hT5
            go_loopw [9, 66] (fun x i W => ∃ (k : Nat) (put : Bool) (v : Value), k ≤ l.length ∧ x = .bool put ∧ i = .int .i64 k ∧ (put = true → ∃ j, ∃ h : j < l.length, j < k ∧ l[j].1 = o3) ∧ OwnS W (bo + 1) v (swap o3 r (l.take k)) ∧ Blk W bo [v] ∧ Below bo W5 W) (fun _ i _ => l.length - (intOf i).toNat)
            case atStart => exact ⟨0, false, .slice none 0 0, by omega, rfl, rfl, by simp, Or.inl ⟨rfl, rfl⟩, HN5.out, Below.refl _ _⟩
            case round =>
              clear HN5
              obtain ⟨k, put, v, hk, rfl, rfl, hput, hOw, hBo, hb⟩ := hrel
              have hKl := Orangery.swap_len o3 r hrl (l.take k)
              have hKl' : (swap o3 r (l.take k)).length ≤ 15 := by rw [List.length_take] at hKl; omega
              have hbw : Below w.heap.size w wr := HB5.out.trans (hb.mono (by omega))
              have hbolt := hBo.lt
              have hsz : bo + 1 ≤ wr.heap.size := hbolt
              obtain ⟨a1, c1, rfl⟩ := hOw.val
              have u0 := hBo.at 0 rfl
              have uf := hBo.frz
              clear hKl
              by_cases hlt : k < l.length
              · have hPW := HPW.out.below hbw
                rcases hPW with hPW | ⟨b, off, rfl, hbl, hp⟩
                · exact absurd hlt (by simp [hPW])
                obtain ⟨g0, g1, g2⟩ := hp k hlt
                have HT : Hid (swap o3 r (l.take (k + 1)) = swap o3 r (l.take k) ++ if l[k].1 = o3 then r else [l[k]]) := Orangery.swap_take o3 r l k hlt
                have HONCE : Hid (∀ j, ∀ h : j < l.length, l[j].1 = l[k].1 → j = k) := fun j h e => Orangery.node_once l HBY.out j k h hlt e
                have hO6 := hO5.below hb (by omega)
                have m2 := hO6.at 2 rfl
                have m8 := hO6.at 8 rfl
                have m9 := hO6.at 9 rfl
                have m10 := hO6.at 10 rfl
                have n1 : ¬ wr.heap.size = w.heap.size + 1 := by omega
                have n11 : w.heap.size + 1 < wr.heap.size := by omega
                have n2 : ¬ wr.heap.size = bo := by omega
                have n3 : ¬ wr.heap.size + 1 = bo := by omega
                have n4 : ¬ wr.heap.size + 1 = w.heap.size + 1 := by omega
                have hbl1 : ¬ wr.heap.size = b := by omega
                have hput' : put = true → l[k].1 ≠ o3 := by
                  intro h1 h2
                  obtain ⟨j, hj, hjk, hje⟩ := hput h1
                  have := HONCE.out j hj (by rw [hje, h2])
                  omega
                have HPUT : Hid (put = true → ∃ j, ∃ h : j < l.length, j < k ∧ l[j].1 = o3) := hput
                have HNODE : Hid (l[k] = l[k]) := rfl
                generalize hq : l[k] = q at *
                obtain ⟨q0, q1, q2⟩ := q
                have HQ : Hid (l[k] = (q0, q1, q2)) := hq
                clear hq hput hp HNODE
                simp only at g0 g1 g2 hput'
                generalize hK : swap o3 r (l.take k) = K at *
                have HBo : Hid (Blk wr bo [Value.slice a1 K.length c1]) := hBo
                have HOw : Hid (OwnS wr (bo + 1) (.slice a1 K.length c1) K) := hOw
                clear hBo hOw hK
                by_cases hne : q0 = o3
                · have d0 : (q0 != o3) = false := by simpa using hne
                  have hpf : put = false := by
                    cases put
                    · rfl
                    · exact absurd hne (hput' rfl)
                  subst hpf
                  by_cases hg : p1 = 0 ∨ p2 < 0
                  · have HF : Hid ((if ((q0, q1, q2) : Pl).1 = o3 then r else [(q0, q1, q2)]) = []) := by show _ = _; rw [if_pos hne, HR0.out, if_pos hg]
                    have HOw2 : Hid (OwnS (wr.alloc (Obj.cells #[Value.int IntKind.i64 q0, Value.int IntKind.i64 q1, Value.int IntKind.i64 q2] 36)) (bo + 1) (.slice a1 K.length c1) K) := HOw.out.below (Go.Joins.below_alloc1 _ _)
                    have HBo2 : Hid (Blk (wr.alloc (Obj.cells #[Value.int IntKind.i64 q0, Value.int IntKind.i64 q1, Value.int IntKind.i64 q2] 36)) bo [Value.slice a1 K.length c1]) := HBo.out.alloc _
                    have HB2 : Hid (Below bo W5 (wr.alloc (Obj.cells #[Value.int IntKind.i64 q0, Value.int IntKind.i64 q1, Value.int IntKind.i64 q2] 36))) := hb.alloc (by omega) _
                    by_cases h1 : p1 = 0
                    · have d1 : (p1 != 0) = false := by simpa using h1
                      clear hne h1 hg hput'
                      go_wp2
                      go_roundw
                      case rel => exact ⟨k + 1, false, _, hlt, rfl, by go_num, by simp, by rw [HT.out, HF.out, List.append_nil]; exact HOw2.out, HBo2.out, HB2.out⟩
                      case measure => simp [intOf]; omega
                    · have d1 : (p1 != 0) = true := by simpa using h1
                      have d2 : decide (p2 ≥ 0) = false := by simp; omega
                      clear hne h1 hg hput'
                      go_wp2
                      go_roundw
                      case rel => exact ⟨k + 1, false, _, hlt, rfl, by go_num, by simp, by rw [HT.out, HF.out, List.append_nil]; exact HOw2.out, HBo2.out, HB2.out⟩
                      case measure => simp [intOf]; omega
                  · have HF : Hid ((if ((q0, q1, q2) : Pl).1 = o3 then r else [(q0, q1, q2)]) = [(p1, p2, p3)]) := by show _ = _; rw [if_pos hne, HR0.out, if_neg hg]
                    have d1 : (p1 != 0) = true := by simp; omega
                    have d2 : decide (p2 ≥ 0) = true := by simp; omega
                    have HPT : Hid (∃ j, ∃ h : j < l.length, j < k + 1 ∧ l[j].1 = o3) := ⟨k, hlt, by omega, by rw [HQ.out]; exact hne⟩
                    clear hne hg hput'
                    have hown2 := (HOw.out.row.alloc (Obj.cells #[Value.int IntKind.i64 q0, Value.int IntKind.i64 q1, Value.int IntKind.i64 q2] 36)).alloc (Obj.cells #[Value.int IntKind.i64 p1, Value.int IntKind.i64 p2, Value.int IntKind.i64 p3] 36)
                    have hb3 := (hb.alloc (by omega) (Obj.cells #[Value.int IntKind.i64 q0, Value.int IntKind.i64 q1, Value.int IntKind.i64 q2] 36)).alloc (by simp; omega) (Obj.cells #[Value.int IntKind.i64 p1, Value.int IntKind.i64 p2, Value.int IntKind.i64 p3] 36)
                    have HBo3 : Hid (Blk ((wr.alloc (Obj.cells #[Value.int IntKind.i64 q0, Value.int IntKind.i64 q1, Value.int IntKind.i64 q2] 36)).alloc (Obj.cells #[Value.int IntKind.i64 p1, Value.int IntKind.i64 p2, Value.int IntKind.i64 p3] 36)) bo [Value.slice a1 K.length c1]) := (HBo.out.alloc _).alloc _
                    have HLT : Hid (∀ g, (Value.slice a1 K.length c1).ownBlock = some g → bo + 1 ≤ g ∧ g < wr.heap.size) := HOw.out.row.lt
                    go_wp2_with (at_builtin; refine wpList_append_own _ rfl _ _ 27 rfl (bo + 1) 36 i0 _ 3 24 Try.underlying27 hi hz0 hz1 hz2 rfl (by decide) _ _ _ rfl hown2 ⟨wr.heap.size + 1, 0, none⟩ 1 1 [.int .i64 p1, .int .i64 p2, .int .i64 p3] rfl rfl ?cw1 ?cw2 ?cw3 ?cw4 ?cw5 ?_)
                    try (case cw1 => (intro t u ht; match t, ht with | 0, ht => (simp at ht; subst ht; simp [Addr.add]) | 1, ht => (simp at ht; subst ht; simp [Addr.add]) | 2, ht => (simp at ht; subst ht; simp [Addr.add]) | t + 3, ht => simp at ht))
                    case cw2 => first | exact ⟨rfl, rfl, rfl⟩ | (intro u hu; simp at hu; rcases hu with rfl | rfl | rfl <;> rfl)
                    case cw3 => unfold maxLen; omega
                    case cw4 => omega
                    case cw5 => first | omega | (simp; omega)
                    · intro v' w4 hown' hgrow _
                      have hO4 : OwnS w4 (bo + 1) v' (K ++ [(p1, p2, p3)]) := own_pls (by simpa [encPl] using hown')
                      have hne4 : some bo ≠ (Value.slice a1 K.length c1).ownBlock := by
                        intro e
                        have := HLT.out bo e.symm
                        omega
                      have hBo4 := HBo3.out.grown hgrow hne4
                      have hb4 : Below bo W5 w4 := hb3.grown hgrow (by simp; omega) (fun g hg => by have := HLT.out g hg; omega)
                      obtain ⟨a4, c4, rfl⟩ := hO4.val
                      generalize hK4 : K ++ [(p1, p2, p3)] = K4 at *
                      have HK4 : Hid (K ++ [(p1, p2, p3)] = K4) := hK4
                      have u4 := hBo4.at 0 rfl
                      have uf4 := hBo4.frz
                      have HO4 : Hid (OwnS w4 (bo + 1) (.slice a4 K4.length c4) K4) := hO4
                      have HBo4 : Hid (Blk w4 bo [Value.slice a1 K.length c1]) := hBo4
                      clear hgrow hown2 hown' hne4 hBo4 hO4 hK4 hb3 HBo3 HLT
                      go_wp2
                      go_roundw
                      case rel =>
                        refine ⟨k + 1, true, .slice a4 K4.length c4, hlt, rfl, by go_num, fun _ => HPT.out, ?_, HBo4.out.set 0 (by simp) _, hb4.setCell (Nat.le_refl _) _⟩
                        rw [HT.out, HF.out, HK4.out]
                        exact HO4.out.other bo (by omega) 0 _
                      case measure => simp [intOf]; omega
                · have d0 : (q0 != o3) = true := by simpa using hne
                  have HF : Hid ((if ((q0, q1, q2) : Pl).1 = o3 then r else [(q0, q1, q2)]) = [(q0, q1, q2)]) := by show _ = _; rw [if_neg hne]
                  clear hne hput'
                  have hown2 := (HOw.out.row.alloc (Obj.cells #[Value.int IntKind.i64 q0, Value.int IntKind.i64 q1, Value.int IntKind.i64 q2] 36)).alloc (Obj.cells #[Value.int IntKind.i64 q0, Value.int IntKind.i64 q1, Value.int IntKind.i64 q2] 36)
                  have hb3 := (hb.alloc (by omega) (Obj.cells #[Value.int IntKind.i64 q0, Value.int IntKind.i64 q1, Value.int IntKind.i64 q2] 36)).alloc (by simp; omega) (Obj.cells #[Value.int IntKind.i64 q0, Value.int IntKind.i64 q1, Value.int IntKind.i64 q2] 36)
                  have HBo3 : Hid (Blk ((wr.alloc (Obj.cells #[Value.int IntKind.i64 q0, Value.int IntKind.i64 q1, Value.int IntKind.i64 q2] 36)).alloc (Obj.cells #[Value.int IntKind.i64 q0, Value.int IntKind.i64 q1, Value.int IntKind.i64 q2] 36)) bo [Value.slice a1 K.length c1]) := (HBo.out.alloc _).alloc _
                  have HLT : Hid (∀ g, (Value.slice a1 K.length c1).ownBlock = some g → bo + 1 ≤ g ∧ g < wr.heap.size) := HOw.out.row.lt
                  go_wp2_with (at_builtin; refine wpList_append_own _ rfl _ _ 27 rfl (bo + 1) 36 i0 _ 3 24 Try.underlying27 hi hz0 hz1 hz2 rfl (by decide) _ _ _ rfl hown2 ⟨wr.heap.size + 1, 0, none⟩ 1 1 [.int .i64 q0, .int .i64 q1, .int .i64 q2] rfl rfl ?cq1 ?cq2 ?cq3 ?cq4 ?cq5 ?_)
                  try (case cq1 => (intro t u ht; match t, ht with | 0, ht => (simp at ht; subst ht; simp [Addr.add]) | 1, ht => (simp at ht; subst ht; simp [Addr.add]) | 2, ht => (simp at ht; subst ht; simp [Addr.add]) | t + 3, ht => simp at ht))
                  case cq2 => first | exact ⟨rfl, rfl, rfl⟩ | (intro u hu; simp at hu; rcases hu with rfl | rfl | rfl <;> rfl)
                  case cq3 => unfold maxLen; omega
                  case cq4 => omega
                  case cq5 => first | omega | (simp; omega)
                  · intro v' w4 hown' hgrow _
                    have hO4 : OwnS w4 (bo + 1) v' (K ++ [(q0, q1, q2)]) := own_pls (by simpa [encPl] using hown')
                    have hne4 : some bo ≠ (Value.slice a1 K.length c1).ownBlock := by
                      intro e
                      have := HLT.out bo e.symm
                      omega
                    have hBo4 := HBo3.out.grown hgrow hne4
                    have hb4 : Below bo W5 w4 := hb3.grown hgrow (by simp; omega) (fun g hg => by have := HLT.out g hg; omega)
                    obtain ⟨a4, c4, rfl⟩ := hO4.val
                    generalize hK4 : K ++ [(q0, q1, q2)] = K4 at *
                    have HK4 : Hid (K ++ [(q0, q1, q2)] = K4) := hK4
                    have u4 := hBo4.at 0 rfl
                    have uf4 := hBo4.frz
                    have HO4 : Hid (OwnS w4 (bo + 1) (.slice a4 K4.length c4) K4) := hO4
                    have HBo4 : Hid (Blk w4 bo [Value.slice a1 K.length c1]) := hBo4
                    clear hgrow hown2 hown' hne4 hBo4 hO4 hK4 hb3 HBo3 HLT
                    go_wp2
                    go_roundw
                    case rel =>
                      refine ⟨k + 1, put, .slice a4 K4.length c4, hlt, rfl, by go_num, fun hh => by obtain ⟨j, hj, h1, h2⟩ := HPUT.out hh; exact ⟨j, hj, by omega, h2⟩, ?_, HBo4.out.set 0 (by simp) _, hb4.setCell (Nat.le_refl _) _⟩
                      rw [HT.out, HF.out, HK4.out]
                      exact HO4.out.other bo (by omega) 0 _
                    case measure => simp [intOf]; omega
              · have hkl : k = l.length := by omega
                subst hkl
                rw [List.take_length] at hOw hBo u0 hKl'
                have hR6 := hR5.below hb (by omega)
                generalize swap o3 r l = K at *
                clear hO5 hR5
                go_wp2_with fail
                have hP6 : SlP wr a1 K := by
                  obtain ⟨a', c', e, h'⟩ := hOw.slp
                  obtain ⟨rfl, rfl⟩ : a1 = a' ∧ c1 = c' := by simpa using e
                  exact h'
                refine (checkTree_any wr a1 c1 K (by unfold maxLen; omega) hP6).mono ?_
                rintro e w7 ⟨rfl, hb7⟩
                rw [← Orangery.check_eq]
                have hU7 := hBo.keep hb7
                have hR7 := hR6.keep hb7
                have HO7 : Hid (OwnS w7 (bo + 1) (.slice a1 K.length c1) K) := hOw.below hb7
                have HB7 : Hid (Below w.heap.size w w7) := hbw.trans (hb7.mono hbw.size)
                have HR7 : Hid (Blk w7 (w.heap.size + 1 + 1) [Value.slice none 0 0]) := hR7
                have u7 := hU7.at 0 rfl
                have r0 := hR7.at 0 rfl
                have rf := hR7.frz
                clear hOw hBo hb hbw u0 uf hR6 hP6 hb7 hU7 hR7
                by_cases hck : check K = 0
                · have hk' : (check K != 0) = false := by simp [hck]
                  have HK : Hid (check K = 0) := hck
                  clear hck
                  go_wp2
                  refine ret_cell_tmp Try.results24 rfl rfl (HR7.out.set 0 (by simp) (.slice a1 K.length c1)).tree ?_
                  refine ⟨a1, c1, by rw [HSW.out.1, HSW.out.2.1 HK.out, HK.out]; rfl, ?_, ?_⟩
                  · rw [HSW.out.2.1 HK.out]
                    exact Or.inr ((HO7.out.other _ (by omega) _ _).mono (by omega))
                  · exact HB7.out.setCell (by show _ ≤ w.heap.size + 1 + 1; omega) _
                · have hk' : (check K != 0) = true := by simpa using hck
                  have HK : Hid (check K ≠ 0) := hck
                  clear hck
                  go_wp2
                  refine ret_cell_tmp Try.results24 rfl rfl (HR7.out.set 0 (by simp) (.slice none 0 0)).tree ?_
                  refine ⟨none, 0, by rw [HSW.out.1, HSW.out.2.2 HK.out]; rfl, ?_, ?_⟩
                  · rw [HSW.out.2.2 HK.out]
                    exact Or.inr (Or.inl ⟨rfl, rfl⟩)
                  · exact HB7.out.setCell (by show _ ≤ w.heap.size + 1 + 1; omega) _
          · have HU : Hid (undoE l ((o1, o2, (o3, o4, o5), o6, o7), true, (p1, p2, p3)) = 4 ∧ undoT l ((o1, o2, (o3, o4, o5), o6, o7), true, (p1, p2, p3)) = []) := by
              have e0 : undoE l ((o1, o2, (o3, o4, o5), o6, o7), true, (p1, p2, p3)) = 4 := by unfold undoE; rw [if_neg (by simp [HZ2.out]), if_neg (by simp), if_pos hbad]
              exact ⟨e0, by unfold undoT; rw [if_pos (by rw [e0]; decide)]⟩
            have r0 := hR4.at 0 rfl
            have rf := hR4.frz
            clear hbad hT4 hO4
            go_wp2
            refine ret_cell_tmp Try.results24 rfl rfl (hR4.set 0 (by simp) (.slice none 0 0)).tree ?_
            refine ⟨none, 0, by rw [HU.out.1, HU.out.2]; rfl, ?_, ?_⟩
            · rw [HU.out.2]
              exact Or.inr (Or.inl ⟨rfl, rfl⟩)
            · exact HB4.out.setCell (by show _ ≤ w.heap.size + 1 + 1; omega) _
    · have hz2' : (checkOp (o1, o2, (o3, o4, o5), o6, o7) != 0) = true := by simpa using hz2
      have HU : Hid (undoE l ((o1, o2, (o3, o4, o5), o6, o7), did, (p1, p2, p3)) = checkOp (o1, o2, (o3, o4, o5), o6, o7) ∧ undoT l ((o1, o2, (o3, o4, o5), o6, o7), did, (p1, p2, p3)) = []) := by
        have e0 : undoE l ((o1, o2, (o3, o4, o5), o6, o7), did, (p1, p2, p3)) = checkOp (o1, o2, (o3, o4, o5), o6, o7) := by unfold undoE; rw [if_pos (by rw [HE.out]; exact hz2), HE.out]
        exact ⟨e0, by unfold undoT; rw [if_pos (by rw [e0]; exact hz2)]⟩
      generalize checkOp (o1, o2, (o3, o4, o5), o6, o7) = E at *
      clear hz2
      have r0 := hR2.at 0 rfl
      have rf := hR2.frz
      have HR : Hid (Blk w2 (w.heap.size + 1 + 1) [Value.slice none 0 0]) := hR2
      clear hT2 hO2 hR2
      go_wp2
      refine ret_cell_tmp Try.results24 rfl rfl (HR.out.set 0 (by simp) (.slice none 0 0)).tree ?_
      refine ⟨none, 0, by rw [HU.out.1, HU.out.2]; rfl, ?_, ?_⟩
      · rw [HU.out.2]; exact Or.inr (Or.inl ⟨rfl, rfl⟩)
      · exact HB2.out.setCell (by show _ ≤ w.heap.size + 1 + 1; omega) _
  · have hz' : (check l != 0) = true := by simpa using hz
    have HU : Hid (undoE l ((o1, o2, (o3, o4, o5), o6, o7), did, (p1, p2, p3)) = check l ∧ undoT l ((o1, o2, (o3, o4, o5), o6, o7), did, (p1, p2, p3)) = []) := by
      have e1 : doE l (o1, o2, (o3, o4, o5), o6, o7) = check l := by unfold doE orI; rw [if_pos hz]
      have e0 : undoE l ((o1, o2, (o3, o4, o5), o6, o7), did, (p1, p2, p3)) = check l := by unfold undoE; rw [if_pos (by rw [e1]; exact hz), e1]
      exact ⟨e0, by unfold undoT; rw [if_pos (by rw [e0]; exact hz)]⟩
    generalize check l = E at *
    clear hz
    have r0 := hR1.at 0 rfl
    have rf := hR1.frz
    have HR : Hid (Blk w1 (w.heap.size + 1 + 1) [Value.slice none 0 0]) := hR1
    clear hT1 hO1 hR1
    go_wp2
    refine ret_cell_tmp Try.results24 rfl rfl (HR.out.set 0 (by simp) (.slice none 0 0)).tree ?_
    refine ⟨none, 0, by rw [HU.out.1, HU.out.2]; rfl, ?_, ?_⟩
    · rw [HU.out.2]; exact Or.inr (Or.inl ⟨rfl, rfl⟩)
    · exact HB1.out.setCell (by show _ ≤ w.heap.size + 1 + 1; omega) _
end Go.Proofs.Ytmbglohfbdaijaa
