/- orangerylaw.MoveSays: the walk. -/
import Derived.Test.YtmbglohfbdaijaaMoved
import Derived.Test.YtmbglohfbdaijaaRDoneB
import Derived.Test.YtmbglohfbdaijaaRUndone
import Derived.Test.YtmbglohfbdaijaaStepEq
import Derived.Test.YtmbglohfbdaijaaEqual
namespace Go.Proofs.Ytmbglohfbdaijaa
open Go.ChangeShapes Go.WideShapes Go.ChangeAt Go.RowKit
open Orangery (Pl Mv Stp outL inL check checkOp doE doT doS ring undoE undoT find)

theorem doT_len (l : List Pl) (o : Mv) : (doT l o).length ≤ 16 := by
  unfold doT
  split
  · simp
  · rename_i h
    have h1 := Orangery.check_len l (Orangery.doE_zero (by simpa using h)).1
    split
    · omega
    · have := in_len l o.2.2.1
      omega

theorem undoT_len (l : List Pl) (s : Stp) : (undoT l s).length ≤ 16 := by
  unfold undoT
  split
  · simp
  · rename_i h
    have h0 : undoE l s = 0 := by simpa using h
    have hd : doE l s.1 = 0 := by
      unfold undoE at h0
      split at h0
      · contradiction
      · rename_i h2; simpa using h2
    have h1 := Orangery.check_len l (Orangery.doE_zero hd).1
    split
    · omega
    · split
      · have : (outL l s.1.2.2.1.1).length ≤ l.length := List.length_filter_le _ _
        omega
      · have := in_len l s.2.2
        omega

theorem or_read {w : World} {base n : Nat} {a a' : Option Addr} {c : Nat} {l T : List Pl} (h : (a' = a ∧ T = l) ∨ OwnS w base (.slice a' n c) T) (hl : SlP w a l) : SlP w a' T := by
  rcases h with ⟨rfl, rfl⟩ | h
  · exact hl
  · exact h.read

set_option maxHeartbeats 4000000 in
set_option maxRecDepth 100000 in
theorem moveSays_any (w : World) (a : Option Addr) (c : Nat) (l : List Pl) (o : Mv) (s : Stp) (hl : l.length ≤ maxLen) (h : SlP w a l) :
    Calls Try.prog 6 #[.agg #[.slice a l.length c], opV o, stV s] w
      fun e w' => e = .returned (.bool true) ∧ Below w.heap.size w w' := by
  have hlT := doT_len l o
  have hlU := undoT_len l s
  go_enter Try.func6, Try.ntmps6
  go_wp2_with fail
  obtain ⟨W0, hW, BT_w0, BO_w0, BP_w0, hb, hS⟩ := laid3 w [Value.slice a l.length c] 29 (opC o) 49 (stC s) 51
  have HBww0 : Hid (Below w.heap.size w W0) := hb
  have HPW : Hid (SlP w a l) := h
  have P0 := h.below hb
  have E1 := do_any W0 a c l o hl P0
  rw [← hW] at E1
  refine E1.mono ?_
  rw [hW]
  clear hW E1 h hb hS
  rintro e w1 ⟨v1, rfl, hO1, hb⟩
  obtain ⟨a1, c1, rfl⟩ := hO1.val
  have HBww1 : Hid (Below w.heap.size w w1) := HBww0.out.trans (hb.mono HBww0.out.size)
  have BT_w1 := BT_w0.keep hb
  have BO_w1 := BO_w0.keep hb
  have BP_w1 := BP_w0.keep hb
  clear BT_w0 BO_w0 BP_w0
  clear hb HBww0
  have P1_w1 := hO1.read
  clear hO1 P0
  have HM : Hid (checkOp o = checkOp o) := rfl
  generalize elT : doT l o = lT at *
  have GlT : Hid (doT l o = lT) := elT
  clear elT
  generalize est : doS l o = st at *
  have Gst : Hid (doS l o = st) := est
  clear est
  generalize eeT : doE l o = eT at *
  have GeT : Hid (doE l o = eT) := eeT
  clear eeT
  have lenT : Hid (lT.length ≤ maxLen) := by show _ ≤ _; unfold maxLen; omega
  have t0 := BT_w1.at 0 rfl
  have t1 := BT_w1.lt
  have t2 := BP_w1.lt
  have t3 : ¬ w1.heap.size = w.heap.size := by omega
  have t4 : ¬ w1.heap.size = w.heap.size + 1 + 1 := by omega
  have t5 : ¬ w1.heap.size + 1 = w.heap.size + 1 + 1 := by omega
  have t6 : ¬ w1.heap.size + 1 = w.heap.size := by omega
  have t7 : w.heap.size + 1 < w1.heap.size := by omega
  have t8 : w.heap.size < w1.heap.size := by omega
  have t9 : ¬ w1.heap.size = w.heap.size + 1 := by omega
  have m0 := BP_w1.at 0 rfl
  have m1 := BP_w1.at 1 rfl
  have m2 := BP_w1.at 2 rfl
  have m3 := BP_w1.at 3 rfl
  have m4 := BP_w1.at 4 rfl
  have m5 := BP_w1.at 5 rfl
  have m6 := BP_w1.at 6 rfl
  have m7 := BP_w1.at 7 rfl
  have m8 := BP_w1.at 8 rfl
  have m9 := BP_w1.at 9 rfl
  have m10 := BP_w1.at 10 rfl
  go_wp2_with fail
  refine (undo_any _ a c l s hl (HPW.out.below (HBww1.out.trans ((Go.Joins.below_alloc2 w1 _ _).mono HBww1.out.size)))).mono ?_
  rintro e w2 ⟨v2, rfl, hO2, hb'⟩
  obtain ⟨BA_w2, BB_w2, hb⟩ := two_boxes (w3 := w1) (s := st) hb'
  clear hb' t0 t1 t2 t3 t4 t5 t6 t7 t8 t9 m0 m1 m2 m3 m4 m5 m6 m7 m8 m9 m10
  have HBww2 : Hid (Below w.heap.size w w2) := HBww1.out.trans (hb.mono HBww1.out.size)
  have BT_w2 := BT_w1.keep hb
  have BO_w2 := BO_w1.keep hb
  have BP_w2 := BP_w1.keep hb
  clear BT_w1 BO_w1 BP_w1
  have P1_w2 := P1_w1.below hb
  clear P1_w1
  clear hb HBww1
  obtain ⟨a2, c2, rfl⟩ := hO2.val
  have P2_w2 := hO2.read
  clear hO2
  generalize elU : undoT l s = lU at *
  have GlU : Hid (undoT l s = lU) := elU
  clear elU
  generalize eeU : undoE l s = eU at *
  have GeU : Hid (undoE l s = eU) := eeU
  clear eeU
  have lenU : Hid (lU.length ≤ maxLen) := by show _ ≤ _; unfold maxLen; omega
  have t0 := BT_w2.at 0 rfl
  have t1 := BT_w2.lt
  have t2 := BO_w2.lt
  have t3 : ¬ w2.heap.size = w.heap.size := by omega
  have t4 : ¬ w2.heap.size = w.heap.size + 1 := by omega
  have t5 : ¬ w2.heap.size + 1 = w.heap.size + 1 := by omega
  have t6 : ¬ w2.heap.size + 1 = w.heap.size := by omega
  have t7 : w.heap.size + 1 < w2.heap.size := by omega
  have t8 : w.heap.size < w2.heap.size := by omega
  have t9 : ¬ w2.heap.size = w.heap.size + 1 := by omega
  have m0 := BO_w2.at 0 rfl
  have m1 := BO_w2.at 1 rfl
  have m2 := BO_w2.at 2 rfl
  have m3 := BO_w2.at 3 rfl
  have m4 := BO_w2.at 4 rfl
  have m5 := BO_w2.at 5 rfl
  have m6 := BO_w2.at 6 rfl
  have hR3 := rDone_any (w2.alloc (.cells #[Value.slice a2 lU.length c2] 29)) a c l o hl (HPW.out.below (HBww2.out.trans ((Go.Joins.below_alloc1 w2 _).mono HBww2.out.size)))
  go_wp2_with fail
  refine hR3.mono ?_
  clear hR3
  rintro e w3 ⟨a3, c3, rfl, hO3, hb'⟩
  obtain ⟨BC_w3, hb⟩ := one_box (w3 := w2) hb'
  clear hb' t0 t1 t2 t3 t4 t5 t6 t7 t8 t9 m0 m1 m2 m3 m4 m5 m6
  have HBww3 : Hid (Below w.heap.size w w3) := HBww2.out.trans (hb.mono HBww2.out.size)
  have BT_w3 := BT_w2.keep hb
  have BO_w3 := BO_w2.keep hb
  have BP_w3 := BP_w2.keep hb
  have BA_w3 := BA_w2.keep hb
  have BB_w3 := BB_w2.keep hb
  clear BT_w2 BO_w2 BP_w2 BA_w2 BB_w2
  have P1_w3 := P1_w2.below hb
  have P2_w3 := P2_w2.below hb
  clear P1_w2 P2_w2
  clear hb HBww2
  rw [GlT.out] at hO3
  rw [GlT.out, Gst.out, GeT.out]
  have P3_w3 := or_read hO3 (HPW.out.below HBww3.out)
  clear hO3
  have t0 := BT_w3.at 0 rfl
  have t1 := BT_w3.lt
  have t2 := BP_w3.lt
  have t3 : ¬ w3.heap.size = w.heap.size := by omega
  have t4 : ¬ w3.heap.size = w.heap.size + 1 + 1 := by omega
  have t5 : ¬ w3.heap.size + 1 = w.heap.size + 1 + 1 := by omega
  have t6 : ¬ w3.heap.size + 1 = w.heap.size := by omega
  have t7 : w.heap.size + 1 < w3.heap.size := by omega
  have t8 : w.heap.size < w3.heap.size := by omega
  have t9 : ¬ w3.heap.size = w.heap.size + 1 := by omega
  have m0 := BP_w3.at 0 rfl
  have m1 := BP_w3.at 1 rfl
  have m2 := BP_w3.at 2 rfl
  have m3 := BP_w3.at 3 rfl
  have m4 := BP_w3.at 4 rfl
  have m5 := BP_w3.at 5 rfl
  have m6 := BP_w3.at 6 rfl
  have m7 := BP_w3.at 7 rfl
  have m8 := BP_w3.at 8 rfl
  have m9 := BP_w3.at 9 rfl
  have m10 := BP_w3.at 10 rfl
  have hR4 := rUndone_any ((w3.alloc (.cells #[Value.slice a3 lT.length c3] 29)).alloc (.cells (stC st).toArray 51)) a c l s hl (HPW.out.below (HBww3.out.trans ((Go.Joins.below_alloc2 w3 _ _).mono HBww3.out.size)))
  go_wp2_with fail
  refine hR4.mono ?_
  clear hR4
  rintro e w4 ⟨a4, c4, rfl, hO4, hb'⟩
  obtain ⟨BD_w4, BE_w4, hb⟩ := two_boxes (w3 := w3) (s := st) hb'
  clear hb' t0 t1 t2 t3 t4 t5 t6 t7 t8 t9 m0 m1 m2 m3 m4 m5 m6 m7 m8 m9 m10
  have HBww4 : Hid (Below w.heap.size w w4) := HBww3.out.trans (hb.mono HBww3.out.size)
  have BT_w4 := BT_w3.keep hb
  have BO_w4 := BO_w3.keep hb
  have BP_w4 := BP_w3.keep hb
  have BA_w4 := BA_w3.keep hb
  have BB_w4 := BB_w3.keep hb
  have BC_w4 := BC_w3.keep hb
  clear BT_w3 BO_w3 BP_w3 BA_w3 BB_w3 BC_w3
  have P1_w4 := P1_w3.below hb
  have P2_w4 := P2_w3.below hb
  have P3_w4 := P3_w3.below hb
  clear P1_w3 P2_w3 P3_w3
  clear hb HBww3
  rw [GlU.out] at hO4
  rw [GlU.out, GeU.out]
  have P4_w4 := or_read hO4 (HPW.out.below HBww4.out)
  clear hO4
  obtain ⟨WX, hW, BF, hb, hzx⟩ := laid1 w4 [Value.slice a4 lU.length c4] 29
  go_upto_region 5 with fail
  try rw [hW]
  clear hW hzx
  have BO := BO_w4.keep hb
  have BA := BA_w4.keep hb
  have BB := BB_w4.keep hb
  have BC := BC_w4.keep hb
  have BD := BD_w4.keep hb
  have BE := BE_w4.keep hb
  have HP1 : Hid (SlP WX a1 lT) := P1_w4.below hb
  have HP2 : Hid (SlP WX a2 lU) := P2_w4.below hb
  have HP3 : Hid (SlP WX a3 lT) := P3_w4.below hb
  have HP4 : Hid (SlP WX a4 lU) := P4_w4.below hb
  have HBX : Hid (Below w.heap.size w WX) := HBww4.out.trans (hb.mono HBww4.out.size)
  have hS' : Below WX.heap.size WX WX.drew := (Below.refl _ WX).drew
  have QT : Hid (eqPls lT lT = true) := by show _ = _; simp [eqPls]
  have QU : Hid (eqPls lU lU = true) := by show _ = _; simp [eqPls]
  have heq : ∀ W, (binOp .eql 51 (.agg (stC st).toArray) (.agg (stC st).toArray)).run Try.prog W = .ok (.bool true) W := fun W => run_eql_step st W
  have hgd := guard_step
  have q1 : (eT == eT) = true := by simp
  have q2 : (eU == eU) = true := by simp
  have q3 : (checkOp o == checkOp o) = true := by simp
  clear hb BT_w4 BO_w4 BP_w4 BA_w4 BB_w4 BC_w4 BD_w4 BE_w4 P1_w4 P2_w4 P3_w4 P4_w4 HBww4
  refine wp_region_held_drew (S := fun w' => Below WX.heap.size WX w') (by kernel_rfl) hS' (fun hHeld => ?_)
  clear hHeld
  refine wpAnyH_ready (rs := [0]) (by kernel_rfl) (by simp) ?_
  refine AllReadyH.cons rfl (fun K hK => ?_) AllReadyH.nil
  go_simp
  refine (moved_any _).mono ?_
  rintro e wn ⟨rfl, hb⟩
  have hS' : Below WX.heap.size WX wn := Below.trans hS' (hb.mono (Below.size hS'))
  go_wp2_with fail
  refine hK.out _ _ ?_ (fun hHeld => ?_)
  · (try dsimp only); exact hS'
  clear hK K hHeld
  refine take_yes 1 44 (v := ?_) rfl rfl (by kernel_rfl) (by kernel_rfl) (by kernel_rfl) (fun _ _ _ h => h) (by rfl) ?_ hS' ?_
  rotate_left 1
  · (intro w hSw; (try dsimp only at hSw); go_simp; try with_reducible rfl)
  simp only [Act.put, List.setIfInBounds_toArray, List.set_cons_succ, List.set_cons_zero]
  refine take_load 2 45 49 (w.heap.size + 1) (opC o) rfl rfl (by kernel_rfl) (by kernel_rfl) (by kernel_rfl) (fun _ _ _ h => h) (by rfl) (by rfl) (by rfl) (fun w hw => (BO.keep hw).range) Try.underlying49 rfl sizeOp hS' ?_
  simp only [Act.put, List.setIfInBounds_toArray, List.set_cons_succ, List.set_cons_zero]
  refine take_load 4 47 49 (w.heap.size + 1) (opC o) rfl rfl (by kernel_rfl) (by kernel_rfl) (by kernel_rfl) (fun _ _ _ h => h) (by rfl) (by rfl) (by rfl) (fun w hw => (BO.keep hw).range) Try.underlying49 rfl sizeOp hS' ?_
  simp only [Act.put, List.setIfInBounds_toArray, List.set_cons_succ, List.set_cons_zero]
  refine wpAnyH_ready (rs := [3]) (by kernel_rfl) (by simp) ?_
  refine AllReadyH.cons rfl (fun K hK => ?_) AllReadyH.nil
  go_simp
  refine (moveCheck_any _ o).mono ?_
  rintro e wn ⟨rfl, hb⟩
  have hS' : Below WX.heap.size WX wn := Below.trans hS' (hb.mono (Below.size hS'))
  go_wp2_with fail
  refine hK.out _ _ ?_ (fun hHeld => ?_)
  · (try dsimp only); exact hS'
  clear hK K hHeld
  refine wpAnyH_ready (rs := [5]) (by kernel_rfl) (by simp) ?_
  refine AllReadyH.cons rfl (fun K hK => ?_) AllReadyH.nil
  go_simp
  refine (refCheckOp_any _ o).mono ?_
  rintro e wn ⟨rfl, hb⟩
  have hS' : Below WX.heap.size WX wn := Below.trans hS' (hb.mono (Below.size hS'))
  go_wp2_with fail
  refine hK.out _ _ ?_ (fun hHeld => ?_)
  · (try dsimp only); exact hS'
  clear hK K hHeld
  refine take_yes 6 49 (v := ?_) rfl rfl (by kernel_rfl) (by kernel_rfl) (by kernel_rfl) (fun _ _ _ h => h) (by rfl) ?_ hS' ?_
  rotate_left 1
  · (intro w hSw; (try dsimp only at hSw); go_simp; try with_reducible rfl)
  simp only [Act.put, List.setIfInBounds_toArray, List.set_cons_succ, List.set_cons_zero]
  refine take_yes 7 50 (v := ?_) rfl rfl (by kernel_rfl) (by kernel_rfl) (by kernel_rfl) (fun _ _ _ h => h) (by rfl) ?_ hS' ?_
  rotate_left 1
  · (intro w hSw; (try dsimp only at hSw); go_simp; try with_reducible rfl)
  simp only [Act.put, List.setIfInBounds_toArray, List.set_cons_succ, List.set_cons_zero]
  refine take_yes 8 51 (v := ?_) rfl rfl (by kernel_rfl) (by kernel_rfl) (by kernel_rfl) (fun _ _ _ h => h) (by rfl) ?_ hS' ?_
  rotate_left 1
  · (intro w hSw; (try dsimp only at hSw); go_simp; try with_reducible rfl)
  simp only [Act.put, List.setIfInBounds_toArray, List.set_cons_succ, List.set_cons_zero]
  refine take_yes 9 52 (v := ?_) rfl rfl (by kernel_rfl) (by kernel_rfl) (by kernel_rfl) (fun _ _ _ h => h) (by rfl) ?_ hS' ?_
  rotate_left 1
  · (intro w hSw; (try dsimp only at hSw); go_simp; try with_reducible rfl)
  simp only [Act.put, List.setIfInBounds_toArray, List.set_cons_succ, List.set_cons_zero]
  refine take_yes 10 53 (v := ?_) rfl rfl (by kernel_rfl) (by kernel_rfl) (by kernel_rfl) (fun _ _ _ h => h) (by rfl) ?_ hS' ?_
  rotate_left 1
  · (intro w hSw; (try dsimp only at hSw); go_simp; try with_reducible rfl)
  simp only [Act.put, List.setIfInBounds_toArray, List.set_cons_succ, List.set_cons_zero]
  refine take_yes 11 54 (v := ?_) rfl rfl (by kernel_rfl) (by kernel_rfl) (by kernel_rfl) (fun _ _ _ h => h) (by rfl) ?_ hS' ?_
  rotate_left 1
  · (intro w hSw; (try dsimp only at hSw); go_simp; try with_reducible rfl)
  simp only [Act.put, List.setIfInBounds_toArray, List.set_cons_succ, List.set_cons_zero]
  refine take_yes 12 55 (v := ?_) rfl rfl (by kernel_rfl) (by kernel_rfl) (by kernel_rfl) (fun _ _ _ h => h) (by rfl) ?_ hS' ?_
  rotate_left 1
  · (intro w hSw; (try dsimp only at hSw); go_simp; try with_reducible rfl)
  simp only [Act.put, List.setIfInBounds_toArray, List.set_cons_succ, List.set_cons_zero]
  refine take_yes 13 56 (v := ?_) rfl rfl (by kernel_rfl) (by kernel_rfl) (by kernel_rfl) (fun _ _ _ h => h) (by rfl) ?_ hS' ?_
  rotate_left 1
  · (intro w hSw; (try dsimp only at hSw); go_simp; try with_reducible rfl)
  simp only [Act.put, List.setIfInBounds_toArray, List.set_cons_succ, List.set_cons_zero]
  refine take_yes 14 57 (v := ?_) rfl rfl (by kernel_rfl) (by kernel_rfl) (by kernel_rfl) (fun _ _ _ h => h) (by rfl) ?_ hS' ?_
  rotate_left 1
  · (intro w hSw; (try dsimp only at hSw); go_simp; try with_reducible rfl)
  simp only [Act.put, List.setIfInBounds_toArray, List.set_cons_succ, List.set_cons_zero]
  refine take_yes 15 58 (v := ?_) rfl rfl (by kernel_rfl) (by kernel_rfl) (by kernel_rfl) (fun _ _ _ h => h) (by rfl) ?_ hS' ?_
  rotate_left 1
  · (intro w hSw; have cc := (BA.keep hSw).at 0 rfl; clear hSw; go_simp; try with_reducible rfl)
  simp only [Act.put, List.setIfInBounds_toArray, List.set_cons_succ, List.set_cons_zero]
  refine take_yes 16 59 (v := ?_) rfl rfl (by kernel_rfl) (by kernel_rfl) (by kernel_rfl) (fun _ _ _ h => h) (by rfl) ?_ hS' ?_
  rotate_left 1
  · (intro w hSw; (try dsimp only at hSw); go_simp; try with_reducible rfl)
  simp only [Act.put, List.setIfInBounds_toArray, List.set_cons_succ, List.set_cons_zero]
  refine take_yes 17 60 (v := ?_) rfl rfl (by kernel_rfl) (by kernel_rfl) (by kernel_rfl) (fun _ _ _ h => h) (by rfl) ?_ hS' ?_
  rotate_left 1
  · (intro w hSw; have cc := (BD.keep hSw).at 0 rfl; clear hSw; go_simp; try with_reducible rfl)
  simp only [Act.put, List.setIfInBounds_toArray, List.set_cons_succ, List.set_cons_zero]
  refine wpAnyH_ready (rs := [18]) (by kernel_rfl) (by simp) ?_
  refine AllReadyH.cons rfl (fun K hK => ?_) AllReadyH.nil
  go_simp
  refine (equal_pls _ a1 a3 c1 c3 lT lT lenT.out (HP1.out.below hS') (HP3.out.below hS')).mono ?_
  rintro e wn ⟨rfl, nn, hnn⟩
  have hS' : Below WX.heap.size WX wn := (by rw [hnn]; exact Below.trans hS' (Go.Joins.below_draws _ _ nn))
  rw [QT.out]
  clear hnn
  go_wp2_with fail
  refine hK.out _ _ ?_ (fun hHeld => ?_)
  · (try dsimp only); exact hS'
  clear hK K hHeld
  refine take_yes 19 62 (v := ?_) rfl rfl (by kernel_rfl) (by kernel_rfl) (by kernel_rfl) (fun _ _ _ h => h) (by rfl) ?_ hS' ?_
  rotate_left 1
  · (intro w hSw; (try dsimp only at hSw); go_simp; try with_reducible rfl)
  simp only [Act.put, List.setIfInBounds_toArray, List.set_cons_succ, List.set_cons_zero]
  refine take_yes 20 63 (v := ?_) rfl rfl (by kernel_rfl) (by kernel_rfl) (by kernel_rfl) (fun _ _ _ h => h) (by rfl) ?_ hS' ?_
  rotate_left 1
  · (intro w hSw; (try dsimp only at hSw); go_simp; try with_reducible rfl)
  simp only [Act.put, List.setIfInBounds_toArray, List.set_cons_succ, List.set_cons_zero]
  refine take_load 21 64 51 (w1.heap.size + 1) (stC st) rfl rfl (by kernel_rfl) (by kernel_rfl) (by kernel_rfl) (fun _ _ _ h => h) (by rfl) (by rfl) (by rfl) (fun w hw => (BB.keep hw).range) Try.underlying51 rfl sizeStep hS' ?_
  simp only [Act.put, List.setIfInBounds_toArray, List.set_cons_succ, List.set_cons_zero]
  refine take_load 22 65 51 (w3.heap.size + 1) (stC st) rfl rfl (by kernel_rfl) (by kernel_rfl) (by kernel_rfl) (fun _ _ _ h => h) (by rfl) (by rfl) (by rfl) (fun w hw => (BE.keep hw).range) Try.underlying51 rfl sizeStep hS' ?_
  simp only [Act.put, List.setIfInBounds_toArray, List.set_cons_succ, List.set_cons_zero]
  refine take_yes 23 66 (v := ?_) rfl rfl (by kernel_rfl) (by kernel_rfl) (by kernel_rfl) (fun _ _ _ h => h) (by rfl) ?_ hS' ?_
  rotate_left 1
  · (intro w hSw; (try dsimp only at hSw); go_simp; try with_reducible rfl)
  simp only [Act.put, List.setIfInBounds_toArray, List.set_cons_succ, List.set_cons_zero]
  refine take_yes 24 67 (v := ?_) rfl rfl (by kernel_rfl) (by kernel_rfl) (by kernel_rfl) (fun _ _ _ h => h) (by rfl) ?_ hS' ?_
  rotate_left 1
  · (intro w hSw; (try dsimp only at hSw); go_simp; try with_reducible rfl)
  simp only [Act.put, List.setIfInBounds_toArray, List.set_cons_succ, List.set_cons_zero]
  refine take_yes 25 68 (v := ?_) rfl rfl (by kernel_rfl) (by kernel_rfl) (by kernel_rfl) (fun _ _ _ h => h) (by rfl) ?_ hS' ?_
  rotate_left 1
  · (intro w hSw; (try dsimp only at hSw); go_simp; try with_reducible rfl)
  simp only [Act.put, List.setIfInBounds_toArray, List.set_cons_succ, List.set_cons_zero]
  refine take_yes 26 69 (v := ?_) rfl rfl (by kernel_rfl) (by kernel_rfl) (by kernel_rfl) (fun _ _ _ h => h) (by rfl) ?_ hS' ?_
  rotate_left 1
  · (intro w hSw; (try dsimp only at hSw); go_simp; try with_reducible rfl)
  simp only [Act.put, List.setIfInBounds_toArray, List.set_cons_succ, List.set_cons_zero]
  refine take_yes 27 70 (v := ?_) rfl rfl (by kernel_rfl) (by kernel_rfl) (by kernel_rfl) (fun _ _ _ h => h) (by rfl) ?_ hS' ?_
  rotate_left 1
  · (intro w hSw; (try dsimp only at hSw); go_simp; try with_reducible rfl)
  simp only [Act.put, List.setIfInBounds_toArray, List.set_cons_succ, List.set_cons_zero]
  refine take_yes 28 71 (v := ?_) rfl rfl (by kernel_rfl) (by kernel_rfl) (by kernel_rfl) (fun _ _ _ h => h) (by rfl) ?_ hS' ?_
  rotate_left 1
  · (intro w hSw; (try dsimp only at hSw); go_simp; try with_reducible rfl)
  simp only [Act.put, List.setIfInBounds_toArray, List.set_cons_succ, List.set_cons_zero]
  refine take_yes 29 72 (v := ?_) rfl rfl (by kernel_rfl) (by kernel_rfl) (by kernel_rfl) (fun _ _ _ h => h) (by rfl) ?_ hS' ?_
  rotate_left 1
  · (intro w hSw; (try dsimp only at hSw); go_simp; try with_reducible rfl)
  simp only [Act.put, List.setIfInBounds_toArray, List.set_cons_succ, List.set_cons_zero]
  refine take_yes 30 73 (v := ?_) rfl rfl (by kernel_rfl) (by kernel_rfl) (by kernel_rfl) (fun _ _ _ h => h) (by rfl) ?_ hS' ?_
  rotate_left 1
  · (intro w hSw; (try dsimp only at hSw); go_simp; try with_reducible rfl)
  simp only [Act.put, List.setIfInBounds_toArray, List.set_cons_succ, List.set_cons_zero]
  refine take_yes 31 74 (v := ?_) rfl rfl (by kernel_rfl) (by kernel_rfl) (by kernel_rfl) (fun _ _ _ h => h) (by rfl) ?_ hS' ?_
  rotate_left 1
  · (intro w hSw; (try dsimp only at hSw); go_simp; try with_reducible rfl)
  simp only [Act.put, List.setIfInBounds_toArray, List.set_cons_succ, List.set_cons_zero]
  refine take_yes 32 75 (v := ?_) rfl rfl (by kernel_rfl) (by kernel_rfl) (by kernel_rfl) (fun _ _ _ h => h) (by rfl) ?_ hS' ?_
  rotate_left 1
  · (intro w hSw; have cc := (BC.keep hSw).at 0 rfl; clear hSw; go_simp; try with_reducible rfl)
  simp only [Act.put, List.setIfInBounds_toArray, List.set_cons_succ, List.set_cons_zero]
  refine take_yes 33 76 (v := ?_) rfl rfl (by kernel_rfl) (by kernel_rfl) (by kernel_rfl) (fun _ _ _ h => h) (by rfl) ?_ hS' ?_
  rotate_left 1
  · (intro w hSw; (try dsimp only at hSw); go_simp; try with_reducible rfl)
  simp only [Act.put, List.setIfInBounds_toArray, List.set_cons_succ, List.set_cons_zero]
  refine take_yes 34 77 (v := ?_) rfl rfl (by kernel_rfl) (by kernel_rfl) (by kernel_rfl) (fun _ _ _ h => h) (by rfl) ?_ hS' ?_
  rotate_left 1
  · (intro w hSw; have cc := (BF.keep hSw).at 0 rfl; clear hSw; go_simp; try with_reducible rfl)
  simp only [Act.put, List.setIfInBounds_toArray, List.set_cons_succ, List.set_cons_zero]
  refine wpAnyH_ready (rs := [35]) (by kernel_rfl) (by simp) ?_
  refine AllReadyH.cons rfl (fun K hK => ?_) AllReadyH.nil
  go_simp
  refine (equal_pls _ a2 a4 c2 c4 lU lU lenU.out (HP2.out.below hS') (HP4.out.below hS')).mono ?_
  rintro e wn ⟨rfl, nn, hnn⟩
  have hS' : Below WX.heap.size WX wn := (by rw [hnn]; exact Below.trans hS' (Go.Joins.below_draws _ _ nn))
  rw [QU.out]
  clear hnn
  go_wp2_with fail
  refine hK.out _ _ ?_ (fun hHeld => ?_)
  · (try dsimp only); exact hS'
  clear hK K hHeld
  refine take_yes 36 79 (v := ?_) rfl rfl (by kernel_rfl) (by kernel_rfl) (by kernel_rfl) (fun _ _ _ h => h) (by rfl) ?_ hS' ?_
  rotate_left 1
  · (intro w hSw; (try dsimp only at hSw); go_simp; try with_reducible rfl)
  simp only [Act.put, List.setIfInBounds_toArray, List.set_cons_succ, List.set_cons_zero]
  refine take_yes 37 6 (v := ?_) rfl rfl (by kernel_rfl) (by kernel_rfl) (by kernel_rfl) (fun _ _ _ h => h) (by rfl) ?_ hS' ?_
  rotate_left 1
  · (intro w hSw; (try dsimp only at hSw); go_simp; try with_reducible rfl)
  simp only [Act.put, List.setIfInBounds_toArray, List.set_cons_succ, List.set_cons_zero]
  refine wpAnyH_done (by kernel_rfl) ?_ _
  go_wp2
  go_ret
  exact ⟨rfl, HBX.out.trans (hS'.mono HBX.out.size)⟩
end Go.Proofs.Ytmbglohfbdaijaa
