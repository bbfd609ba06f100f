/- orangeryref.Done. -/
import Derived.Test.YtmbglohfbdaijaaRDone
import Derived.Test.YtmbglohfbdaijaaCheckTree
namespace Go.Proofs.Ytmbglohfbdaijaa
open Go.ChangeShapes Go.WideShapes Go.ChangeAt Go.RowKit
open Orangery (Pl Mv Stp outL inL check checkOp doE doT doS ring orI underB find noStep noOp)

set_option maxHeartbeats 2000000 in
set_option maxRecDepth 100000 in
theorem rDone_any (w : World) (a : Option Addr) (c : Nat) (l : List Pl) (o : Mv) (hl : l.length ≤ maxLen) (h : SlP w a l) :
    Calls Try.prog 23 #[.agg #[.slice a l.length c], opV o] w
      fun e w' => ∃ a' c', e = .returned (.tuple #[.agg #[.slice a' (doT l o).length c'], stV (doS l o), .int .i64 (doE l o)]) ∧ ((a' = a ∧ doT l o = l) ∨ OwnS w' w.heap.size (.slice a' (doT l o).length c') (doT l o)) ∧ Below w.heap.size w w' := by
  obtain ⟨o1, o2, ⟨o3, o4, o5⟩, o6, o7⟩ := o
  go_enter Try.func23, Try.ntmps23
  go_wp2_with fail
  obtain ⟨W0, hW, hT, hO, hR, hQ, hB, hS⟩ := laid4 w [Value.slice a l.length c] 29 [Value.int IntKind.i64 o1, Value.int IntKind.i64 o2, Value.int IntKind.i64 o3, Value.int IntKind.i64 o4, Value.int IntKind.i64 o5, Value.int IntKind.i64 o6, Value.int IntKind.i64 o7] 49 [Value.slice none 0 0] 29 [Value.int IntKind.i64 0, Value.int IntKind.i64 0, Value.int IntKind.i64 0, Value.int IntKind.i64 0, Value.int IntKind.i64 0, Value.int IntKind.i64 0, Value.int IntKind.i64 0, Value.bool false, Value.int IntKind.i64 0, Value.int IntKind.i64 0, Value.int IntKind.i64 0] 51
  rw [hW]
  clear hW
  have hP := h.below hB
  have HPW : Hid (SlP w a l) := h
  clear h
  refine (checkTree_any W0 a c l hl hP).mono ?_
  rintro e w1 ⟨rfl, hb1⟩
  rw [← Orangery.check_eq]
  have hT1 := hT.keep hb1
  have hO1 := hO.keep hb1
  have hR1 := hR.keep hb1
  have hQ1 := hQ.keep hb1
  have HB1 : Hid (Below w.heap.size w w1) := hB.trans (hb1.mono hB.size)
  have hw1 : w.heap.size + 1 + 1 + 1 + 1 ≤ w1.heap.size := by have := hb1.size; omega
  clear hT hO hR hQ hB hP hb1 hS
  by_cases hz : check l = 0
  · have hz' : (check l != 0) = false := by simp [hz]
    have HZ : Hid (check l = 0) := hz
    clear hz
    have t0 := hT1.at 0 rfl
    have m0 := hO1.at 0 rfl
    have m1 := hO1.at 1 rfl
    have m2 := hO1.at 2 rfl
    have m3 := hO1.at 3 rfl
    have m4 := hO1.at 4 rfl
    have m5 := hO1.at 5 rfl
    have m6 := hO1.at 6 rfl
    go_wp2_with fail
    refine (refCheckOp_any w1 (o1, o2, (o3, o4, o5), o6, o7)).mono ?_
    rintro e w2 ⟨rfl, hb2⟩
    have hT2 := hT1.keep hb2
    have hO2 := hO1.keep hb2
    have hR2 := hR1.keep hb2
    have hQ2 := hQ1.keep hb2
    have HB2 : Hid (Below w.heap.size w w2) := HB1.out.trans (hb2.mono HB1.out.size)
    have hw2 : w.heap.size + 1 + 1 + 1 + 1 ≤ w2.heap.size := by have := hb2.size; omega
    clear hT1 hO1 hR1 hQ1 hb2 HB1 t0 m0 m1 m2 m3 m4 m5 m6
    have HE : Hid (doE l (o1, o2, (o3, o4, o5), o6, o7) = checkOp (o1, o2, (o3, o4, o5), o6, o7)) := by show _ = _; unfold doE orI; rw [if_neg (by simp [HZ.out])]
    by_cases hz2 : checkOp (o1, o2, (o3, o4, o5), o6, o7) = 0
    · have hz2' : (checkOp (o1, o2, (o3, o4, o5), o6, o7) != 0) = false := by simp [hz2]
      have HZ2 : Hid (doE l (o1, o2, (o3, o4, o5), o6, o7) = 0) := by show _ = _; rw [HE.out]; exact hz2
      clear hz2
      have t0 := hT2.at 0 rfl
      have m0 := hO2.at 0 rfl
      have m1 := hO2.at 1 rfl
      have m2 := hO2.at 2 rfl
      have m3 := hO2.at 3 rfl
      have m4 := hO2.at 4 rfl
      have m5 := hO2.at 5 rfl
      have m6 := hO2.at 6 rfl
      go_wp2_with fail
      refine (rdone_any w2 a c l (o1, o2, (o3, o4, o5), o6, o7) hl (HPW.out.below HB2.out) HZ2.out).mono ?_
      rintro e w3 ⟨a3, c3, rfl, hP3, hb3⟩
      have hR3 := hR2.keep hb3
      have hQ3 := hQ2.keep hb3
      have HB3 : Hid (Below w.heap.size w w3) := HB2.out.trans (hb3.mono HB2.out.size)
      have hw3 : w.heap.size + 1 + 1 + 1 + 1 ≤ w3.heap.size := by have := hb3.size; omega
      clear hT2 hO2 hR2 hQ2 hb3 HB2 t0 m0 m1 m2 m3 m4 m5 m6
      have hN4 := Blk.new w3 (stC (doS l (o1, o2, (o3, o4, o5), o6, o7))) 51
      have hR4 := hR3.alloc (.cells (stC (doS l (o1, o2, (o3, o4, o5), o6, o7))).toArray 51)
      have hQ4 := hQ3.alloc (.cells (stC (doS l (o1, o2, (o3, o4, o5), o6, o7))).toArray 51)
      have hP4 : (a3 = a ∧ doT l (o1, o2, (o3, o4, o5), o6, o7) = l) ∨ OwnS (w3.alloc (.cells (stC (doS l (o1, o2, (o3, o4, o5), o6, o7))).toArray 51)) (w.heap.size + 1 + 1 + 1 + 1) (.slice a3 (doT l (o1, o2, (o3, o4, o5), o6, o7)).length c3) (doT l (o1, o2, (o3, o4, o5), o6, o7)) := hP3.imp id (fun h => (h.below (Go.Joins.below_alloc1 w3 (.cells (stC (doS l (o1, o2, (o3, o4, o5), o6, o7))).toArray 51))).mono hw2)
      have HB4 : Hid (Below w.heap.size w (w3.alloc (.cells (stC (doS l (o1, o2, (o3, o4, o5), o6, o7))).toArray 51))) := HB3.out.alloc HB3.out.size _
      have HN4 : Hid (Blk (w3.alloc (.cells (stC (doS l (o1, o2, (o3, o4, o5), o6, o7))).toArray 51)) w3.heap.size (stC (doS l (o1, o2, (o3, o4, o5), o6, o7)))) := hN4
      have HQ4 : Hid (Blk (w3.alloc (.cells (stC (doS l (o1, o2, (o3, o4, o5), o6, o7))).toArray 51)) (w.heap.size + 1 + 1 + 1) [Value.int IntKind.i64 0, Value.int IntKind.i64 0, Value.int IntKind.i64 0, Value.int IntKind.i64 0, Value.int IntKind.i64 0, Value.int IntKind.i64 0, Value.int IntKind.i64 0, Value.bool false, Value.int IntKind.i64 0, Value.int IntKind.i64 0, Value.int IntKind.i64 0]) := hQ4
      have HR4 : Hid (Blk (w3.alloc (.cells (stC (doS l (o1, o2, (o3, o4, o5), o6, o7))).toArray 51)) (w.heap.size + 1 + 1) [Value.slice none 0 0]) := hR4
      have HP4 : Hid ((a3 = a ∧ doT l (o1, o2, (o3, o4, o5), o6, o7) = l) ∨ OwnS (w3.alloc (.cells (stC (doS l (o1, o2, (o3, o4, o5), o6, o7))).toArray 51)) (w.heap.size + 1 + 1 + 1 + 1) (.slice a3 (doT l (o1, o2, (o3, o4, o5), o6, o7)).length c3) (doT l (o1, o2, (o3, o4, o5), o6, o7))) := hP4
      clear hN4 hR4 hQ4 hP4 hR3 hQ3 hP3
      generalize hst : doS l (o1, o2, (o3, o4, o5), o6, o7) = st at *
      generalize hlt : doT l (o1, o2, (o3, o4, o5), o6, o7) = lt at *
      have HST : Hid (doS l (o1, o2, (o3, o4, o5), o6, o7) = st) := hst
      have HLT : Hid (doT l (o1, o2, (o3, o4, o5), o6, o7) = lt) := hlt
      clear hst hlt
      go_upto_region 8 with fail
      have hN4 := HN4.out.drew
      have hR4 := HR4.out.drew
      have hQ4 := HQ4.out.drew
      refine wp_region_held_drew (S := fun w' => Blk w' w3.heap.size (stC st)) (by kernel_rfl) HN4.out.drew (fun hHeld => ?_)
      refine take_load 2 34 51 w3.heap.size (stC st) rfl rfl (by kernel_rfl) (by kernel_rfl) (by kernel_rfl) (fun _ _ _ h => h) (by rfl) (by rfl) (by rfl) (fun w hw => hw.range) Try.underlying51 rfl sizeStep hHeld ?_
      simp only [Act.put, List.setIfInBounds_toArray, List.set_cons_succ, List.set_cons_zero]
      refine take_yes 0 32 (v := ?_) rfl rfl (by kernel_rfl) (by kernel_rfl) (by kernel_rfl) (fun _ _ _ h => h) (by rfl) ?_ hHeld ?_
      rotate_left 1
      · (intro w hSw; go_simp; try with_reducible rfl)
      simp only [Act.put, List.setIfInBounds_toArray, List.set_cons_succ, List.set_cons_zero]
      refine take_yes 1 33 (v := ?_) rfl rfl (by kernel_rfl) (by kernel_rfl) (by kernel_rfl) (fun _ _ _ h => h) (by rfl) ?_ hHeld ?_
      rotate_left 1
      · (intro w hSw; go_simp; try with_reducible rfl)
      simp only [Act.put, List.setIfInBounds_toArray, List.set_cons_succ, List.set_cons_zero]
      have hN5 := hN4.others (g := w.heap.size + 1 + 1) (by omega) [.slice a3 lt.length c3] 0
      have hR5 := hR4.sets [.slice a3 lt.length c3] rfl
      have hQ5 := hQ4.others (g := w.heap.size + 1 + 1) (by omega) [.slice a3 lt.length c3] 0
      have hRf := hR5.others (g := w.heap.size + 1 + 1 + 1) (by omega) (stC st) 0
      have hQf := hQ5.sets (stC st) rfl
      refine step_store 3 29 (w.heap.size + 1 + 1) [.slice a3 lt.length c3] (by kernel_rfl) rfl rfl (by rfl) (by rfl) (by rfl) (by rfl) hR4.there sizeTree (by intro v hv; simp at hv; subst hv; rfl) hN5 ?_
      refine step_store 4 51 (w.heap.size + 1 + 1 + 1) (stC st) (by kernel_rfl) rfl rfl (by rfl) (by rfl) (by rfl) (by rfl) hQ5.there sizeStep (stC_one _) (hN5.others (by omega) _ _) ?_
      refine take_yes 5 6 (v := ?_) rfl rfl (by kernel_rfl) (by kernel_rfl) (by kernel_rfl) (fun _ _ _ h => h) (by rfl) ?_ (hN5.others (by omega) _ _) ?_
      rotate_left 1
      · (intro w hSw; go_simp; try with_reducible rfl)
      simp only [Act.put, List.setIfInBounds_toArray, List.set_cons_succ, List.set_cons_zero]
      refine wpAnyH_done (by kernel_rfl) ?_ _
      go_wp2
      refine ret_cell_cell_tmp Try.results23 rfl rfl rfl hRf.tree (hQf.load Try.underlying51 rfl sizeStep) ?_
      refine ⟨a3, c3, ?_, ?_, ?_⟩
      · rw [HZ2.out, HLT.out, HST.out]; rfl
      · rw [HLT.out]
        exact HP4.out.imp id (fun h => (OwnS.others (w.heap.size + 1 + 1 + 1) (by omega) (stC st) 0 _ (OwnS.others (w.heap.size + 1 + 1) (by omega) [.slice a3 lt.length c3] 0 _ (show OwnS (w3.alloc (.cells (stC st).toArray 51)).drew _ _ _ from h))).mono (by omega))
      · exact below_sets (below_sets HB4.out.drew (w.heap.size + 1 + 1) (by omega) [.slice a3 lt.length c3] 0) (w.heap.size + 1 + 1 + 1) (by omega) (stC st) 0
    · have hz2' : (checkOp (o1, o2, (o3, o4, o5), o6, o7) != 0) = true := by simpa using hz2
      have HU : Hid (doE l (o1, o2, (o3, o4, o5), o6, o7) = checkOp (o1, o2, (o3, o4, o5), o6, o7) ∧ doT l (o1, o2, (o3, o4, o5), o6, o7) = [] ∧ doS l (o1, o2, (o3, o4, o5), o6, o7) = noStep) :=
        ⟨HE.out, by unfold doT; rw [if_pos (by rw [HE.out]; exact hz2)], by unfold doS; rw [if_pos (by rw [HE.out]; exact hz2)]⟩
      generalize checkOp (o1, o2, (o3, o4, o5), o6, o7) = E at *
      clear hz2
      have r0 := hR2.at 0 rfl
      have rf := hR2.frz
      have HR : Hid (Blk w2 (w.heap.size + 1 + 1) [Value.slice none 0 0]) := hR2
      have HQ : Hid (Blk w2 (w.heap.size + 1 + 1 + 1) (stC noStep)) := hQ2
      clear hT2 hO2 hR2 hQ2
      have HTH : Hid ((w2.setCell ⟨w.heap.size + 1 + 1, 0, none⟩ (.slice none 0 0)).there (w.heap.size + 1 + 1 + 1) 0 11) := (HQ.out.other (g := w.heap.size + 1 + 1) (by omega) 0 (.slice none 0 0)).there
      go_wp2_with (refine wpList_store_mid (by rfl) 51 _ _ (by rfl) (w.heap.size + 1 + 1 + 1) 0 (stC noStep).toArray (by rfl) (by rfl) HTH.out sizeStep (all_oneCell_toArray (stC_one _)) ?_)
      have hRf := (HR.out.set 0 (by simp) (.slice none 0 0)).others (g := w.heap.size + 1 + 1 + 1) (by omega) (stC noStep) 0
      have hQf := (HQ.out.other (g := w.heap.size + 1 + 1) (by omega) 0 (.slice none 0 0)).sets (stC noStep) rfl
      refine ret_cell_cell_tmp Try.results23 rfl rfl rfl hRf.tree (hQf.load Try.underlying51 rfl sizeStep) ?_
      refine ⟨none, 0, ?_, ?_, ?_⟩
      · rw [HU.out.1, HU.out.2.1, HU.out.2.2]; rfl
      · rw [HU.out.2.1]; exact Or.inr (Or.inl ⟨rfl, rfl⟩)
      · exact below_sets (HB2.out.setCell (by show _ ≤ w.heap.size + 1 + 1; omega) _) (w.heap.size + 1 + 1 + 1) (by omega) (stC noStep) 0
  · have hz' : (check l != 0) = true := by simpa using hz
    have HU : Hid (doE l (o1, o2, (o3, o4, o5), o6, o7) = check l ∧ doT l (o1, o2, (o3, o4, o5), o6, o7) = [] ∧ doS l (o1, o2, (o3, o4, o5), o6, o7) = noStep) := by
      have e0 : doE l (o1, o2, (o3, o4, o5), o6, o7) = check l := by unfold doE orI; rw [if_pos hz]
      exact ⟨e0, by unfold doT; rw [if_pos (by rw [e0]; exact hz)], by unfold doS; rw [if_pos (by rw [e0]; exact hz)]⟩
    generalize check l = E at *
    clear hz
    have r0 := hR1.at 0 rfl
    have rf := hR1.frz
    have HR : Hid (Blk w1 (w.heap.size + 1 + 1) [Value.slice none 0 0]) := hR1
    have HQ : Hid (Blk w1 (w.heap.size + 1 + 1 + 1) (stC noStep)) := hQ1
    clear hT1 hO1 hR1 hQ1
    have HTH : Hid ((w1.setCell ⟨w.heap.size + 1 + 1, 0, none⟩ (.slice none 0 0)).there (w.heap.size + 1 + 1 + 1) 0 11) := (HQ.out.other (g := w.heap.size + 1 + 1) (by omega) 0 (.slice none 0 0)).there
    go_wp2_with (refine wpList_store_mid (by rfl) 51 _ _ (by rfl) (w.heap.size + 1 + 1 + 1) 0 (stC noStep).toArray (by rfl) (by rfl) HTH.out sizeStep (all_oneCell_toArray (stC_one _)) ?_)
    have hRf := (HR.out.set 0 (by simp) (.slice none 0 0)).others (g := w.heap.size + 1 + 1 + 1) (by omega) (stC noStep) 0
    have hQf := (HQ.out.other (g := w.heap.size + 1 + 1) (by omega) 0 (.slice none 0 0)).sets (stC noStep) rfl
    refine ret_cell_cell_tmp Try.results23 rfl rfl rfl hRf.tree (hQf.load Try.underlying51 rfl sizeStep) ?_
    refine ⟨none, 0, ?_, ?_, ?_⟩
    · rw [HU.out.1, HU.out.2.1, HU.out.2.2]; rfl
    · rw [HU.out.2.1]; exact Or.inr (Or.inl ⟨rfl, rfl⟩)
    · exact below_sets (HB1.out.setCell (by show _ ≤ w.heap.size + 1 + 1; omega) _) (w.heap.size + 1 + 1 + 1) (by omega) (stC noStep) 0
end Go.Proofs.Ytmbglohfbdaijaa
