/- orangerylaw.moved: the closed fact. -/
import Derived.Test.YtmbglohfbdaijaaDo
import Derived.Test.YtmbglohfbdaijaaUndo
import Derived.Test.YtmbglohfbdaijaaGrown
import Derived.Test.YtmbglohfbdaijaaTakes
namespace Go.Proofs.Ytmbglohfbdaijaa
open Go.ChangeShapes Go.WideShapes Go.ChangeAt Go.RowKit
open Orangery (Pl Mv Stp outL inL check checkOp doE doT doS ring undoE undoT find smallL)

/-- orangerylaw.op -/
def lopO (t u n p : Int) : Mv := (t, u, (n, p, 0), 1, t)

set_option maxHeartbeats 400000 in
theorem lop_any (w : World) (t u n p : Int) :
    Calls Try.prog 49 #[.int .i64 t, .int .i64 u, .int .i64 n, .int .i64 p] w fun e w' => e = .returned (opV (lopO t u n p)) ∧ Below w.heap.size w w' := by
  go_enter Try.func49, Try.ntmps49
  go_wp2
  refine bodyPost_ret (v := opV (lopO t u n p)) (by simp [results, Try.results49, go_sem, lopO]) rfl ⟨rfl, Go.Joins.below_alloc1 w _⟩

/-- behind the boxing of a tree and a step -/
theorem two_boxes {w3 w4 : World} {v : Value} {s : Stp} (hb : Below ((w3.alloc (.cells #[v] 29)).alloc (.cells (stC s).toArray 51)).heap.size ((w3.alloc (.cells #[v] 29)).alloc (.cells (stC s).toArray 51)) w4) :
    Blk w4 w3.heap.size [v] ∧ Blk w4 (w3.heap.size + 1) (stC s) ∧ Below w3.heap.size w3 w4 := by
  have h1 := (Blk.new w3 [v] 29).alloc (.cells (stC s).toArray 51)
  have h2 := Blk.new (w3.alloc (.cells #[v] 29)) (stC s) 51
  rw [World.size_alloc] at h2
  exact ⟨h1.keep hb, h2.keep hb, (Go.Joins.below_alloc2 w3 _ _).trans (hb.mono (by simp; omega))⟩
/-- behind the boxing of a tree -/
theorem one_box {w3 w4 : World} {v : Value} (hb : Below (w3.alloc (.cells #[v] 29)).heap.size (w3.alloc (.cells #[v] 29)) w4) :
    Blk w4 w3.heap.size [v] ∧ Below w3.heap.size w3 w4 :=
  ⟨(Blk.new w3 [v] 29).keep hb, (Go.Joins.below_alloc1 w3 _).trans (hb.mono (by simp))⟩

theorem OwnS.read {w : World} {base : Nat} {a : Option Addr} {n c : Nat} {l : List Pl} (h : OwnS w base (.slice a n c) l) : SlP w a l := by
  obtain ⟨a', c', e, h'⟩ := h.slp
  obtain ⟨rfl, _⟩ : a = a' ∧ _ := by simpa using e
  exact h'

theorem mv1 : doE smallL (lopO 1 0 2 3) = 0 ∧ (doS smallL (lopO 1 0 2 3)).2.1 = true ∧ (doS smallL (lopO 1 0 2 3)).2.2.2.1 = 1 ∧ (find (doT smallL (lopO 1 0 2 3)) 2).2.1 = 3 ∧ (doT smallL (lopO 1 0 2 3)).length = 4 := by decide
theorem mv2 : undoE (doT smallL (lopO 1 0 2 3)) (doS smallL (lopO 1 0 2 3)) = 0 ∧ undoT (doT smallL (lopO 1 0 2 3)) (doS smallL (lopO 1 0 2 3)) = smallL := by decide
theorem mv3 : doE smallL (lopO 1 0 1 4) = 0 ∧ (doS smallL (lopO 1 0 1 4)).2.1 = false ∧ doT smallL (lopO 1 0 1 4) = smallL := by decide
theorem mv4 : doE smallL (lopO 1 0 9 0) = 0 ∧ (doT smallL (lopO 1 0 9 0)).length = 5 := by decide
theorem mv5 : undoE (doT smallL (lopO 1 0 9 0)) (doS smallL (lopO 1 0 9 0)) = 0 ∧ undoT (doT smallL (lopO 1 0 9 0)) (doS smallL (lopO 1 0 9 0)) = smallL := by decide
theorem mv6 : checkOp (lopO 1 0 16 0) = 3 := by decide

set_option maxHeartbeats 4000000 in
set_option maxRecDepth 100000 in
theorem moved_any (w : World) :
    Calls Try.prog 25 #[] w fun e w' => e = .returned (.bool true) ∧ Below w.heap.size w w' := by
  have hfl := run_field_pl
  have hft := run_field_tree
  go_enter Try.func25, Try.ntmps25
  go_wp2_with fail
  refine (small_any _).mono ?_
  rintro e w1 ⟨⟨a0, rfl, P0_w1⟩, hb⟩
  have HBww1 : Hid (Below w.heap.size w w1) := hb
  clear hb
  go_wp2_with fail
  refine (lop_any _ 1 0 2 3).mono ?_
  rintro e w2 ⟨rfl, hb⟩
  have HBww2 : Hid (Below w.heap.size w w2) := HBww1.out.trans (hb.mono HBww1.out.size)
  have P0_w2 := P0_w1.below hb
  clear P0_w1
  clear hb HBww1
  go_wp2_with fail
  refine (do_any _ a0 4 smallL (lopO 1 0 2 3) smallLen P0_w2).mono ?_
  rintro e w3 ⟨v, rfl, hO, hb⟩
  have HBww3 : Hid (Below w.heap.size w w3) := HBww2.out.trans (hb.mono HBww2.out.size)
  clear hb HBww2
  obtain ⟨aT, cT, rfl⟩ := hO.val
  have PT_w3 := hO.read
  clear hO
  rw [mv1.1]
  generalize hlT : doT smallL (lopO 1 0 2 3) = lT at *
  generalize hsT : doS smallL (lopO 1 0 2 3) = sT at *
  have FT : Hid ((undoE lT sT = 0 ∧ undoT lT sT = smallL) ∧ sT.2.1 = true ∧ sT.2.2.2.1 = 1 ∧ (find lT 2).2.1 = 3 ∧ lT.length = 4) := by show _ ∧ _; rw [← hlT, ← hsT]; exact ⟨mv2, mv1.2⟩
  clear hlT hsT
  have lenT : lT.length ≤ maxLen := by rw [FT.out.2.2.2.2]; unfold maxLen; omega
  go_wp2_with fail
  refine (undo_any _ aT cT lT sT lenT (PT_w3.below (Go.Joins.below_alloc2 _ _ _))).mono ?_
  rintro e w4 ⟨v, rfl, hO, hb'⟩
  obtain ⟨BT_w4, BS_w4, hb⟩ := two_boxes (w3 := w3) hb'
  clear hb'
  have HBww4 : Hid (Below w.heap.size w w4) := HBww3.out.trans (hb.mono HBww3.out.size)
  have PT_w4 := PT_w3.below hb
  clear PT_w3
  clear hb HBww3
  obtain ⟨aU, cU, rfl⟩ := hO.val
  have PU_w4 := hO.read
  clear hO
  rw [FT.out.1.1]
  generalize hlU : undoT lT sT = lU at *
  have EU : Hid (lU = smallL) := FT.out.1.2
  clear hlU
  go_wp2_with fail
  refine (small_any _).mono ?_
  rintro e w5 ⟨⟨a1, rfl, P1_w5⟩, hb'⟩
  obtain ⟨BU_w5, hb⟩ := one_box (w3 := w4) hb'
  clear hb'
  have HBww5 : Hid (Below w.heap.size w w5) := HBww4.out.trans (hb.mono HBww4.out.size)
  have BT_w5 := BT_w4.keep hb
  have BS_w5 := BS_w4.keep hb
  clear BT_w4 BS_w4
  have PT_w5 := PT_w4.below hb
  have PU_w5 := PU_w4.below hb
  clear PT_w4 PU_w4
  clear hb HBww4
  go_wp2_with fail
  refine (lop_any _ 1 0 1 4).mono ?_
  rintro e w6 ⟨rfl, hb⟩
  have HBww6 : Hid (Below w.heap.size w w6) := HBww5.out.trans (hb.mono HBww5.out.size)
  have BT_w6 := BT_w5.keep hb
  have BS_w6 := BS_w5.keep hb
  have BU_w6 := BU_w5.keep hb
  clear BT_w5 BS_w5 BU_w5
  have PT_w6 := PT_w5.below hb
  have PU_w6 := PU_w5.below hb
  have P1_w6 := P1_w5.below hb
  clear PT_w5 PU_w5 P1_w5
  clear hb HBww5
  go_wp2_with fail
  refine (do_any _ a1 4 smallL (lopO 1 0 1 4) smallLen P1_w6).mono ?_
  rintro e w7 ⟨v, rfl, hO, hb⟩
  have HBww7 : Hid (Below w.heap.size w w7) := HBww6.out.trans (hb.mono HBww6.out.size)
  have BT_w7 := BT_w6.keep hb
  have BS_w7 := BS_w6.keep hb
  have BU_w7 := BU_w6.keep hb
  clear BT_w6 BS_w6 BU_w6
  have PT_w7 := PT_w6.below hb
  have PU_w7 := PU_w6.below hb
  clear PT_w6 PU_w6
  clear hb HBww6
  obtain ⟨aV, cV, rfl⟩ := hO.val
  have PV_w7 := hO.read
  clear hO
  rw [mv3.1]
  generalize hlV : doT smallL (lopO 1 0 1 4) = lV at *
  generalize hsV : doS smallL (lopO 1 0 1 4) = sV at *
  have FV : Hid (sV.2.1 = false ∧ lV = smallL) := by show _ ∧ _; rw [← hlV, ← hsV]; exact mv3.2
  clear hlV hsV
  go_wp2_with fail
  refine (small_any _).mono ?_
  rintro e w8 ⟨⟨a2, rfl, P2_w8⟩, hb'⟩
  obtain ⟨BV_w8, BR_w8, hb⟩ := two_boxes (w3 := w7) hb'
  clear hb'
  have HBww8 : Hid (Below w.heap.size w w8) := HBww7.out.trans (hb.mono HBww7.out.size)
  have BT_w8 := BT_w7.keep hb
  have BS_w8 := BS_w7.keep hb
  have BU_w8 := BU_w7.keep hb
  clear BT_w7 BS_w7 BU_w7
  have PT_w8 := PT_w7.below hb
  have PU_w8 := PU_w7.below hb
  have PV_w8 := PV_w7.below hb
  clear PT_w7 PU_w7 PV_w7
  clear hb HBww7
  go_wp2_with fail
  refine (lop_any _ 1 0 9 0).mono ?_
  rintro e w9 ⟨rfl, hb⟩
  have HBww9 : Hid (Below w.heap.size w w9) := HBww8.out.trans (hb.mono HBww8.out.size)
  have BT_w9 := BT_w8.keep hb
  have BS_w9 := BS_w8.keep hb
  have BU_w9 := BU_w8.keep hb
  have BV_w9 := BV_w8.keep hb
  have BR_w9 := BR_w8.keep hb
  clear BT_w8 BS_w8 BU_w8 BV_w8 BR_w8
  have PT_w9 := PT_w8.below hb
  have PU_w9 := PU_w8.below hb
  have PV_w9 := PV_w8.below hb
  have P2_w9 := P2_w8.below hb
  clear PT_w8 PU_w8 PV_w8 P2_w8
  clear hb HBww8
  go_wp2_with fail
  refine (do_any _ a2 4 smallL (lopO 1 0 9 0) smallLen P2_w9).mono ?_
  rintro e w10 ⟨v, rfl, hO, hb⟩
  have HBww10 : Hid (Below w.heap.size w w10) := HBww9.out.trans (hb.mono HBww9.out.size)
  have BT_w10 := BT_w9.keep hb
  have BS_w10 := BS_w9.keep hb
  have BU_w10 := BU_w9.keep hb
  have BV_w10 := BV_w9.keep hb
  have BR_w10 := BR_w9.keep hb
  clear BT_w9 BS_w9 BU_w9 BV_w9 BR_w9
  have PT_w10 := PT_w9.below hb
  have PU_w10 := PU_w9.below hb
  have PV_w10 := PV_w9.below hb
  clear PT_w9 PU_w9 PV_w9
  clear hb HBww9
  obtain ⟨aW, cW, rfl⟩ := hO.val
  have PW_w10 := hO.read
  clear hO
  rw [mv4.1]
  generalize hlW : doT smallL (lopO 1 0 9 0) = lW at *
  generalize hsW : doS smallL (lopO 1 0 9 0) = sW at *
  have FW : Hid ((undoE lW sW = 0 ∧ undoT lW sW = smallL) ∧ lW.length = 5) := by show _ ∧ _; rw [← hlW, ← hsW]; exact ⟨mv5, mv4.2⟩
  clear hlW hsW
  have lenW : lW.length ≤ maxLen := by rw [FW.out.2]; unfold maxLen; omega
  go_wp2_with fail
  refine (undo_any _ aW cW lW sW lenW (PW_w10.below (Go.Joins.below_alloc2 _ _ _))).mono ?_
  rintro e w11 ⟨v, rfl, hO, hb'⟩
  obtain ⟨BW_w11, BQ_w11, hb⟩ := two_boxes (w3 := w10) hb'
  clear hb'
  have HBww11 : Hid (Below w.heap.size w w11) := HBww10.out.trans (hb.mono HBww10.out.size)
  have BT_w11 := BT_w10.keep hb
  have BS_w11 := BS_w10.keep hb
  have BU_w11 := BU_w10.keep hb
  have BV_w11 := BV_w10.keep hb
  have BR_w11 := BR_w10.keep hb
  clear BT_w10 BS_w10 BU_w10 BV_w10 BR_w10
  have PT_w11 := PT_w10.below hb
  have PU_w11 := PU_w10.below hb
  have PV_w11 := PV_w10.below hb
  have PW_w11 := PW_w10.below hb
  clear PT_w10 PU_w10 PV_w10 PW_w10
  clear hb HBww10
  obtain ⟨aX, cX, rfl⟩ := hO.val
  have PX_w11 := hO.read
  clear hO
  rw [FW.out.1.1]
  generalize hlX : undoT lW sW = lX at *
  have EX : Hid (lX = smallL) := FW.out.1.2
  clear hlX
  obtain ⟨WX, hW, BX, hbx, hzx⟩ := laid1 w11 [Value.slice aX (lX).length cX] 29
  go_upto_region 6 with fail
  try rw [hW]
  clear hW
  have BT := BT_w11.keep hbx
  have BS := BS_w11.keep hbx
  have BU := BU_w11.keep hbx
  have BV := BV_w11.keep hbx
  have BR := BR_w11.keep hbx
  have BW := BW_w11.keep hbx
  have PT := PT_w11.below hbx
  have PU := PU_w11.below hbx
  have PV := PV_w11.below hbx
  have PX := PX_w11.below hbx
  have HBX : Hid (Below w.heap.size w WX) := HBww11.out.trans (hbx.mono HBww11.out.size)
  have HB0 : Hid (Below WX.heap.size WX WX.drew) := (Below.refl _ WX).drew
  have kS7 : ∀ w', Below WX.heap.size WX w' → w'.cell? ⟨w3.heap.size + 1, 7, none⟩ = some (.bool true) := fun w' h => by have := (BS.keep h).at 7 rfl; rw [FT.out.2.1] at this; exact this
  have kS9 : ∀ w', Below WX.heap.size WX w' → w'.cell? ⟨w3.heap.size + 1, 9, none⟩ = some (.int .i64 1) := fun w' h => by have := (BS.keep h).at 9 rfl; rw [FT.out.2.2.1] at this; exact this
  have kT : ∀ w', Below WX.heap.size WX w' → w'.cell? ⟨w3.heap.size, 0, none⟩ = some (.slice aT (lT).length cT) := fun w' h => by have := (BT.keep h).at 0 rfl; exact this
  have kU : ∀ w', Below WX.heap.size WX w' → w'.cell? ⟨w4.heap.size, 0, none⟩ = some (.slice aU (lU).length cU) := fun w' h => by have := (BU.keep h).at 0 rfl; exact this
  have kR7 : ∀ w', Below WX.heap.size WX w' → w'.cell? ⟨w7.heap.size + 1, 7, none⟩ = some (.bool false) := fun w' h => by have := (BR.keep h).at 7 rfl; rw [FV.out.1] at this; exact this
  have kV : ∀ w', Below WX.heap.size WX w' → w'.cell? ⟨w7.heap.size, 0, none⟩ = some (.slice aV (lV).length cV) := fun w' h => by have := (BV.keep h).at 0 rfl; exact this
  have kW : ∀ w', Below WX.heap.size WX w' → w'.cell? ⟨w10.heap.size, 0, none⟩ = some (.slice aW (lW).length cW) := fun w' h => by have := (BW.keep h).at 0 rfl; exact this
  have kX : ∀ w', Below WX.heap.size WX w' → w'.cell? ⟨w11.heap.size, 0, none⟩ = some (.slice aX (lX).length cX) := fun w' h => by have := (BX.keep h).at 0 rfl; exact this
  have q1 : ((find (lT) 2).2.1 == 3) = true := by rw [FT.out.2.2.2.1]; rfl
  have q5 : (((lW).length : Int) == 5) = true := by rw [FW.out.2]; rfl
  have QU : Hid (eqPls (lU) smallL = true) := by show _ = _; rw [EU.out]; simp [eqPls]
  have QV : Hid (eqPls (lV) smallL = true) := by show _ = _; rw [FV.out.2]; simp [eqPls]
  have QX : Hid (eqPls (lX) smallL = true) := by show _ = _; rw [EX.out]; simp [eqPls]
  have HPT : Hid (SlP WX aT (lT)) := PT
  have HPU : Hid (SlP WX aU (lU)) := PU
  have HPV : Hid (SlP WX aV (lV)) := PV
  have HPX : Hid (SlP WX aX (lX)) := PX
  have LU : Hid ((lU).length ≤ maxLen) := by show _ ≤ _; rw [EU.out]; exact smallLen
  have LV : Hid ((lV).length ≤ maxLen) := by show _ ≤ _; rw [FV.out.2]; exact smallLen
  have LX : Hid ((lX).length ≤ maxLen) := by show _ ≤ _; rw [EX.out]; exact smallLen
  clear PT PU PV PX BT BS BU BV BR BW BX hbx BT_w11 BS_w11 BU_w11 BV_w11 BR_w11 BW_w11 BQ_w11 PT_w11 PU_w11 PV_w11 PW_w11 PX_w11
  dsimp only [List.append]
  have KEEP : Hid (∀ w', Below WX.heap.size WX w' → w'.cell? ⟨w3.heap.size + 1, 7, none⟩ = some (.bool true) ∧ w'.cell? ⟨w3.heap.size + 1, 9, none⟩ = some (.int .i64 1) ∧ w'.cell? ⟨w3.heap.size, 0, none⟩ = some (.slice aT (lT).length cT) ∧ w'.cell? ⟨w4.heap.size, 0, none⟩ = some (.slice aU (lU).length cU) ∧ w'.cell? ⟨w7.heap.size + 1, 7, none⟩ = some (.bool false) ∧ w'.cell? ⟨w7.heap.size, 0, none⟩ = some (.slice aV (lV).length cV) ∧ w'.cell? ⟨w10.heap.size, 0, none⟩ = some (.slice aW (lW).length cW) ∧ w'.cell? ⟨w11.heap.size, 0, none⟩ = some (.slice aX (lX).length cX)) := fun w' h => ⟨kS7 w' h, kS9 w' h, kT w' h, kU w' h, kR7 w' h, kV w' h, kW w' h, kX w' h⟩
  have hS' := HB0.out
  clear HB0 kS7 kS9 kT kU kR7 kV kW kX
  refine wp_region_held_drew (S := fun w' => w'.cell? ⟨w3.heap.size + 1, 7, none⟩ = some (.bool true) ∧ w'.cell? ⟨w3.heap.size + 1, 9, none⟩ = some (.int .i64 1) ∧ w'.cell? ⟨w3.heap.size, 0, none⟩ = some (.slice aT (lT).length cT) ∧ w'.cell? ⟨w4.heap.size, 0, none⟩ = some (.slice aU (lU).length cU) ∧ w'.cell? ⟨w7.heap.size + 1, 7, none⟩ = some (.bool false) ∧ w'.cell? ⟨w7.heap.size, 0, none⟩ = some (.slice aV (lV).length cV) ∧ w'.cell? ⟨w10.heap.size, 0, none⟩ = some (.slice aW (lW).length cW) ∧ w'.cell? ⟨w11.heap.size, 0, none⟩ = some (.slice aX (lX).length cX)) (by kernel_rfl) (KEEP.out _ hS') (fun hHeld => ?_)
  refine take_yes 0 47 (v := ?_) rfl rfl (by kernel_rfl) (by kernel_rfl) (by kernel_rfl) (fun _ _ _ h => h) (by rfl) ?_ (by assumption) ?_
  rotate_left 1
  · (intro w hSw; (try dsimp only at hSw); go_simp; try with_reducible rfl)
  simp only [Act.put, List.setIfInBounds_toArray, List.set_cons_succ, List.set_cons_zero]
  refine take_yes 1 48 (v := ?_) rfl rfl (by kernel_rfl) (by kernel_rfl) (by kernel_rfl) (fun _ _ _ h => h) (by rfl) ?_ (by assumption) ?_
  rotate_left 1
  · (intro w hSw; (try dsimp only at hSw); go_simp; try with_reducible rfl)
  simp only [Act.put, List.setIfInBounds_toArray, List.set_cons_succ, List.set_cons_zero]
  refine take_yes 2 49 (v := ?_) rfl rfl (by kernel_rfl) (by kernel_rfl) (by kernel_rfl) (fun _ _ _ h => h) (by rfl) ?_ (by assumption) ?_
  rotate_left 1
  · (intro w hSw; (try dsimp only at hSw); go_simp; try with_reducible rfl)
  simp only [Act.put, List.setIfInBounds_toArray, List.set_cons_succ, List.set_cons_zero]
  refine take_yes 3 50 (v := ?_) rfl rfl (by kernel_rfl) (by kernel_rfl) (by kernel_rfl) (fun _ _ _ h => h) (by rfl) ?_ (by assumption) ?_
  rotate_left 1
  · (intro w hSw; (try dsimp only at hSw); go_simp; try with_reducible rfl)
  simp only [Act.put, List.setIfInBounds_toArray, List.set_cons_succ, List.set_cons_zero]
  refine take_yes 4 51 (v := ?_) rfl rfl (by kernel_rfl) (by kernel_rfl) (by kernel_rfl) (fun _ _ _ h => h) (by rfl) ?_ (by assumption) ?_
  rotate_left 1
  · (intro w hSw; (try dsimp only at hSw); go_simp; try with_reducible rfl)
  simp only [Act.put, List.setIfInBounds_toArray, List.set_cons_succ, List.set_cons_zero]
  refine take_yes 5 52 (v := ?_) rfl rfl (by kernel_rfl) (by kernel_rfl) (by kernel_rfl) (fun _ _ _ h => h) (by rfl) ?_ (by assumption) ?_
  rotate_left 1
  · (intro w hSw; (try dsimp only at hSw); go_simp; try with_reducible rfl)
  simp only [Act.put, List.setIfInBounds_toArray, List.set_cons_succ, List.set_cons_zero]
  refine take_yes 6 53 (v := ?_) rfl rfl (by kernel_rfl) (by kernel_rfl) (by kernel_rfl) (fun _ _ _ h => h) (by rfl) ?_ (by assumption) ?_
  rotate_left 1
  · (intro w hSw; (try dsimp only at hSw); go_simp; try with_reducible rfl)
  simp only [Act.put, List.setIfInBounds_toArray, List.set_cons_succ, List.set_cons_zero]
  refine take_yes 7 54 (v := ?_) rfl rfl (by kernel_rfl) (by kernel_rfl) (by kernel_rfl) (fun _ _ _ h => h) (by rfl) ?_ (by assumption) ?_
  rotate_left 1
  · (intro w hSw; (try dsimp only at hSw); go_simp; try with_reducible rfl)
  simp only [Act.put, List.setIfInBounds_toArray, List.set_cons_succ, List.set_cons_zero]
  refine take_yes 8 55 (v := ?_) rfl rfl (by kernel_rfl) (by kernel_rfl) (by kernel_rfl) (fun _ _ _ h => h) (by rfl) ?_ (by assumption) ?_
  rotate_left 1
  · (intro w hSw; (try dsimp only at hSw); go_simp; try with_reducible rfl)
  simp only [Act.put, List.setIfInBounds_toArray, List.set_cons_succ, List.set_cons_zero]
  refine take_yes 9 56 (v := ?_) rfl rfl (by kernel_rfl) (by kernel_rfl) (by kernel_rfl) (fun _ _ _ h => h) (by rfl) ?_ (by assumption) ?_
  rotate_left 1
  · (intro w hSw; (try dsimp only at hSw); go_simp; try with_reducible rfl)
  simp only [Act.put, List.setIfInBounds_toArray, List.set_cons_succ, List.set_cons_zero]
  refine take_yes 10 57 (v := ?_) rfl rfl (by kernel_rfl) (by kernel_rfl) (by kernel_rfl) (fun _ _ _ h => h) (by rfl) ?_ (by assumption) ?_
  rotate_left 1
  · (intro w hSw; (try dsimp only at hSw); go_simp; try with_reducible rfl)
  simp only [Act.put, List.setIfInBounds_toArray, List.set_cons_succ, List.set_cons_zero]
  refine take_yes 11 58 (v := ?_) rfl rfl (by kernel_rfl) (by kernel_rfl) (by kernel_rfl) (fun _ _ _ h => h) (by rfl) ?_ (by assumption) ?_
  rotate_left 1
  · (intro w hSw; (try dsimp only at hSw); go_simp; try with_reducible rfl)
  simp only [Act.put, List.setIfInBounds_toArray, List.set_cons_succ, List.set_cons_zero]
  refine take_yes 12 59 (v := ?_) rfl rfl (by kernel_rfl) (by kernel_rfl) (by kernel_rfl) (fun _ _ _ h => h) (by rfl) ?_ (by assumption) ?_
  rotate_left 1
  · (intro w hSw; (try dsimp only at hSw); go_simp; try with_reducible rfl)
  simp only [Act.put, List.setIfInBounds_toArray, List.set_cons_succ, List.set_cons_zero]
  refine take_yes 13 60 (v := ?_) rfl rfl (by kernel_rfl) (by kernel_rfl) (by kernel_rfl) (fun _ _ _ h => h) (by rfl) ?_ (by assumption) ?_
  rotate_left 1
  · (intro w hSw; (try dsimp only at hSw); go_simp; try with_reducible rfl)
  simp only [Act.put, List.setIfInBounds_toArray, List.set_cons_succ, List.set_cons_zero]
  refine take_yes 14 61 (v := ?_) rfl rfl (by kernel_rfl) (by kernel_rfl) (by kernel_rfl) (fun _ _ _ h => h) (by rfl) ?_ (by assumption) ?_
  rotate_left 1
  · (intro w hSw; (try dsimp only at hSw); go_simp; try with_reducible rfl)
  simp only [Act.put, List.setIfInBounds_toArray, List.set_cons_succ, List.set_cons_zero]
  refine take_yes 15 62 (v := ?_) rfl rfl (by kernel_rfl) (by kernel_rfl) (by kernel_rfl) (fun _ _ _ h => h) (by rfl) ?_ (by assumption) ?_
  rotate_left 1
  · (intro w hSw; (try dsimp only at hSw); go_simp; try with_reducible rfl)
  simp only [Act.put, List.setIfInBounds_toArray, List.set_cons_succ, List.set_cons_zero]
  refine take_yes 16 63 (v := ?_) rfl rfl (by kernel_rfl) (by kernel_rfl) (by kernel_rfl) (fun _ _ _ h => h) (by rfl) ?_ (by assumption) ?_
  rotate_left 1
  · (intro w hSw; (try dsimp only at hSw); go_simp; try with_reducible rfl)
  simp only [Act.put, List.setIfInBounds_toArray, List.set_cons_succ, List.set_cons_zero]
  refine take_yes 17 64 (v := ?_) rfl rfl (by kernel_rfl) (by kernel_rfl) (by kernel_rfl) (fun _ _ _ h => h) (by rfl) ?_ (by assumption) ?_
  rotate_left 1
  · (intro w hSw; (try dsimp only at hSw); go_simp; try with_reducible rfl)
  simp only [Act.put, List.setIfInBounds_toArray, List.set_cons_succ, List.set_cons_zero]
  refine take_yes 18 65 (v := ?_) rfl rfl (by kernel_rfl) (by kernel_rfl) (by kernel_rfl) (fun _ _ _ h => h) (by rfl) ?_ (by assumption) ?_
  rotate_left 1
  · (intro w hSw; (try dsimp only at hSw); go_simp; try with_reducible rfl)
  simp only [Act.put, List.setIfInBounds_toArray, List.set_cons_succ, List.set_cons_zero]
  refine take_yes 19 66 (v := ?_) rfl rfl (by kernel_rfl) (by kernel_rfl) (by kernel_rfl) (fun _ _ _ h => h) (by rfl) ?_ (by assumption) ?_
  rotate_left 1
  · (intro w hSw; (try dsimp only at hSw); go_simp; try with_reducible rfl)
  simp only [Act.put, List.setIfInBounds_toArray, List.set_cons_succ, List.set_cons_zero]
  refine take_yes 20 67 (v := ?_) rfl rfl (by kernel_rfl) (by kernel_rfl) (by kernel_rfl) (fun _ _ _ h => h) (by rfl) ?_ (by assumption) ?_
  rotate_left 1
  · (intro w hSw; (try dsimp only at hSw); go_simp; try with_reducible rfl)
  simp only [Act.put, List.setIfInBounds_toArray, List.set_cons_succ, List.set_cons_zero]
  refine take_yes 21 68 (v := ?_) rfl rfl (by kernel_rfl) (by kernel_rfl) (by kernel_rfl) (fun _ _ _ h => h) (by rfl) ?_ (by assumption) ?_
  rotate_left 1
  · (intro w hSw; (try dsimp only at hSw); go_simp; try with_reducible rfl)
  simp only [Act.put, List.setIfInBounds_toArray, List.set_cons_succ, List.set_cons_zero]
  refine take_yes 22 69 (v := ?_) rfl rfl (by kernel_rfl) (by kernel_rfl) (by kernel_rfl) (fun _ _ _ h => h) (by rfl) ?_ (by assumption) ?_
  rotate_left 1
  · (intro w hSw; (try dsimp only at hSw); go_simp; try with_reducible rfl)
  simp only [Act.put, List.setIfInBounds_toArray, List.set_cons_succ, List.set_cons_zero]
  refine take_yes 23 70 (v := ?_) rfl rfl (by kernel_rfl) (by kernel_rfl) (by kernel_rfl) (fun _ _ _ h => h) (by rfl) ?_ (by assumption) ?_
  rotate_left 1
  · (intro w hSw; (try dsimp only at hSw); go_simp; try with_reducible rfl)
  simp only [Act.put, List.setIfInBounds_toArray, List.set_cons_succ, List.set_cons_zero]
  refine take_yes 24 71 (v := ?_) rfl rfl (by kernel_rfl) (by kernel_rfl) (by kernel_rfl) (fun _ _ _ h => h) (by rfl) ?_ (by assumption) ?_
  rotate_left 1
  · (intro w hSw; (try dsimp only at hSw); go_simp; try with_reducible rfl)
  simp only [Act.put, List.setIfInBounds_toArray, List.set_cons_succ, List.set_cons_zero]
  refine take_yes 25 72 (v := ?_) rfl rfl (by kernel_rfl) (by kernel_rfl) (by kernel_rfl) (fun _ _ _ h => h) (by rfl) ?_ (by assumption) ?_
  rotate_left 1
  · (intro w hSw; (try dsimp only at hSw); go_simp; try with_reducible rfl)
  simp only [Act.put, List.setIfInBounds_toArray, List.set_cons_succ, List.set_cons_zero]
  refine take_yes 26 73 (v := ?_) rfl rfl (by kernel_rfl) (by kernel_rfl) (by kernel_rfl) (fun _ _ _ h => h) (by rfl) ?_ (by assumption) ?_
  rotate_left 1
  · (intro w hSw; (try dsimp only at hSw); go_simp; try with_reducible rfl)
  simp only [Act.put, List.setIfInBounds_toArray, List.set_cons_succ, List.set_cons_zero]
  refine take_yes 27 74 (v := ?_) rfl rfl (by kernel_rfl) (by kernel_rfl) (by kernel_rfl) (fun _ _ _ h => h) (by rfl) ?_ (by assumption) ?_
  rotate_left 1
  · (intro w hSw; (try dsimp only at hSw); go_simp; try with_reducible rfl)
  simp only [Act.put, List.setIfInBounds_toArray, List.set_cons_succ, List.set_cons_zero]
  refine take_yes 28 75 (v := ?_) rfl rfl (by kernel_rfl) (by kernel_rfl) (by kernel_rfl) (fun _ _ _ h => h) (by rfl) ?_ (by assumption) ?_
  rotate_left 1
  · (intro w hSw; (try dsimp only at hSw); go_simp; try with_reducible rfl)
  simp only [Act.put, List.setIfInBounds_toArray, List.set_cons_succ, List.set_cons_zero]
  refine take_yes 29 76 (v := ?_) rfl rfl (by kernel_rfl) (by kernel_rfl) (by kernel_rfl) (fun _ _ _ h => h) (by rfl) ?_ (by assumption) ?_
  rotate_left 1
  · (intro w hSw; (try dsimp only at hSw); go_simp; try with_reducible rfl)
  simp only [Act.put, List.setIfInBounds_toArray, List.set_cons_succ, List.set_cons_zero]
  refine wpAnyH_ready (rs := [30]) (by kernel_rfl) (by simp) ?_
  refine AllReadyH.cons rfl (fun K hK => ?_) AllReadyH.nil
  go_simp
  refine (find_any _ aT cT lT 2 lenT (HPT.out.below hS')).mono ?_
  rintro e wn ⟨rfl, hb⟩
  have hS' : Below WX.heap.size WX wn := Below.trans hS' (hb.mono (Below.size hS'))
  go_wp2_with fail
  refine hK.out _ _ ?_ (fun hHeld => ?_)
  · (try dsimp only); exact KEEP.out _ hS'
  clear hK K
  refine take_yes 31 78 (v := ?_) rfl rfl (by kernel_rfl) (by kernel_rfl) (by kernel_rfl) (fun _ _ _ h => h) (by rfl) ?_ (by assumption) ?_
  rotate_left 1
  · (intro w hSw; (try dsimp only at hSw); go_simp; try with_reducible rfl)
  simp only [Act.put, List.setIfInBounds_toArray, List.set_cons_succ, List.set_cons_zero]
  refine take_yes 32 79 (v := ?_) rfl rfl (by kernel_rfl) (by kernel_rfl) (by kernel_rfl) (fun _ _ _ h => h) (by rfl) ?_ (by assumption) ?_
  rotate_left 1
  · (intro w hSw; (try dsimp only at hSw); go_simp; try with_reducible rfl)
  simp only [Act.put, List.setIfInBounds_toArray, List.set_cons_succ, List.set_cons_zero]
  refine take_yes 33 80 (v := ?_) rfl rfl (by kernel_rfl) (by kernel_rfl) (by kernel_rfl) (fun _ _ _ h => h) (by rfl) ?_ (by assumption) ?_
  rotate_left 1
  · (intro w hSw; (try dsimp only at hSw); go_simp; try with_reducible rfl)
  simp only [Act.put, List.setIfInBounds_toArray, List.set_cons_succ, List.set_cons_zero]
  refine take_yes 34 81 (v := ?_) rfl rfl (by kernel_rfl) (by kernel_rfl) (by kernel_rfl) (fun _ _ _ h => h) (by rfl) ?_ (by assumption) ?_
  rotate_left 1
  · (intro w hSw; (try dsimp only at hSw); go_simp; try with_reducible rfl)
  simp only [Act.put, List.setIfInBounds_toArray, List.set_cons_succ, List.set_cons_zero]
  refine take_yes 35 82 (v := ?_) rfl rfl (by kernel_rfl) (by kernel_rfl) (by kernel_rfl) (fun _ _ _ h => h) (by rfl) ?_ (by assumption) ?_
  rotate_left 1
  · (intro w hSw; (try dsimp only at hSw); go_simp; try with_reducible rfl)
  simp only [Act.put, List.setIfInBounds_toArray, List.set_cons_succ, List.set_cons_zero]
  refine take_yes 36 83 (v := ?_) rfl rfl (by kernel_rfl) (by kernel_rfl) (by kernel_rfl) (fun _ _ _ h => h) (by rfl) ?_ (by assumption) ?_
  rotate_left 1
  · (intro w hSw; (try dsimp only at hSw); go_simp; try with_reducible rfl)
  simp only [Act.put, List.setIfInBounds_toArray, List.set_cons_succ, List.set_cons_zero]
  refine wpAnyH_ready (rs := [37]) (by kernel_rfl) (by simp) ?_
  refine AllReadyH.cons rfl (fun K hK => ?_) AllReadyH.nil
  go_simp
  refine (small_any _).mono ?_
  rintro e wn ⟨⟨asm, rfl, hPs⟩, hb⟩
  have hS' : Below WX.heap.size WX wn := Below.trans hS' (hb.mono (Below.size hS'))
  go_wp2_with fail
  refine hK.out _ _ ?_ (fun hHeld => ?_)
  · (try dsimp only); exact KEEP.out _ hS'
  clear hK K
  refine take_yes 38 85 (v := ?_) rfl rfl (by kernel_rfl) (by kernel_rfl) (by kernel_rfl) (fun _ _ _ h => h) (by rfl) ?_ (by assumption) ?_
  rotate_left 1
  · (intro w hSw; (try dsimp only at hSw); go_simp; try with_reducible rfl)
  simp only [Act.put, List.setIfInBounds_toArray, List.set_cons_succ, List.set_cons_zero]
  refine wpAnyH_ready (rs := [39]) (by kernel_rfl) (by simp) ?_
  refine AllReadyH.cons rfl (fun K hK => ?_) AllReadyH.nil
  go_simp
  refine (equal_pls _ aU asm cU 4 lU smallL LU.out (HPU.out.below hS') hPs).mono ?_
  rintro e wn ⟨rfl, nn, hnn⟩
  have hS' : Below WX.heap.size WX wn := (by rw [hnn]; exact Below.trans hS' (Go.Joins.below_draws _ _ nn))
  rw [QU.out]
  clear hnn
  go_wp2_with fail
  refine hK.out _ _ ?_ (fun hHeld => ?_)
  · (try dsimp only); exact KEEP.out _ hS'
  clear hK K
  refine take_yes 40 87 (v := ?_) rfl rfl (by kernel_rfl) (by kernel_rfl) (by kernel_rfl) (fun _ _ _ h => h) (by rfl) ?_ (by assumption) ?_
  rotate_left 1
  · (intro w hSw; (try dsimp only at hSw); go_simp; try with_reducible rfl)
  simp only [Act.put, List.setIfInBounds_toArray, List.set_cons_succ, List.set_cons_zero]
  refine take_yes 41 88 (v := ?_) rfl rfl (by kernel_rfl) (by kernel_rfl) (by kernel_rfl) (fun _ _ _ h => h) (by rfl) ?_ (by assumption) ?_
  rotate_left 1
  · (intro w hSw; (try dsimp only at hSw); go_simp; try with_reducible rfl)
  simp only [Act.put, List.setIfInBounds_toArray, List.set_cons_succ, List.set_cons_zero]
  refine take_yes 42 89 (v := ?_) rfl rfl (by kernel_rfl) (by kernel_rfl) (by kernel_rfl) (fun _ _ _ h => h) (by rfl) ?_ (by assumption) ?_
  rotate_left 1
  · (intro w hSw; (try dsimp only at hSw); go_simp; try with_reducible rfl)
  simp only [Act.put, List.setIfInBounds_toArray, List.set_cons_succ, List.set_cons_zero]
  refine take_yes 43 90 (v := ?_) rfl rfl (by kernel_rfl) (by kernel_rfl) (by kernel_rfl) (fun _ _ _ h => h) (by rfl) ?_ (by assumption) ?_
  rotate_left 1
  · (intro w hSw; (try dsimp only at hSw); go_simp; try with_reducible rfl)
  simp only [Act.put, List.setIfInBounds_toArray, List.set_cons_succ, List.set_cons_zero]
  refine take_yes 44 91 (v := ?_) rfl rfl (by kernel_rfl) (by kernel_rfl) (by kernel_rfl) (fun _ _ _ h => h) (by rfl) ?_ (by assumption) ?_
  rotate_left 1
  · (intro w hSw; (try dsimp only at hSw); go_simp; try with_reducible rfl)
  simp only [Act.put, List.setIfInBounds_toArray, List.set_cons_succ, List.set_cons_zero]
  refine take_yes 45 92 (v := ?_) rfl rfl (by kernel_rfl) (by kernel_rfl) (by kernel_rfl) (fun _ _ _ h => h) (by rfl) ?_ (by assumption) ?_
  rotate_left 1
  · (intro w hSw; (try dsimp only at hSw); go_simp; try with_reducible rfl)
  simp only [Act.put, List.setIfInBounds_toArray, List.set_cons_succ, List.set_cons_zero]
  refine take_yes 46 93 (v := ?_) rfl rfl (by kernel_rfl) (by kernel_rfl) (by kernel_rfl) (fun _ _ _ h => h) (by rfl) ?_ (by assumption) ?_
  rotate_left 1
  · (intro w hSw; (try dsimp only at hSw); go_simp; try with_reducible rfl)
  simp only [Act.put, List.setIfInBounds_toArray, List.set_cons_succ, List.set_cons_zero]
  refine take_yes 47 94 (v := ?_) rfl rfl (by kernel_rfl) (by kernel_rfl) (by kernel_rfl) (fun _ _ _ h => h) (by rfl) ?_ (by assumption) ?_
  rotate_left 1
  · (intro w hSw; (try dsimp only at hSw); go_simp; try with_reducible rfl)
  simp only [Act.put, List.setIfInBounds_toArray, List.set_cons_succ, List.set_cons_zero]
  refine take_yes 48 95 (v := ?_) rfl rfl (by kernel_rfl) (by kernel_rfl) (by kernel_rfl) (fun _ _ _ h => h) (by rfl) ?_ (by assumption) ?_
  rotate_left 1
  · (intro w hSw; (try dsimp only at hSw); go_simp; try with_reducible rfl)
  simp only [Act.put, List.setIfInBounds_toArray, List.set_cons_succ, List.set_cons_zero]
  refine wpAnyH_ready (rs := [49]) (by kernel_rfl) (by simp) ?_
  refine AllReadyH.cons rfl (fun K hK => ?_) AllReadyH.nil
  go_simp
  refine (small_any _).mono ?_
  rintro e wn ⟨⟨asm, rfl, hPs⟩, hb⟩
  have hS' : Below WX.heap.size WX wn := Below.trans hS' (hb.mono (Below.size hS'))
  go_wp2_with fail
  refine hK.out _ _ ?_ (fun hHeld => ?_)
  · (try dsimp only); exact KEEP.out _ hS'
  clear hK K
  refine take_yes 50 97 (v := ?_) rfl rfl (by kernel_rfl) (by kernel_rfl) (by kernel_rfl) (fun _ _ _ h => h) (by rfl) ?_ (by assumption) ?_
  rotate_left 1
  · (intro w hSw; (try dsimp only at hSw); go_simp; try with_reducible rfl)
  simp only [Act.put, List.setIfInBounds_toArray, List.set_cons_succ, List.set_cons_zero]
  refine wpAnyH_ready (rs := [51]) (by kernel_rfl) (by simp) ?_
  refine AllReadyH.cons rfl (fun K hK => ?_) AllReadyH.nil
  go_simp
  refine (equal_pls _ aV asm cV 4 lV smallL LV.out (HPV.out.below hS') hPs).mono ?_
  rintro e wn ⟨rfl, nn, hnn⟩
  have hS' : Below WX.heap.size WX wn := (by rw [hnn]; exact Below.trans hS' (Go.Joins.below_draws _ _ nn))
  rw [QV.out]
  clear hnn
  go_wp2_with fail
  refine hK.out _ _ ?_ (fun hHeld => ?_)
  · (try dsimp only); exact KEEP.out _ hS'
  clear hK K
  refine take_yes 52 99 (v := ?_) rfl rfl (by kernel_rfl) (by kernel_rfl) (by kernel_rfl) (fun _ _ _ h => h) (by rfl) ?_ (by assumption) ?_
  rotate_left 1
  · (intro w hSw; (try dsimp only at hSw); go_simp; try with_reducible rfl)
  simp only [Act.put, List.setIfInBounds_toArray, List.set_cons_succ, List.set_cons_zero]
  refine take_yes 53 100 (v := ?_) rfl rfl (by kernel_rfl) (by kernel_rfl) (by kernel_rfl) (fun _ _ _ h => h) (by rfl) ?_ (by assumption) ?_
  rotate_left 1
  · (intro w hSw; (try dsimp only at hSw); go_simp; try with_reducible rfl)
  simp only [Act.put, List.setIfInBounds_toArray, List.set_cons_succ, List.set_cons_zero]
  refine take_yes 54 101 (v := ?_) rfl rfl (by kernel_rfl) (by kernel_rfl) (by kernel_rfl) (fun _ _ _ h => h) (by rfl) ?_ (by assumption) ?_
  rotate_left 1
  · (intro w hSw; (try dsimp only at hSw); go_simp; try with_reducible rfl)
  simp only [Act.put, List.setIfInBounds_toArray, List.set_cons_succ, List.set_cons_zero]
  refine take_yes 55 102 (v := ?_) rfl rfl (by kernel_rfl) (by kernel_rfl) (by kernel_rfl) (fun _ _ _ h => h) (by rfl) ?_ (by assumption) ?_
  rotate_left 1
  · (intro w hSw; (try dsimp only at hSw); go_simp; try with_reducible rfl)
  simp only [Act.put, List.setIfInBounds_toArray, List.set_cons_succ, List.set_cons_zero]
  refine take_yes 56 103 (v := ?_) rfl rfl (by kernel_rfl) (by kernel_rfl) (by kernel_rfl) (fun _ _ _ h => h) (by rfl) ?_ (by assumption) ?_
  rotate_left 1
  · (intro w hSw; (try dsimp only at hSw); go_simp; try with_reducible rfl)
  simp only [Act.put, List.setIfInBounds_toArray, List.set_cons_succ, List.set_cons_zero]
  refine take_yes 57 104 (v := ?_) rfl rfl (by kernel_rfl) (by kernel_rfl) (by kernel_rfl) (fun _ _ _ h => h) (by rfl) ?_ (by assumption) ?_
  rotate_left 1
  · (intro w hSw; (try dsimp only at hSw); go_simp; try with_reducible rfl)
  simp only [Act.put, List.setIfInBounds_toArray, List.set_cons_succ, List.set_cons_zero]
  refine take_yes 58 105 (v := ?_) rfl rfl (by kernel_rfl) (by kernel_rfl) (by kernel_rfl) (fun _ _ _ h => h) (by rfl) ?_ (by assumption) ?_
  rotate_left 1
  · (intro w hSw; (try dsimp only at hSw); go_simp; try with_reducible rfl)
  simp only [Act.put, List.setIfInBounds_toArray, List.set_cons_succ, List.set_cons_zero]
  refine take_yes 59 106 (v := ?_) rfl rfl (by kernel_rfl) (by kernel_rfl) (by kernel_rfl) (fun _ _ _ h => h) (by rfl) ?_ (by assumption) ?_
  rotate_left 1
  · (intro w hSw; (try dsimp only at hSw); go_simp; try with_reducible rfl)
  simp only [Act.put, List.setIfInBounds_toArray, List.set_cons_succ, List.set_cons_zero]
  refine take_yes 60 107 (v := ?_) rfl rfl (by kernel_rfl) (by kernel_rfl) (by kernel_rfl) (fun _ _ _ h => h) (by rfl) ?_ (by assumption) ?_
  rotate_left 1
  · (intro w hSw; (try dsimp only at hSw); go_simp; try with_reducible rfl)
  simp only [Act.put, List.setIfInBounds_toArray, List.set_cons_succ, List.set_cons_zero]
  refine take_yes 61 108 (v := ?_) rfl rfl (by kernel_rfl) (by kernel_rfl) (by kernel_rfl) (fun _ _ _ h => h) (by rfl) ?_ (by assumption) ?_
  rotate_left 1
  · (intro w hSw; (try dsimp only at hSw); go_simp; try with_reducible rfl)
  simp only [Act.put, List.setIfInBounds_toArray, List.set_cons_succ, List.set_cons_zero]
  refine wpAnyH_ready (rs := [62]) (by kernel_rfl) (by simp) ?_
  refine AllReadyH.cons rfl (fun K hK => ?_) AllReadyH.nil
  go_simp
  refine (small_any _).mono ?_
  rintro e wn ⟨⟨asm, rfl, hPs⟩, hb⟩
  have hS' : Below WX.heap.size WX wn := Below.trans hS' (hb.mono (Below.size hS'))
  go_wp2_with fail
  refine hK.out _ _ ?_ (fun hHeld => ?_)
  · (try dsimp only); exact KEEP.out _ hS'
  clear hK K
  refine take_yes 63 110 (v := ?_) rfl rfl (by kernel_rfl) (by kernel_rfl) (by kernel_rfl) (fun _ _ _ h => h) (by rfl) ?_ (by assumption) ?_
  rotate_left 1
  · (intro w hSw; (try dsimp only at hSw); go_simp; try with_reducible rfl)
  simp only [Act.put, List.setIfInBounds_toArray, List.set_cons_succ, List.set_cons_zero]
  refine wpAnyH_ready (rs := [64]) (by kernel_rfl) (by simp) ?_
  refine AllReadyH.cons rfl (fun K hK => ?_) AllReadyH.nil
  go_simp
  refine (equal_pls _ aX asm cX 4 lX smallL LX.out (HPX.out.below hS') hPs).mono ?_
  rintro e wn ⟨rfl, nn, hnn⟩
  have hS' : Below WX.heap.size WX wn := (by rw [hnn]; exact Below.trans hS' (Go.Joins.below_draws _ _ nn))
  rw [QX.out]
  clear hnn
  go_wp2_with fail
  refine hK.out _ _ ?_ (fun hHeld => ?_)
  · (try dsimp only); exact KEEP.out _ hS'
  clear hK K
  refine take_yes 65 112 (v := ?_) rfl rfl (by kernel_rfl) (by kernel_rfl) (by kernel_rfl) (fun _ _ _ h => h) (by rfl) ?_ (by assumption) ?_
  rotate_left 1
  · (intro w hSw; (try dsimp only at hSw); go_simp; try with_reducible rfl)
  simp only [Act.put, List.setIfInBounds_toArray, List.set_cons_succ, List.set_cons_zero]
  refine take_yes 66 113 (v := ?_) rfl rfl (by kernel_rfl) (by kernel_rfl) (by kernel_rfl) (fun _ _ _ h => h) (by rfl) ?_ (by assumption) ?_
  rotate_left 1
  · (intro w hSw; (try dsimp only at hSw); go_simp; try with_reducible rfl)
  simp only [Act.put, List.setIfInBounds_toArray, List.set_cons_succ, List.set_cons_zero]
  refine wpAnyH_ready (rs := [67]) (by kernel_rfl) (by simp) ?_
  refine AllReadyH.cons rfl (fun K hK => ?_) AllReadyH.nil
  go_simp
  refine (lop_any _ 1 0 16 0).mono ?_
  rintro e wn ⟨rfl, hb⟩
  have hS' : Below WX.heap.size WX wn := Below.trans hS' (hb.mono (Below.size hS'))
  go_wp2_with fail
  refine hK.out _ _ ?_ (fun hHeld => ?_)
  · (try dsimp only); exact KEEP.out _ hS'
  clear hK K
  refine wpAnyH_ready (rs := [68]) (by kernel_rfl) (by simp) ?_
  refine AllReadyH.cons rfl (fun K hK => ?_) AllReadyH.nil
  go_simp
  refine (moveCheck_any _ (lopO 1 0 16 0)).mono ?_
  rintro e wn ⟨rfl, hb⟩
  rw [mv6]
  have hS' : Below WX.heap.size WX wn := Below.trans hS' (hb.mono (Below.size hS'))
  go_wp2_with fail
  refine hK.out _ _ ?_ (fun hHeld => ?_)
  · (try dsimp only); exact KEEP.out _ hS'
  clear hK K
  refine take_yes 69 116 (v := ?_) rfl rfl (by kernel_rfl) (by kernel_rfl) (by kernel_rfl) (fun _ _ _ h => h) (by rfl) ?_ (by assumption) ?_
  rotate_left 1
  · (intro w hSw; (try dsimp only at hSw); go_simp; try with_reducible rfl)
  simp only [Act.put, List.setIfInBounds_toArray, List.set_cons_succ, List.set_cons_zero]
  refine take_yes 70 117 (v := ?_) rfl rfl (by kernel_rfl) (by kernel_rfl) (by kernel_rfl) (fun _ _ _ h => h) (by rfl) ?_ (by assumption) ?_
  rotate_left 1
  · (intro w hSw; (try dsimp only at hSw); go_simp; try with_reducible rfl)
  simp only [Act.put, List.setIfInBounds_toArray, List.set_cons_succ, List.set_cons_zero]
  refine take_yes 71 0 (v := ?_) rfl rfl (by kernel_rfl) (by kernel_rfl) (by kernel_rfl) (fun _ _ _ h => h) (by rfl) ?_ (by assumption) ?_
  rotate_left 1
  · (intro w hSw; (try dsimp only at hSw); go_simp; try with_reducible rfl)
  simp only [Act.put, List.setIfInBounds_toArray, List.set_cons_zero]
  refine wpAnyH_done (by kernel_rfl) ?_ _
  go_wp2
  go_ret
  exact ⟨rfl, HBX.out.trans (hS'.mono HBX.out.size)⟩
end Go.Proofs.Ytmbglohfbdaijaa
