/- orangeryref.done: an operation on right places. -/
import Derived.Test.YtphameoibnimmaaPlaces
import Derived.Test.YtphameoibnimmaaRet
import Derived.Test.YtphameoibnimmaaTakes
import Derived.Test.YtphameoibnimmaaChain
import Derived.Deep.DeepCutAuto
namespace Go.Proofs.Ytphameoibnimmaa
open Go.ChangeShapes Go.WideShapes Go.ChangeAt Go.RowKit
open Orangery (Pl Mv Stp outL inL check checkOp doE doT doS ring orI underB find noStep noOp chain hasB tabAt rows scan)

set_option maxHeartbeats 2000000 in
set_option maxRecDepth 100000 in
theorem rdone_any (w : World) (a : Option Addr) (c : Nat) (l : List Pl) (o : Mv) (hl : l.length ≤ maxLen) (h : SlP w a l) (hz : doE l o = 0) :
    Calls Try.prog 58 #[.slice a l.length c, opV o] w
      fun e w' => ∃ a' c', e = .returned (.tuple #[.slice a' (doT l o).length c', stV (doS l o)]) ∧ ((a' = a ∧ doT l o = l) ∨ OwnS w' w.heap.size (.slice a' (doT l o).length c') (doT l o)) ∧ Below w.heap.size w w' := by
  obtain ⟨o1, o2, ⟨o3, o4, o5⟩, o6, o7⟩ := o
  obtain ⟨hck, hco⟩ := Orangery.doE_zero hz
  have hok := Orangery.checkOp_zero hco
  obtain ⟨hr1, hr2, hr3⟩ := Orangery.opOk_place hok
  have hlen := Orangery.check_len l hck
  have hscan := Orangery.check_scan l hck
  have hup := Orangery.scan_up hscan
  have hrg1 := Orangery.under_eq l o4 o3 hck hr3 hr2
  have hn4 := (Orangery.isNodeB_iff o4).1 hr3
  have hn3 := (Orangery.inRangeB_iff (o3, o4, o5)).1 hr1
  have HZ : Hid (doE l (o1, o2, (o3, o4, o5), o6, o7) = 0) := hz
  have HSC : Hid (scan 0 l = 0) := hscan
  have HUP : Hid (∀ p ∈ l, 0 ≤ p.2.1 ∧ p.2.1 ≤ 16) := hup
  have HR1 : Hid (Orangery.inRangeB (o3, o4, o5) = true) := hr1
  have HRG1 : Hid (ring l (o1, o2, (o3, o4, o5), o6, o7) = hasB o3 (chain l o4)) := hrg1
  clear hz hck hco hok hr1 hr2 hr3 hscan hup hrg1
  go_enter Try.func58, Try.ntmps58
  go_wp2_with fail
  obtain ⟨W0, hW, hO, hQ, hB, hS⟩ := laid2 w [Value.int IntKind.i64 o1, Value.int IntKind.i64 o2, Value.int IntKind.i64 o3, Value.int IntKind.i64 o4, Value.int IntKind.i64 o5, Value.int IntKind.i64 o6, Value.int IntKind.i64 o7] 49 [Value.int IntKind.i64 0, Value.int IntKind.i64 0, Value.int IntKind.i64 0, Value.int IntKind.i64 0, Value.int IntKind.i64 0, Value.int IntKind.i64 0, Value.int IntKind.i64 0, Value.bool false, Value.int IntKind.i64 0, Value.int IntKind.i64 0, Value.int IntKind.i64 0] 51
  rw [hW]
  clear hW
  have hP := h.below hB
  have HPW : Hid (SlP w a l) := h
  have HS : Hid (W0.heap.size = w.heap.size + 2) := hS
  clear h hS
  have m0 := hO.at 0 rfl
  have m1 := hO.at 1 rfl
  have m2 := hO.at 2 rfl
  have m3 := hO.at 3 rfl
  have m4 := hO.at 4 rfl
  have m5 := hO.at 5 rfl
  have m6 := hO.at 6 rfl
  have n1 := World.new_ne W0 _ m0
  go_upto_region 1 with fail
  go_cut [6] from 6 to 13 (fun r wc => ∃ bs, r = .pointer (some ⟨bs, 0, none⟩) ∧ W0.heap.size ≤ bs ∧ Blk wc bs (stC ((o1, o2, (o3, o4, o5), o6, o7), false, find l o3)) ∧ Below W0.heap.size W0 wc)
  case first =>
    go_region_held3 (fun w' => w'.cell? ⟨w.heap.size, 0, none⟩ = some (.int .i64 o1) ∧ w'.cell? ⟨w.heap.size, 1, none⟩ = some (.int .i64 o2) ∧ w'.cell? ⟨w.heap.size, 2, none⟩ = some (.int .i64 o3) ∧ w'.cell? ⟨w.heap.size, 3, none⟩ = some (.int .i64 o4) ∧ w'.cell? ⟨w.heap.size, 4, none⟩ = some (.int .i64 o5) ∧ w'.cell? ⟨w.heap.size, 5, none⟩ = some (.int .i64 o6) ∧ w'.cell? ⟨w.heap.size, 6, none⟩ = some (.int .i64 o7)) (go_keep)
      (first | (go_at_call 16; refine (findIn_any _ a c l o3 hl ?_).mono ?_; exact hP; rintro e w5 ⟨rfl, hb5⟩; have hb5' : Below W0.heap.size W0 w5 := ((Below.refl _ W0).drew).trans hb5; have hO5 := hO.keep hb5'; have m10 := hO5.at 0 rfl; have m11 := hO5.at 1 rfl; have m12 := hO5.at 2 rfl; have m13 := hO5.at 3 rfl; have m14 := hO5.at 4 rfl; have m15 := hO5.at 5 rfl; have m16 := hO5.at 6 rfl; have y1 := World.new_ne w5 _ m10) | (go_at_call 16; refine (findIn_any _ a c l o3 hl ?_).mono ?_; exact hP.below (((Below.refl _ W0).alloc (Nat.le_refl _) _).drew); rintro e w5 ⟨rfl, hb5⟩; have hb5' : Below W0.heap.size W0 w5 := (((Below.refl _ W0).alloc (Nat.le_refl _) _).drew).trans (hb5.mono (by simp)); have hN5 := ((Blk.new W0 (stC noStep) 51).drew).keep hb5; have z0 := hN5.at 0 rfl; have z1 := hN5.at 1 rfl; have z2 := hN5.at 2 rfl; have z3 := hN5.at 3 rfl; have z4 := hN5.at 4 rfl; have z5 := hN5.at 5 rfl; have z6 := hN5.at 6 rfl; have z7 := hN5.at 7 rfl; have z8 := hN5.at 8 rfl; have z9 := hN5.at 9 rfl; have z10 := hN5.at 10 rfl; have zf := hN5.frz; have hO5 := hO.keep hb5'; have m10 := hO5.at 0 rfl; have m11 := hO5.at 1 rfl; have m12 := hO5.at 2 rfl; have m13 := hO5.at 3 rfl; have m14 := hO5.at 4 rfl; have m15 := hO5.at 5 rfl; have m16 := hO5.at 6 rfl; have y1 := World.new_ne w5 _ m10))
    · go_wp2
      go_meet
      case rel => exact ⟨w5.heap.size, rfl, hb5'.size, Blk.new w5 (stC ((o1, o2, (o3, o4, o5), o6, o7), false, find l o3)) 51, hb5'.alloc hb5'.size _⟩
    · go_wp2
      go_meet
      case rel => exact ⟨W0.heap.size, rfl, Nat.le_refl _, hN5.sets (stC ((o1, o2, (o3, o4, o5), o6, o7), false, find l o3)) rfl, below_sets hb5' W0.heap.size (Nat.le_refl _) (stC ((o1, o2, (o3, o4, o5), o6, o7), false, find l o3)) 0⟩
  case rest =>
    obtain ⟨bs, rfl, hbs, hS5, hb5⟩ := hcut
    have hS := HS.out
    have hO5 := hO.keep hb5
    have hQ5 := hQ.keep hb5
    have hP5 := hP.below hb5
    have HB5 : Hid (Below w.heap.size w wc) := hB.trans (hb5.mono hB.size)
    have hwc : w.heap.size + 1 + 1 ≤ wc.heap.size := by have := hb5.size; omega
    clear hO hQ hP hB hb5 m0 m1 m2 m3 m4 m5 m6 n1 HS
    rw [hS] at hbs
    clear hS
    have m0 := hO5.at 0 rfl
    have m1 := hO5.at 1 rfl
    have m2 := hO5.at 2 rfl
    have m3 := hO5.at 3 rfl
    have m4 := hO5.at 4 rfl
    have m5 := hO5.at 5 rfl
    have m6 := hO5.at 6 rfl
    go_wp2_with fail
    refine (isUnder_any wc a c l o4 o3 hl hP5 HUP.out hn4.1 hn4.2).mono ?_
    rintro e w6 ⟨rfl, hb6⟩
    rw [← HRG1.out]
    have hO6 := hO5.keep hb6
    have hQ6 := hQ5.keep hb6
    have hS6 := hS5.keep hb6
    have hP6 := hP5.below hb6
    have HB6 : Hid (Below w.heap.size w w6) := HB5.out.trans (hb6.mono HB5.out.size)
    have hw6 : w.heap.size + 1 + 1 ≤ w6.heap.size := by have := hb6.size; omega
    clear hO5 hQ5 hP5 hS5 HB5 hb6 hwc m0 m1 m2 m3 m4 m5 m6 HRG1
    have eS : doS l (o1, o2, (o3, o4, o5), o6, o7) = ((o1, o2, (o3, o4, o5), o6, o7), !ring l (o1, o2, (o3, o4, o5), o6, o7), find l o3) := by unfold doS; rw [if_neg (by simp [HZ.out])]
    have eT : doT l (o1, o2, (o3, o4, o5), o6, o7) = if ring l (o1, o2, (o3, o4, o5), o6, o7) = true then l else inL l (o3, o4, o5) := by unfold doT; rw [if_neg (by simp [HZ.out])]
    have HES : Hid (doS l (o1, o2, (o3, o4, o5), o6, o7) = ((o1, o2, (o3, o4, o5), o6, o7), !ring l (o1, o2, (o3, o4, o5), o6, o7), find l o3)) := eS
    have HET : Hid (doT l (o1, o2, (o3, o4, o5), o6, o7) = if ring l (o1, o2, (o3, o4, o5), o6, o7) = true then l else inL l (o3, o4, o5)) := eT
    clear eS eT
    cases hring : ring l (o1, o2, (o3, o4, o5), o6, o7)
    · have HRING : Hid (ring l (o1, o2, (o3, o4, o5), o6, o7) = false) := hring
      clear hring
      obtain ⟨m, rfl⟩ : ∃ m : Nat, o3 = m := ⟨o3.toNat, by omega⟩
      have hm16 : m < 16 := by omega
      have s7 := hS6.at 7 rfl
      have sf := hS6.frz
      have hS7 := hS6.set 7 (by simp [stC]) (.bool true)
      have hO7 := hO6.other (g := bs) (by omega) 7 (.bool true)
      have hQ7 := hQ6.other (g := bs) (by omega) 7 (.bool true)
      have HB7 : Hid (Below w.heap.size w (w6.setCell ⟨bs, 7, none⟩ (.bool true))) := HB6.out.setCell (by show w.heap.size ≤ bs; omega) _
      have hP7 := HPW.out.below HB7.out
      have hbl : bs < w6.heap.size := hS6.lt
      clear hS6 hO6 hQ6 hP6 HB6
      go_wp2_with fail
      have hsz : (w6.setCell ⟨bs, 7, none⟩ (.bool true)).heap.size = w6.heap.size := by simp
      generalize w6.setCell ⟨bs, 7, none⟩ (.bool true) = W7 at *
      rw [← hsz] at hw6 hbl
      clear hsz s7 sf
      refine (table_any W7 a c l (by omega) hP7 HSC.out).mono ?_
      rintro e w8 ⟨rfl, hb8⟩
      have hS8 := hS7.keep hb8
      have hO8 := hO7.keep hb8
      have hQ8 := hQ7.keep hb8
      have HB8 : Hid (Below w.heap.size w w8) := HB7.out.trans (hb8.mono HB7.out.size)
      have hw8 : w.heap.size + 1 + 1 ≤ w8.heap.size := by have := hb8.size; omega
      have hbl8 : bs < w8.heap.size := by have := hb8.size; omega
      clear hS7 hO7 hQ7 hP7 HB7 hb8 hbl hw6
      have hcs : ((tabL fun n => tabAt l n).flatMap encPl).length = 48 := by rw [flat_len, tabL_len]
      have hone := all_oneCell_toArray (flat_one (tabL fun n => tabAt l n))
      unfold tabV
      generalize hcd : (tabL fun n => tabAt l n).flatMap encPl = cs at *
      have HCD : Hid ((tabL fun n => tabAt l n).flatMap encPl = cs) := hcd
      clear hcd
      have hst : (storeCells ⟨w8.heap.size, 0, none⟩ cs 0).run Try.prog (w8.alloc (.cells #[Value.int IntKind.i64 0, Value.int IntKind.i64 0, Value.int IntKind.i64 0, Value.int IntKind.i64 0, Value.int IntKind.i64 0, Value.int IntKind.i64 0, Value.int IntKind.i64 0, Value.int IntKind.i64 0, Value.int IntKind.i64 0, Value.int IntKind.i64 0, Value.int IntKind.i64 0, Value.int IntKind.i64 0, Value.int IntKind.i64 0, Value.int IntKind.i64 0, Value.int IntKind.i64 0, Value.int IntKind.i64 0, Value.int IntKind.i64 0, Value.int IntKind.i64 0, Value.int IntKind.i64 0, Value.int IntKind.i64 0, Value.int IntKind.i64 0, Value.int IntKind.i64 0, Value.int IntKind.i64 0, Value.int IntKind.i64 0, Value.int IntKind.i64 0, Value.int IntKind.i64 0, Value.int IntKind.i64 0, Value.int IntKind.i64 0, Value.int IntKind.i64 0, Value.int IntKind.i64 0, Value.int IntKind.i64 0, Value.int IntKind.i64 0, Value.int IntKind.i64 0, Value.int IntKind.i64 0, Value.int IntKind.i64 0, Value.int IntKind.i64 0, Value.int IntKind.i64 0, Value.int IntKind.i64 0, Value.int IntKind.i64 0, Value.int IntKind.i64 0, Value.int IntKind.i64 0, Value.int IntKind.i64 0, Value.int IntKind.i64 0, Value.int IntKind.i64 0, Value.int IntKind.i64 0, Value.int IntKind.i64 0, Value.int IntKind.i64 0, Value.int IntKind.i64 0] 100)) = .ok () (w8.alloc (.cells cs.toArray 100)) := by
        have := run_storeCells_new (P := Try.prog) w8 100 #[Value.int IntKind.i64 0, Value.int IntKind.i64 0, Value.int IntKind.i64 0, Value.int IntKind.i64 0, Value.int IntKind.i64 0, Value.int IntKind.i64 0, Value.int IntKind.i64 0, Value.int IntKind.i64 0, Value.int IntKind.i64 0, Value.int IntKind.i64 0, Value.int IntKind.i64 0, Value.int IntKind.i64 0, Value.int IntKind.i64 0, Value.int IntKind.i64 0, Value.int IntKind.i64 0, Value.int IntKind.i64 0, Value.int IntKind.i64 0, Value.int IntKind.i64 0, Value.int IntKind.i64 0, Value.int IntKind.i64 0, Value.int IntKind.i64 0, Value.int IntKind.i64 0, Value.int IntKind.i64 0, Value.int IntKind.i64 0, Value.int IntKind.i64 0, Value.int IntKind.i64 0, Value.int IntKind.i64 0, Value.int IntKind.i64 0, Value.int IntKind.i64 0, Value.int IntKind.i64 0, Value.int IntKind.i64 0, Value.int IntKind.i64 0, Value.int IntKind.i64 0, Value.int IntKind.i64 0, Value.int IntKind.i64 0, Value.int IntKind.i64 0, Value.int IntKind.i64 0, Value.int IntKind.i64 0, Value.int IntKind.i64 0, Value.int IntKind.i64 0, Value.int IntKind.i64 0, Value.int IntKind.i64 0, Value.int IntKind.i64 0, Value.int IntKind.i64 0, Value.int IntKind.i64 0, Value.int IntKind.i64 0, Value.int IntKind.i64 0, Value.int IntKind.i64 0] cs.toArray (by rw [infoTable]; simp [hcs]) (by simp [hcs]) hone
        exact this
      have hT10 := Blk.new w8 cs 100
      have hS10 := hS8.alloc (.cells cs.toArray 100)
      have hO10 := hO8.alloc (.cells cs.toArray 100)
      have hQ10 := hQ8.alloc (.cells cs.toArray 100)
      have HB10 : Hid (Below w.heap.size w (w8.alloc (.cells cs.toArray 100))) := HB8.out.alloc HB8.out.size _
      have hsz10 : (w8.alloc (.cells cs.toArray 100)).heap.size = w8.heap.size + 1 := by simp
      have HFL : Hid (HoldsP (w8.alloc (.cells cs.toArray 100)) w8.heap.size (tabL fun n => tabAt l n)) := by
        show HoldsP _ _ _
        rw [← HCD.out] at hT10 ⊢
        exact hT10.holds
      clear hS8 hO8 hQ8 HB8 hone
      go_upto_region 6 with fail
      generalize w8.alloc (.cells cs.toArray 100) = W10 at *
      have k2 := hO10.at 2 rfl
      have k3 := hO10.at 3 rfl
      have k4 := hO10.at 4 rfl
      have hH := HFL.out
      have hc := hH.1 m (by rw [tabL_len]; exact hm16)
      simp only [Nat.zero_add] at hc
      obtain ⟨x0, x1, x2⟩ := hc
      have hfz := hT10.frz
      have hH11 := hH.set m (by rw [tabL_len]; exact hm16) ((m : Int), o4, o5)
      rw [tabL_set _ (fun n => if (n : Int) = (m : Int) then ((m : Int), o4, o5) else tabAt l n) m _ (by simp) (by intro n hn; rw [if_neg (by omega)])] at hH11
      have hT11 : Blk (((W10.setCell ⟨w8.heap.size, m * 3, none⟩ (.int .i64 (m : Int))).setCell ⟨w8.heap.size, m * 3 + 1, none⟩ (.int .i64 o4)).setCell ⟨w8.heap.size, m * 3 + 2, none⟩ (.int .i64 o5)) w8.heap.size ((tabL fun n => if (n : Int) = (m : Int) then ((m : Int), o4, o5) else tabAt l n).flatMap encPl) :=
        ⟨by simp; omega, fun j => by simp only [World.frozen?_setCell]; exact hfz j, fun i v hv => by have := hH11.range i v hv; rw [Nat.zero_add] at this; exact this⟩
      have hS11 := ((hS10.other (g := w8.heap.size) (by omega) (m * 3) (.int .i64 (m : Int))).other (g := w8.heap.size) (by omega) (m * 3 + 1) (.int .i64 o4)).other (g := w8.heap.size) (by omega) (m * 3 + 2) (.int .i64 o5)
      have hQ11 := ((hQ10.other (g := w8.heap.size) (by omega) (m * 3) (.int .i64 (m : Int))).other (g := w8.heap.size) (by omega) (m * 3 + 1) (.int .i64 o4)).other (g := w8.heap.size) (by omega) (m * 3 + 2) (.int .i64 o5)
      have HB11 : Hid (Below w.heap.size w (((W10.setCell ⟨w8.heap.size, m * 3, none⟩ (.int .i64 (m : Int))).setCell ⟨w8.heap.size, m * 3 + 1, none⟩ (.int .i64 o4)).setCell ⟨w8.heap.size, m * 3 + 2, none⟩ (.int .i64 o5))) := ((HB10.out.setCell (by show _ ≤ w8.heap.size; omega) _).setCell (by show _ ≤ w8.heap.size; omega) _).setCell (by show _ ≤ w8.heap.size; omega) _
      have hsz11 : (((W10.setCell ⟨w8.heap.size, m * 3, none⟩ (.int .i64 (m : Int))).setCell ⟨w8.heap.size, m * 3 + 1, none⟩ (.int .i64 o4)).setCell ⟨w8.heap.size, m * 3 + 2, none⟩ (.int .i64 o5)).heap.size = W10.heap.size := by simp
      have HX11 : Hid (Blk (((W10.setCell ⟨w8.heap.size, m * 3, none⟩ (.int .i64 (m : Int))).setCell ⟨w8.heap.size, m * 3 + 1, none⟩ (.int .i64 o4)).setCell ⟨w8.heap.size, m * 3 + 2, none⟩ (.int .i64 o5)) w8.heap.size ((tabL fun n => if (n : Int) = (m : Int) then ((m : Int), o4, o5) else tabAt l n).flatMap encPl)) := hT11
      have HX12 : Hid (Blk (((W10.setCell ⟨w8.heap.size, m * 3, none⟩ (.int .i64 (m : Int))).setCell ⟨w8.heap.size, m * 3 + 1, none⟩ (.int .i64 o4)).setCell ⟨w8.heap.size, m * 3 + 2, none⟩ (.int .i64 o5)) bs (stC ((o1, o2, ((m : Int), o4, o5), o6, o7), true, find l (m : Int)))) := hS11
      have HX13 : Hid (Blk (((W10.setCell ⟨w8.heap.size, m * 3, none⟩ (.int .i64 (m : Int))).setCell ⟨w8.heap.size, m * 3 + 1, none⟩ (.int .i64 o4)).setCell ⟨w8.heap.size, m * 3 + 2, none⟩ (.int .i64 o5)) (w.heap.size + 1) [Value.int IntKind.i64 0, Value.int IntKind.i64 0, Value.int IntKind.i64 0, Value.int IntKind.i64 0, Value.int IntKind.i64 0, Value.int IntKind.i64 0, Value.int IntKind.i64 0, Value.bool false, Value.int IntKind.i64 0, Value.int IntKind.i64 0, Value.int IntKind.i64 0]) := hQ11
      clear hH hH11 hT11 hS11 hQ11 hS10 hO10 hQ10 HB10 hT10 hst
      go_upto_region 7 with fail
      generalize ((W10.setCell ⟨w8.heap.size, m * 3, none⟩ (.int .i64 (m : Int))).setCell ⟨w8.heap.size, m * 3 + 1, none⟩ (.int .i64 o4)).setCell ⟨w8.heap.size, m * 3 + 2, none⟩ (.int .i64 o5) = W11 at *
      have hW11 : w8.heap.size + 1 = W11.heap.size := by omega
      clear hsz11 hsz10 k2 k3 k4 x0 x1 x2 hfz HFL HCD hcs
      have HIT : Hid ((Try.prog.info? 100).map (·.size) = some ((tabL fun n => if (n : Int) = (m : Int) then ((m : Int), o4, o5) else tabAt l n).flatMap encPl).length) := by show _ = _; rw [infoTable, flat_len, tabL_len]
      refine wp_region_held_drew (S := fun w' => Blk w' w8.heap.size ((tabL fun n => if (n : Int) = (m : Int) then ((m : Int), o4, o5) else tabAt l n).flatMap encPl) ∧ Blk w' bs (stC ((o1, o2, ((m : Int), o4, o5), o6, o7), true, find l (m : Int)))) (by kernel_rfl) ⟨HX11.out.drew, HX12.out.drew⟩ (fun hHeld => ?_)
      refine take_load 0 35 100 w8.heap.size ((tabL fun n => if (n : Int) = (m : Int) then ((m : Int), o4, o5) else tabAt l n).flatMap encPl) rfl rfl (by kernel_rfl) (by kernel_rfl) (by kernel_rfl) (fun _ _ _ h => h) (by rfl) (by rfl) (by rfl) (fun w hw => hw.1.range) Try.underlying100 rfl HIT.out hHeld ?_
      simp only [Act.put, List.setIfInBounds_toArray, List.set_cons_succ, List.set_cons_zero]
      refine take_load 2 37 51 bs (stC ((o1, o2, ((m : Int), o4, o5), o6, o7), true, find l (m : Int))) rfl rfl (by kernel_rfl) (by kernel_rfl) (by kernel_rfl) (fun _ _ _ h => h) (by rfl) (by rfl) (by rfl) (fun w hw => hw.2.range) Try.underlying51 rfl sizeStep hHeld ?_
      simp only [Act.put, List.setIfInBounds_toArray, List.set_cons_succ, List.set_cons_zero]
      refine wpAnyH_ready (rs := [1]) (by kernel_rfl) (by simp) ?_
      refine AllReadyH.cons rfl (fun K hK => ?_) AllReadyH.nil
      go_simp
      refine (places_any _ (fun n => if (n : Int) = (m : Int) then ((m : Int), o4, o5) else tabAt l n)).mono ?_
      rintro e w12 ⟨v12, rfl, hO12, hb12⟩
      have hrw := Orangery.rows_set l ((m : Int), o4, o5) HSC.out HR1.out
      have hO13 : OwnS w12 (w.heap.size + 1 + 1) v12 (inL l ((m : Int), o4, o5)) := by
        rw [← hrw]
        exact hO12.mono (by show _ ≤ W11.heap.size; omega)
      obtain ⟨a12, c12, rfl⟩ := hO13.val
      have hb12' : Below W11.heap.size W11 w12 := ((Below.refl _ W11).drew).trans hb12
      have hQ12 := HX13.out.keep hb12'
      have hS12 := HX12.out.keep hb12'
      have hT12 := HX11.out.keep hb12'
      go_wp2_with fail
      refine hK.out _ _ ⟨hT12, hS12⟩ (fun hHeld => ?_)
      clear hK K
      refine take_yes 3 4 (v := ?_) rfl rfl (by kernel_rfl) (by kernel_rfl) (by kernel_rfl) (fun _ _ _ h => h) (by rfl) ?_ hHeld ?_
      rotate_left 1
      · (intro w hSw; go_simp; try with_reducible rfl)
      simp only [Act.put, List.setIfInBounds_toArray, List.set_cons_succ, List.set_cons_zero]
      refine step_store 4 51 (w.heap.size + 1) (stC ((o1, o2, ((m : Int), o4, o5), o6, o7), true, find l (m : Int))) (by kernel_rfl) rfl rfl (by rfl) (by rfl) (by rfl) (by rfl) hQ12.there sizeStep (stC_one _) ⟨hT12.others (by omega) _ _, hS12.others (by omega) _ _⟩ ?_
      refine wpAnyH_done (by kernel_rfl) ?_ _
      go_wp2
      refine ret_tmp_cell Try.results58 rfl rfl ((hQ12.sets (stC ((o1, o2, ((m : Int), o4, o5), o6, o7), true, find l (m : Int))) rfl).load Try.underlying51 rfl sizeStep) ?_
      refine ⟨a12, c12, ?_, ?_, ?_⟩
      · rw [HES.out, HET.out, HRING.out]; rfl
      · rw [HET.out, HRING.out]
        exact Or.inr ((OwnS.others (w.heap.size + 1) (by omega) (stC ((o1, o2, ((m : Int), o4, o5), o6, o7), true, find l (m : Int))) 0 _ hO13).mono (by omega))
      · exact below_sets (HB11.out.trans (hb12'.mono HB11.out.size)) (w.heap.size + 1) (by omega) (stC ((o1, o2, ((m : Int), o4, o5), o6, o7), true, find l (m : Int))) 0
    · have HRING : Hid (ring l (o1, o2, (o3, o4, o5), o6, o7) = true) := hring
      clear hring
      have hth : w6.there (w.heap.size + 1) 0 11 := hQ6.there
      have hne : bs ≠ w.heap.size + 1 := by omega
      go_upto_region 3 with fail
      refine wp_region_held_drew (S := fun w' => Blk w' bs (stC ((o1, o2, (o3, o4, o5), o6, o7), false, find l o3))) (by kernel_rfl) hS6.drew (fun hHeld => ?_)
      refine take_load 1 21 51 bs (stC ((o1, o2, (o3, o4, o5), o6, o7), false, find l o3)) rfl rfl (by kernel_rfl) (by kernel_rfl) (by kernel_rfl) (fun _ _ _ h => h) (by rfl) (by rfl) (by rfl) (fun w hw => hw.range) Try.underlying51 rfl sizeStep hHeld ?_
      simp only [Act.put, List.setIfInBounds_toArray, List.set_cons_succ, List.set_cons_zero]
      refine take_yes 0 20 (v := ?_) rfl rfl (by kernel_rfl) (by kernel_rfl) (by kernel_rfl) (fun _ _ _ h => h) (by rfl) ?_ hHeld ?_
      rotate_left 1
      · (intro w hSw; go_simp; try with_reducible rfl)
      simp only [Act.put, List.setIfInBounds_toArray, List.set_cons_succ, List.set_cons_zero]
      refine take_yes 2 4 (v := ?_) rfl rfl (by kernel_rfl) (by kernel_rfl) (by kernel_rfl) (fun _ _ _ h => h) (by rfl) ?_ hHeld ?_
      rotate_left 1
      · (intro w hSw; go_simp; try with_reducible rfl)
      simp only [Act.put, List.setIfInBounds_toArray, List.set_cons_succ, List.set_cons_zero]
      refine step_store 3 51 (w.heap.size + 1) (stC ((o1, o2, (o3, o4, o5), o6, o7), false, find l o3)) (by kernel_rfl) rfl rfl (by rfl) (by rfl) (by rfl) (by rfl) hth sizeStep (stC_one _) (hS6.drew.others hne _ _) ?_
      refine wpAnyH_done (by kernel_rfl) ?_ _
      go_wp2
      refine ret_tmp_cell Try.results58 rfl rfl ((hQ6.drew.sets (stC ((o1, o2, (o3, o4, o5), o6, o7), false, find l o3)) rfl).load Try.underlying51 rfl sizeStep) ?_
      refine ⟨a, c, ?_, ?_, ?_⟩
      · rw [HES.out, HET.out, HRING.out]; rfl
      · rw [HET.out, HRING.out]
        exact Or.inl ⟨rfl, rfl⟩
      · exact below_sets HB6.out.drew (w.heap.size + 1) (by omega) (stC ((o1, o2, (o3, o4, o5), o6, o7), false, find l o3)) 0
end Go.Proofs.Ytphameoibnimmaa
