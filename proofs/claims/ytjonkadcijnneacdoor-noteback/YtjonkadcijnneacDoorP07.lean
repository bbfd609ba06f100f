/- 1 texts of the proof: orangerylaw.lined: a closed fact on texts of records. -/
import Derived.Test.YtjonkadcijnneacDoorP06
/- orangerylaw.lined: a closed fact on texts of records. -/
namespace Go.Proofs.YtjonkadcijnneacDoor
open Go.ChangeShapes Go.WideShapes Go.ChangeAt Go.RowKit
open Orangery (Mv Rc noOp recText recT checkRec parseE parseR glue)

theorem itoa_digit (d : Nat) (h : d < 10) : Lib.itoa (d : Int) = [UInt8.ofNat (48 + d)] := by
  unfold Lib.itoa
  rw [if_neg (by omega), show ((d : Int)).toNat = d by omega]
  exact Lib.decDigits_one h

def opL : Mv := (3, 1, (4, 2, 0), 1, 3)
def textA : List UInt8 := [111, 112, 32, 51, 32, 49, 32, 52, 32, 50, 32, 48, 32, 49, 32, 51]
def textB : List UInt8 := [114, 111, 111, 116, 115, 32, 49, 32, 48, 32, 53]
theorem chkA : checkRec (1, 0, 0, [], opL) = 0 := by decide
theorem chkB : checkRec (3, 1, 0, [0, 5], noOp) = 0 := by decide
theorem recA : recT (1, 0, 0, [], opL) = textA := by
  have e : recT (1, 0, 0, [], opL) = glue (Orangery.wOp :: [Lib.itoa (3 : Nat), Lib.itoa (1 : Nat), Lib.itoa (4 : Nat), Lib.itoa (2 : Nat), Lib.itoa (0 : Nat), Lib.itoa (1 : Nat), Lib.itoa (3 : Nat)]) := rfl
  rw [e, itoa_digit 3 (by omega), itoa_digit 1 (by omega), itoa_digit 4 (by omega), itoa_digit 2 (by omega), itoa_digit 0 (by omega), Orangery.glue_flat]
  decide
theorem recB : recT (3, 1, 0, [0, 5], noOp) = textB := by
  have e : recT (3, 1, 0, [0, 5], noOp) = glue (Orangery.wRoots :: [Lib.itoa (1 : Nat), Lib.itoa (0 : Nat), Lib.itoa (5 : Nat)]) := rfl
  rw [e, itoa_digit 1 (by omega), itoa_digit 0 (by omega), itoa_digit 5 (by omega), Orangery.glue_flat]
  decide
theorem lineA : recText (1, 0, 0, [], opL) = textA := (recText_ok chkA).trans recA
theorem lineB : recText (3, 1, 0, [0, 5], noOp) = textB := (recText_ok chkB).trans recB
theorem parA : parseE textA = 0 ∧ parseR textA = (1, 0, 0, [], opL) := by
  rw [← recA]
  exact Orangery.parse_text chkA

theorem lop_lit (w : World) : Calls Tryd.prog 23 #[.int .i64 3, .int .i64 1, .int .i64 4, .int .i64 2] w fun e w' => e = .returned (.agg #[.int .i64 3, .int .i64 1, .int .i64 4, .int .i64 2, .int .i64 0, .int .i64 1, .int .i64 3]) ∧ Below w.heap.size w w' := lop_any w 3 1 4 2

set_option maxHeartbeats 2000000 in
set_option maxRecDepth 100000 in
theorem lined_any (w : World) (hv : Vars w) : Calls Tryd.prog 8 #[] w fun e w' => e = .returned (.bool true) ∧ Below w.heap.size w w' := by
  have HV := Lib.hid hv
  clear hv
  go_enter Tryd.func8, Tryd.ntmps8
  go_wp2_with fail
  refine (lop_lit w).mono ?_
  rintro e w1 ⟨rfl, hb1⟩
  have HB1 := Lib.hid hb1
  have HV1 := Lib.hid (HV.out.on hb1)
  clear hb1
  go_wp2_with fail
  have hp := nprint_any w1 1 0 0 none 0 [] opL (by simp) (fun _ => rfl) SlI.nil HV1.out
  rw [lineA, chkA] at hp
  refine hp.mono ?_
  rintro e w2 ⟨rfl, hb2⟩
  have HB2 : Hid (Below w.heap.size w w2) := HB1.out.trans (hb2.mono HB1.out.size)
  have HV2 := Lib.hid (HV1.out.on hb2)
  clear hp hb2 HB1 HV1
  go_wp2_with fail
  have hb3 := Go.Joins.below_alloc1 w2 (Obj.cells #[Value.int IntKind.i64 0, Value.int IntKind.i64 5] 3)
  have hI3 : SlI (w2.alloc (Obj.cells #[Value.int IntKind.i64 0, Value.int IntKind.i64 5] 3)) (some ⟨w2.heap.size, 0, none⟩) [0, 5] := (ownI_new w2 [0, 5] (by simp)).reads
  have hp := nprint_any (w2.alloc (Obj.cells #[Value.int IntKind.i64 0, Value.int IntKind.i64 5] 3)) 3 1 0 (some ⟨w2.heap.size, 0, none⟩) 2 [0, 5] noOp (by unfold maxLen; simp) (fun e => by simp at e) hI3 (HV2.out.on hb3)
  rw [lineB, chkB] at hp
  refine hp.mono ?_
  rintro e w4 ⟨rfl, hb4⟩
  have hb4' : Below w2.heap.size w2 w4 := hb3.trans (hb4.mono hb3.size)
  have HB4 : Hid (Below w.heap.size w w4) := HB2.out.trans (hb4'.mono HB2.out.size)
  have HV4 := Lib.hid (HV2.out.on hb4')
  clear hp hb3 hb4 hb4' hI3 HB2 HV2
  go_wp2_with fail
  have hq := nparse_any w4 textA (by unfold maxLen textA; simp) HV4.out
  rw [parA.1, parA.2] at hq
  refine hq.mono ?_
  rintro e w5 ⟨⟨v5, rfl, a5, c5, e5, hI5, hf5, hn5⟩, hb5⟩
  replace e5 : v5 = .agg #[.int .i64 1, .int .i64 0, .int .i64 0, .slice a5 0 c5, .int .i64 3, .int .i64 1, .int .i64 4, .int .i64 2, .int .i64 0, .int .i64 1, .int .i64 3] := e5
  subst e5
  have HB5 : Hid (Below w.heap.size w w5) := HB4.out.trans (hb5.mono HB4.out.size)
  have HV5 := Lib.hid (HV4.out.on hb5)
  clear hq hI5 hf5 hn5 hb5 HB4 HV4
  go_wp2_with fail
  obtain ⟨W, hW, hX, hbx, -⟩ := laid1 w5 [Value.int IntKind.i64 1, .int .i64 0, .int .i64 0, .slice a5 0 c5, .int .i64 3, .int .i64 1, .int .i64 4, .int .i64 2, .int .i64 0, .int .i64 1, .int .i64 3] 28
  rw [hW]
  clear hW
  have HB6 : Hid (Below w.heap.size w W) := HB5.out.trans (hbx.mono HB5.out.size)
  have y4 := hX.at 4 rfl
  have y5 := hX.at 5 rfl
  have y6 := hX.at 6 rfl
  have y7 := hX.at 7 rfl
  have y8 := hX.at 8 rfl
  have y9 := hX.at 9 rfl
  have y10 := hX.at 10 rfl
  have hqe : ∀ w, (binOp .eql 26 (.agg #[.int .i64 3, .int .i64 1, .int .i64 4, .int .i64 2, .int .i64 0, .int .i64 1, .int .i64 3]) (.agg #[.int .i64 3, .int .i64 1, .int .i64 4, .int .i64 2, .int .i64 0, .int .i64 1, .int .i64 3])).run Tryd.prog w = .ok (.bool true) w := fun w => by
    have := run_eql_opg opL opL w
    rw [show decide (opL = opL) = true by decide] at this
    exact this
  have hgd := guard_op
  have dA : (textA == [111, 112, 32, 51, 32, 49, 32, 52, 32, 50, 32, 48, 32, 49, 32, 51]) = true := by decide
  have dB : (textB == [114, 111, 111, 116, 115, 32, 49, 32, 48, 32, 53]) = true := by decide
  clear HB5 HV5 hbx
  generalize w5.heap.size = gx at *
  go_region_held3 (fun w' => w'.cell? ⟨gx, 4, none⟩ = some (.int .i64 3) ∧ w'.cell? ⟨gx, 5, none⟩ = some (.int .i64 1) ∧ w'.cell? ⟨gx, 6, none⟩ = some (.int .i64 4) ∧ w'.cell? ⟨gx, 7, none⟩ = some (.int .i64 2) ∧ w'.cell? ⟨gx, 8, none⟩ = some (.int .i64 0) ∧ w'.cell? ⟨gx, 9, none⟩ = some (.int .i64 1) ∧ w'.cell? ⟨gx, 10, none⟩ = some (.int .i64 3)) (go_keep)
    (first | (go_at_call 23; refine (lop_lit _).mono ?_; rintro e w7 ⟨rfl, hb7⟩; have hb7' : Below W.heap.size W w7 := ((Below.refl _ W).drew).trans hb7; have hX7 := hX.keep hb7'; have z4 := hX7.at 4 rfl; have z5 := hX7.at 5 rfl; have z6 := hX7.at 6 rfl; have z7 := hX7.at 7 rfl; have z8 := hX7.at 8 rfl; have z9 := hX7.at 9 rfl; have z10 := hX7.at 10 rfl))
  have HB7 : Hid (Below w.heap.size w w7) := HB6.out.trans (hb7'.mono HB6.out.size)
  clear hb7 hb7' hX7 z4 z5 z6 z7 z8 z9 z10 y4 y5 y6 y7 y8 y9 y10 hX
  go_wp2
  go_ret
  exact ⟨rfl, HB7.out⟩
end Go.Proofs.YtjonkadcijnneacDoor

