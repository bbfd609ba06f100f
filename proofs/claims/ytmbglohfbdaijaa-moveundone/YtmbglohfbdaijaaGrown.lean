/- orangerylaw.small and orangerylaw.grown: a closed fact. -/
import Derived.Test.YtmbglohfbdaijaaUnder
import Derived.Test.YtmbglohfbdaijaaKids
import Derived.Test.YtmbglohfbdaijaaPlainF
namespace Go.Proofs.Ytmbglohfbdaijaa
open Go.ChangeShapes Go.WideShapes Go.ChangeAt Go.RowKit
open Orangery (Pl find check underE underB kidsE smallL ringL kidsR leP)

set_option maxHeartbeats 1000000 in
theorem small_any (w : World) :
    Calls Try.prog 39 #[] w fun e w' => (∃ a, e = .returned (.agg #[.slice a smallL.length 4]) ∧ SlP w' a smallL) ∧ Below w.heap.size w w' := by
  go_enter Try.func39, Try.ntmps39
  go_wp2
  refine bodyPost_ret (v := .agg #[.slice (some ⟨w.heap.size + 1, 0, none⟩) 4 4]) (by simp [results, Try.results39, go_sem]) rfl ⟨⟨_, rfl, ?_⟩, ?_⟩
  · refine Or.inr ⟨w.heap.size + 1, 0, rfl, by simp, ?_⟩
    intro i hi
    have hi' : i < 4 := hi
    have : i = 0 ∨ i = 1 ∨ i = 2 ∨ i = 3 := by omega
    rcases this with rfl | rfl | rfl | rfl <;> simp [smallL]
  · exact Go.Joins.below_alloc2 w _ _

/-- the fields of a place that is no variable -/
theorem run_field_pl (x0 x1 x2 : Int) (w : World) :
    (Instr.field 36 (.agg #[.int .i64 x0, .int .i64 x1, .int .i64 x2]) 0).run Try.prog w = .ok (.int .i64 x0) w ∧
    (Instr.field 36 (.agg #[.int .i64 x0, .int .i64 x1, .int .i64 x2]) 1).run Try.prog w = .ok (.int .i64 x1) w ∧
    (Instr.field 36 (.agg #[.int .i64 x0, .int .i64 x1, .int .i64 x2]) 2).run Try.prog w = .ok (.int .i64 x2) w := by
  have h1 := Try.underlying36
  have h2 := Try.isAgg3
  have h3 := Try.sizeOf3
  refine ⟨?_, ?_, ?_⟩
  all_goals
    unfold Instr.field
    go_simp
    simp [asAgg]

/-- the places of a tree that is no variable -/
theorem run_field_tree (v : Value) (w : World) : (Instr.field 29 (.agg #[v]) 0).run Try.prog w = .ok v w := by
  have h1 := Try.underlying29
  have h2 := Try.isAgg27
  have h3 := Try.sizeOf27
  unfold Instr.field
  go_simp
  simp [asAgg]

theorem s1 : underB smallL 4 1 = true ∧ underE smallL 4 1 = 0 := by decide
theorem s2 : underB smallL 3 2 = false ∧ underE smallL 3 2 = 0 := by decide
theorem s3 : kidsE smallL 1 = 0 := by decide
theorem s4 : find smallL 4 = (4, 2, 0) := by decide
theorem s5 : find smallL 9 = (0, 0, 0) := by decide
theorem s6 : check ringL = 4 := by decide
theorem s7 : check smallL = 0 := by decide
theorem s8 : kidsR smallL 1 100 = [(3, 1, 6), (2, 1, 7)] := by decide +kernel
theorem smallLen : smallL.length ≤ maxLen := by unfold maxLen; decide

set_option maxHeartbeats 2000000 in
theorem grown_any (w : World) :
    Calls Try.prog 12 #[] w fun e w' => e = .returned (.bool true) ∧ Below w.heap.size w w' := by
  go_enter Try.func12, Try.ntmps12
  go_wp2_with fail
  refine (small_any w).mono ?_
  rintro e w1 ⟨⟨a1, rfl, hP1⟩, hb1⟩
  go_wp2_with fail
  refine (under_any w1 a1 4 smallL 4 1 smallLen hP1).mono ?_
  rintro e w2 ⟨rfl, hb2⟩
  rw [s1.1, s1.2]
  have hB2 : Below w.heap.size w w2 := hb1.trans (hb2.mono hb1.size)
  clear hb1 hb2 hP1
  go_wp2_with fail
  refine (small_any w2).mono ?_
  rintro e w3 ⟨⟨a3, rfl, hP3⟩, hb3⟩
  go_wp2_with fail
  refine (under_any w3 a3 4 smallL 3 2 smallLen hP3).mono ?_
  rintro e w4 ⟨rfl, hb4⟩
  rw [s2.1, s2.2]
  have hB4 : Below w.heap.size w w4 := hB2.trans ((hb3.trans (hb4.mono hb3.size)).mono hB2.size)
  clear hb3 hb4 hP3 hB2
  go_wp2_with fail
  refine (small_any w4).mono ?_
  rintro e w5 ⟨⟨a5, rfl, hP5⟩, hb5⟩
  go_wp2_with fail
  refine (kids_any w5 a5 4 smallL 1 smallLen hP5).mono ?_
  rintro e w6 ⟨⟨v, l', rfl, hO, _, hk⟩, hb6⟩
  obtain ⟨hp, hs⟩ := hk s3
  have hl' := Orangery.kids_eq smallL l' 1 s7 hp hs
  rw [s8] at hl'
  subst hl'
  rw [s3]
  have hB6 : Below w.heap.size w w6 := hB4.trans ((hb5.trans (hb6.mono hb5.size)).mono hB4.size)
  have hbase : w5.heap.size ≤ w6.heap.size := hb6.size
  clear hb5 hb6 hP5 hB4 hp hs hk
  rcases hO with ⟨_, hO⟩ | ⟨g, cap, rfl, hgb, hgl, hcap, hcm, hH, _⟩
  · simp at hO
  obtain ⟨x0, x1, x2⟩ := hH.1 0 (by simp)
  obtain ⟨y0, y1, y2⟩ := hH.1 1 (by simp)
  simp at x0 y0
  go_wp2_with fail
  have hB7 := Go.Joins.below_alloc2 w6 (Obj.cells #[Value.int IntKind.i64 1, Value.int IntKind.i64 2, Value.int IntKind.i64 0, Value.int IntKind.i64 2, Value.int IntKind.i64 1, Value.int IntKind.i64 0] 36) (Obj.cells #[Value.slice (some ⟨w6.heap.size, 0, none⟩) 2 2] 29)
  have hc7 : ((w6.alloc (Obj.cells #[Value.int IntKind.i64 1, Value.int IntKind.i64 2, Value.int IntKind.i64 0, Value.int IntKind.i64 2, Value.int IntKind.i64 1, Value.int IntKind.i64 0] 36)).alloc (Obj.cells #[Value.slice (some ⟨w6.heap.size, 0, none⟩) 2 2] 29)).cell? ⟨w6.heap.size + 1, 0, none⟩ = some (.slice (some ⟨w6.heap.size, 0, none⟩) 2 2) := by simp
  have hP7 : SlP ((w6.alloc (Obj.cells #[Value.int IntKind.i64 1, Value.int IntKind.i64 2, Value.int IntKind.i64 0, Value.int IntKind.i64 2, Value.int IntKind.i64 1, Value.int IntKind.i64 0] 36)).alloc (Obj.cells #[Value.slice (some ⟨w6.heap.size, 0, none⟩) 2 2] 29)) (some ⟨w6.heap.size, 0, none⟩) ringL := by
    refine SlP.below ?_ (Go.Joins.below_alloc1 _ _)
    refine Or.inr ⟨w6.heap.size, 0, rfl, by simp, ?_⟩
    intro i hi
    have hi' : i < 2 := hi
    have : i = 0 ∨ i = 1 := by omega
    rcases this with rfl | rfl <;> simp [ringL]
  have hS7 : w6.heap.size + 1 < ((w6.alloc (Obj.cells #[Value.int IntKind.i64 1, Value.int IntKind.i64 2, Value.int IntKind.i64 0, Value.int IntKind.i64 2, Value.int IntKind.i64 1, Value.int IntKind.i64 0] 36)).alloc (Obj.cells #[Value.slice (some ⟨w6.heap.size, 0, none⟩) 2 2] 29)).heap.size := by simp
  generalize ((w6.alloc (Obj.cells #[Value.int IntKind.i64 1, Value.int IntKind.i64 2, Value.int IntKind.i64 0, Value.int IntKind.i64 2, Value.int IntKind.i64 1, Value.int IntKind.i64 0] 36)).alloc (Obj.cells #[Value.slice (some ⟨w6.heap.size, 0, none⟩) 2 2] 29)) = w7 at hB7 hc7 hP7 hS7 ⊢
  have hBw : Below w.heap.size w w7 := hB6.trans (hB7.mono hB6.size)
  clear hB6 hB7 x0 x1 x2 y0 y1 y2 hH
  have hfd := fun x0 x1 x2 W => (run_field_pl x0 x1 x2 W).1
  have hfp := fun x0 x1 x2 W => (run_field_pl x0 x1 x2 W).2.1
  refine (small_any w7).mono ?_
  rintro e w8 ⟨⟨a8, rfl, hP8⟩, hb8⟩
  go_wp2_with fail
  refine (find_any w8 a8 4 smallL 4 smallLen hP8).mono ?_
  rintro e w9 ⟨rfl, hb9⟩
  rw [s4]
  have hB9 : Below w7.heap.size w7 w9 := hb8.trans (hb9.mono hb8.size)
  clear hb8 hb9 hP8
  go_wp2_with fail
  refine (small_any w9).mono ?_
  rintro e w10 ⟨⟨a10, rfl, hP10⟩, hb10⟩
  go_wp2_with fail
  refine (find_any w10 a10 4 smallL 9 smallLen hP10).mono ?_
  rintro e w11 ⟨rfl, hb11⟩
  rw [s5]
  have hB11 : Below w7.heap.size w7 w11 := hB9.trans ((hb10.trans (hb11.mono hb10.size)).mono hB9.size)
  clear hb10 hb11 hP10 hB9
  have hc11 : w11.cell? ⟨w6.heap.size + 1, 0, none⟩ = some (.slice (some ⟨w6.heap.size, 0, none⟩) 2 2) := by rw [hB11.cell hS7, hc7]
  have hP11 := hP7.below hB11
  go_wp2_with fail
  refine (check_any w11 (some ⟨w6.heap.size, 0, none⟩) 2 ringL (by unfold maxLen; decide) hP11).mono ?_
  rintro e w12 ⟨rfl, hb12⟩
  rw [s6]
  have hB12 : Below w7.heap.size w7 w12 := hB11.trans (hb12.mono hB11.size)
  clear hb12 hB11 hP11 hc11 hP7 hc7 hS7
  go_wp2_with fail
  refine (small_any w12).mono ?_
  rintro e w13 ⟨⟨a13, rfl, hP13⟩, hb13⟩
  go_wp2_with fail
  refine (check_any w13 a13 4 smallL smallLen hP13).mono ?_
  rintro e w14 ⟨rfl, hb14⟩
  rw [s7]
  have hB14 : Below w.heap.size w w14 := hBw.trans ((hB12.trans ((hb13.trans (hb14.mono hb13.size)).mono hB12.size)).mono hBw.size)
  clear hb13 hb14 hB12 hBw hP13
  go_wp2
  go_ret
  exact ⟨rfl, hB14⟩
end Go.Proofs.Ytmbglohfbdaijaa
