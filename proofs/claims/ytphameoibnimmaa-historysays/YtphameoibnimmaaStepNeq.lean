/- Stamps, operations and steps held against each other, whatever they are. -/
import Derived.Test.YtphameoibnimmaaStepEq
namespace Go.Proofs.Ytphameoibnimmaa
open Go.ChangeShapes Go.WideShapes Go.ChangeAt Go.RowKit
open Orangery (Pl Mv Stp)

theorem eqg_stamp (n : Nat) (a b c d : Int) (w : World) :
    (Op.equalIn (n + 2) 47 (.agg #[.int .i64 a, .int .i64 b]) (.agg #[.int .i64 c, .int .i64 d])).run Try.prog w = .ok (decide (a = c ∧ b = d)) w := by
  have u3 := Try.underlying3
  have a3 := Try.isAgg3
  have z3 := Try.sizeOf3
  have hS2 : Try.prog.underlying 47 = some (.struct (Try.prog.fieldsOf 47)) := by kernel_rfl
  have hp2 : Try.prog.stoodInHeld 47 = false := by kernel_rfl
  rw [run_equalIn_agg w (n + 1) 47 _ _ hS2 hp2]
  simp only [Program.fieldsOf, Try.underlying47]
  go_simp
  by_cases h1 : a = c <;> by_cases h2 : b = d <;> simp [h1, h2]

theorem eqg_pl (n : Nat) (a b c x y z : Int) (w : World) :
    (Op.equalIn (n + 2) 36 (.agg #[.int .i64 a, .int .i64 b, .int .i64 c]) (.agg #[.int .i64 x, .int .i64 y, .int .i64 z])).run Try.prog w = .ok (decide (a = x ∧ b = y ∧ c = z)) w := by
  have u3 := Try.underlying3
  have a3 := Try.isAgg3
  have z3 := Try.sizeOf3
  have hS : Try.prog.underlying 36 = some (.struct (Try.prog.fieldsOf 36)) := by kernel_rfl
  have hp : Try.prog.stoodInHeld 36 = false := by kernel_rfl
  rw [run_equalIn_agg w (n + 1) 36 _ _ hS hp]
  simp only [Program.fieldsOf, Try.underlying36]
  go_simp
  by_cases h1 : a = x <;> by_cases h2 : b = y <;> by_cases h3 : c = z <;> simp [h1, h2, h3]

theorem eqg_op (n : Nat) (o p : Mv) (w : World) :
    (Op.equalIn (n + 3) 49 (opV o) (opV p)).run Try.prog w = .ok (decide (o = p)) w := by
  obtain ⟨o1, o2, ⟨o3, o4, o5⟩, o6, o7⟩ := o
  obtain ⟨p1, p2, ⟨p3, p4, p5⟩, p6, p7⟩ := p
  have u3 := Try.underlying3
  have a3 := Try.isAgg3
  have z3 := Try.sizeOf3
  have a4 := Try.isAgg47
  have z4 := Try.sizeOf47
  have hS : Try.prog.underlying 49 = some (.struct (Try.prog.fieldsOf 49)) := by kernel_rfl
  have hp : Try.prog.stoodInHeld 49 = false := by kernel_rfl
  have hst := eqg_stamp n o1 o2 p1 p2
  rw [run_equalIn_agg w (n + 2) 49 _ _ hS hp]
  simp only [Program.fieldsOf, Try.underlying49]
  go_simp
  by_cases h1 : o1 = p1
  case neg => simp [h1]
  by_cases h2 : o2 = p2
  case neg => simp [h1, h2]
  by_cases h3 : o3 = p3
  case neg => simp [h1, h2, h3]
  by_cases h4 : o4 = p4
  case neg => simp [h1, h2, h3, h4]
  by_cases h5 : o5 = p5
  case neg => simp [h1, h2, h3, h4, h5]
  by_cases h6 : o6 = p6
  case neg => simp [h1, h2, h3, h4, h5, h6]
  by_cases h7 : o7 = p7
  case neg => simp [h1, h2, h3, h4, h5, h6, h7]
  simp [h1, h2, h3, h4, h5, h6, h7]

theorem run_neq_opg (o p : Mv) (w : World) : (binOp .neq 49 (opV o) (opV p)).run Try.prog w = .ok (.bool (!decide (o = p))) w := by
  have e1 := eqg_op 9997 o p w
  rw [run_neq_struct, show (10000 : Nat) = 9997 + 3 from rfl, e1]
  rfl
theorem run_eql_opg (o p : Mv) (w : World) : (binOp .eql 49 (opV o) (opV p)).run Try.prog w = .ok (.bool (decide (o = p))) w := by
  have e1 := eqg_op 9997 o p w
  rw [run_eql_struct, show (10000 : Nat) = 9997 + 3 from rfl, e1]
  rfl
theorem run_eql_stamp (a b c d : Int) (w : World) : (binOp .eql 47 (.agg #[.int .i64 a, .int .i64 b]) (.agg #[.int .i64 c, .int .i64 d])).run Try.prog w = .ok (.bool (decide (a = c ∧ b = d))) w := by
  have e1 := eqg_stamp 9998 a b c d w
  rw [run_eql_struct, show (10000 : Nat) = 9998 + 2 from rfl, e1]
  rfl
theorem guard_stamp (op : BinOp) (x y : Operand) (xs ys : Array Value) (w : World) : (eqGuard op 47 x y (.agg xs) (.agg ys)).run Try.prog w = .ok () w :=
  run_eqGuard_agg w op 47 x y xs ys (by kernel_rfl)

theorem eqg_step (n : Nat) (s t : Stp) (w : World) : (Op.equalIn (n + 4) 51 (stV s) (stV t)).run Try.prog w = .ok (decide (s = t)) w := by
  obtain ⟨o, d, ⟨p1, p2, p3⟩⟩ := s
  obtain ⟨q, f, ⟨r1, r2, r3⟩⟩ := t
  have u3 := Try.underlying4
  have a3 := Try.isAgg4
  have z3 := Try.sizeOf4
  have a4 := Try.isAgg49
  have z4 := Try.sizeOf49
  have a5 := Try.isAgg36
  have z5 := Try.sizeOf36
  have hS : Try.prog.underlying 51 = some (.struct (Try.prog.fieldsOf 51)) := by kernel_rfl
  have hp : Try.prog.stoodInHeld 51 = false := by kernel_rfl
  have e1 := eqg_op n o q
  have e2 := eqg_pl (n + 1) p1 p2 p3 r1 r2 r3
  rw [run_equalIn_agg w (n + 3) 51 _ _ hS hp]
  simp only [Program.fieldsOf, Try.underlying51]
  go_simp
  by_cases h1 : o = q
  case neg => simp [h1]
  by_cases h2 : d = f
  case neg => simp [h1, h2]
  by_cases h3 : p1 = r1
  case neg => simp [h1, h2, h3]
  by_cases h4 : p2 = r2
  case neg => simp [h1, h2, h3, h4]
  by_cases h5 : p3 = r3
  case neg => simp [h1, h2, h3, h4, h5]
  simp [h1, h2, h3, h4, h5]
theorem run_neq_stepg (s t : Stp) (w : World) : (binOp .neq 51 (stV s) (stV t)).run Try.prog w = .ok (.bool (!decide (s = t))) w := by
  have e1 := eqg_step 9996 s t w
  rw [run_neq_struct, show (10000 : Nat) = 9996 + 4 from rfl, e1]
  rfl
end Go.Proofs.Ytphameoibnimmaa
