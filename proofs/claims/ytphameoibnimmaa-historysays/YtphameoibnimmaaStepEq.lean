/- Steps and operations held against themselves. -/
import Derived.Test.YtphameoibnimmaaMoveA
import Derived.Laws.StructEq
namespace Go.Proofs.Ytphameoibnimmaa
open Go.ChangeShapes Go.WideShapes Go.ChangeAt Go.RowKit
open Orangery (Pl Mv Stp)

theorem eqin_op (n : Nat) (o1 o2 o3 o4 o5 o6 o7 : Int) (w : World) :
    (Op.equalIn (n + 3) 49 (.agg #[.int .i64 o1, .int .i64 o2, .int .i64 o3, .int .i64 o4, .int .i64 o5, .int .i64 o6, .int .i64 o7]) (.agg #[.int .i64 o1, .int .i64 o2, .int .i64 o3, .int .i64 o4, .int .i64 o5, .int .i64 o6, .int .i64 o7])).run Try.prog w = .ok true w := by
  have u3 := Try.underlying3
  have a3 := Try.isAgg3
  have z3 := Try.sizeOf3
  have a4 := Try.isAgg47
  have z4 := Try.sizeOf47
  have hS : Try.prog.underlying 49 = some (.struct (Try.prog.fieldsOf 49)) := by kernel_rfl
  have hp : Try.prog.stoodInHeld 49 = false := by kernel_rfl
  have hS2 : Try.prog.underlying 47 = some (.struct (Try.prog.fieldsOf 47)) := by kernel_rfl
  have hp2 : Try.prog.stoodInHeld 47 = false := by kernel_rfl
  have hst : ∀ w, (Op.equalIn (n + 2) 47 (.agg #[.int .i64 o1, .int .i64 o2]) (.agg #[.int .i64 o1, .int .i64 o2])).run Try.prog w = .ok true w := by
    intro w
    rw [run_equalIn_agg w (n + 1) 47 _ _ hS2 hp2]
    simp only [Program.fieldsOf, Try.underlying47]
    go_simp
  rw [run_equalIn_agg w (n + 2) 49 _ _ hS hp]
  simp only [Program.fieldsOf, Try.underlying49]
  go_simp

theorem eqin_pl (n : Nat) (o1 o2 o3 : Int) (w : World) :
    (Op.equalIn (n + 2) 36 (.agg #[.int .i64 o1, .int .i64 o2, .int .i64 o3]) (.agg #[.int .i64 o1, .int .i64 o2, .int .i64 o3])).run Try.prog w = .ok true w := by
  have u3 := Try.underlying3
  have a3 := Try.isAgg3
  have z3 := Try.sizeOf3
  have hS : Try.prog.underlying 36 = some (.struct (Try.prog.fieldsOf 36)) := by kernel_rfl
  have hp : Try.prog.stoodInHeld 36 = false := by kernel_rfl
  rw [run_equalIn_agg w (n + 1) 36 _ _ hS hp]
  simp only [Program.fieldsOf, Try.underlying36]
  go_simp

theorem run_eql_step (s : Stp) (w : World) : (binOp .eql 51 (stV s) (stV s)).run Try.prog w = .ok (.bool true) w := by
  have u3 := Try.underlying4
  have a3 := Try.isAgg4
  have z3 := Try.sizeOf4
  have a4 := Try.isAgg49
  have z4 := Try.sizeOf49
  have a5 := Try.isAgg36
  have z5 := Try.sizeOf36
  have hS : Try.prog.underlying 51 = some (.struct (Try.prog.fieldsOf 51)) := by kernel_rfl
  have hp : Try.prog.stoodInHeld 51 = false := by kernel_rfl
  have e1 := eqin_op 9996 s.1.1 s.1.2.1 s.1.2.2.1.1 s.1.2.2.1.2.1 s.1.2.2.1.2.2 s.1.2.2.2.1 s.1.2.2.2.2
  have e2 := eqin_pl 9997 s.2.2.1 s.2.2.2.1 s.2.2.2.2
  rw [run_eql_struct, show (10000 : Nat) = 9999 + 1 from rfl, run_equalIn_agg w 9999 51 _ _ hS hp]
  simp only [Program.fieldsOf, Try.underlying51]
  go_simp

theorem guard_step (op : BinOp) (x y : Operand) (xs ys : Array Value) (w : World) : (eqGuard op 51 x y (.agg xs) (.agg ys)).run Try.prog w = .ok () w :=
  run_eqGuard_agg w op 51 x y xs ys (by kernel_rfl)

theorem run_neq_op (o : Mv) (w : World) : (binOp .neq 49 (opV o) (opV o)).run Try.prog w = .ok (.bool false) w := by
  have e1 := eqin_op 9997 o.1 o.2.1 o.2.2.1.1 o.2.2.1.2.1 o.2.2.1.2.2 o.2.2.2.1 o.2.2.2.2 w
  rw [run_neq_struct, show (10000 : Nat) = 9997 + 3 from rfl, e1]
  rfl

theorem guard_op (op : BinOp) (x y : Operand) (xs ys : Array Value) (w : World) : (eqGuard op 49 x y (.agg xs) (.agg ys)).run Try.prog w = .ok () w :=
  run_eqGuard_agg w op 49 x y xs ys (by kernel_rfl)
end Go.Proofs.Ytphameoibnimmaa
