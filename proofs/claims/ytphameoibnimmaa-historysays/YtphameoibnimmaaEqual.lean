/- slices.Equal at places. -/
import Derived.Test.YtphameoibnimmaaBase
import Derived.Laws.StructEq
namespace Go.Proofs.Ytphameoibnimmaa
open Go.ChangeShapes Go.WideShapes Go.ChangeAt Go.RowKit
open Orangery (Pl)

def eqPl (x y : Pl) : Bool := decide (x = y)

theorem run_neq_pl (x0 x1 x2 y0 y1 y2 : Int) (w : World) :
    (binOp .neq 36 (.agg #[.int .i64 x0, .int .i64 x1, .int .i64 x2]) (.agg #[.int .i64 y0, .int .i64 y1, .int .i64 y2])).run Try.prog w = .ok (.bool (!eqPl (x0, x1, x2) (y0, y1, y2))) w := by
  have u3 := Try.underlying3
  have a3 := Try.isAgg3
  have z3 := Try.sizeOf3
  have hS : Try.prog.underlying 36 = some (.struct (Try.prog.fieldsOf 36)) := by kernel_rfl
  have hp : Try.prog.stoodInHeld 36 = false := by kernel_rfl
  rw [run_neq_struct, show (10000 : Nat) = 9999 + 1 from rfl, run_equalIn_agg w 9999 36 _ _ hS hp]
  simp only [Program.fieldsOf, Try.underlying36]
  go_simp
  by_cases h1 : x0 = y0 <;> by_cases h2 : x1 = y1 <;> by_cases h3 : x2 = y2 <;> simp [h1, h2, h3, eqPl]

theorem run_eql_pl (x0 x1 x2 y0 y1 y2 : Int) (w : World) :
    (binOp .eql 36 (.agg #[.int .i64 x0, .int .i64 x1, .int .i64 x2]) (.agg #[.int .i64 y0, .int .i64 y1, .int .i64 y2])).run Try.prog w = .ok (.bool (eqPl (x0, x1, x2) (y0, y1, y2))) w := by
  have u3 := Try.underlying3
  have a3 := Try.isAgg3
  have z3 := Try.sizeOf3
  have hS : Try.prog.underlying 36 = some (.struct (Try.prog.fieldsOf 36)) := by kernel_rfl
  have hp : Try.prog.stoodInHeld 36 = false := by kernel_rfl
  rw [run_eql_struct, show (10000 : Nat) = 9999 + 1 from rfl, run_equalIn_agg w 9999 36 _ _ hS hp]
  simp only [Program.fieldsOf, Try.underlying36]
  go_simp
  by_cases h1 : x0 = y0 <;> by_cases h2 : x1 = y1 <;> by_cases h3 : x2 = y2 <;> simp [h1, h2, h3, eqPl]

theorem guard_pl (op : BinOp) (x y : Operand) (xs ys : Array Value) (w : World) : (eqGuard op 36 x y (.agg xs) (.agg ys)).run Try.prog w = .ok () w :=
  run_eqGuard_agg w op 36 x y xs ys (by kernel_rfl)

def eqPls (l m : List Pl) : Bool := decide (l = m)

set_option maxHeartbeats 1000000 in
theorem equal_pls (w : World) (a a' : Option Addr) (c c' : Nat) (l m : List Pl) (hl : l.length ≤ maxLen) (h1 : SlP w a l) (h2 : SlP w a' m) :
    Calls Try.prog 19 #[.slice a l.length c, .slice a' m.length c'] w
      fun e w' => e = .returned (.bool (eqPls l m)) ∧ ∃ n, w' = w.drewN n := by
  have hl' : l.length ≤ 9223372036854775807 := hl
  by_cases hlen : l.length = m.length
  · have hne := run_neq_pl
    have hgd := guard_pl
    have hlen' : ((l.length : Int) != (m.length : Int)) = false := by simp [hlen]
    go_enter Try.func19, Try.ntmps19
    go_wp2
    go_loopw [13] (fun i w' => ∃ k n : Nat, k ≤ l.length ∧ i = .int .i64 k ∧ w' = w.drewN n ∧ l.take k = m.take k) (fun i _ => l.length - (intOf i).toNat)
    case atStart => exact ⟨0, 0, Nat.zero_le _, rfl, rfl, rfl⟩
    case round =>
      obtain ⟨k, n, hk, rfl, rfl, hpre⟩ := hrel
      have HP : Hid (l.take k = m.take k) := hpre
      clear hpre
      by_cases hlt : k < l.length
      · have hlt2 : k < m.length := by omega
        rcases h1 with h1 | ⟨b, off, rfl, hbl, hp⟩
        · exact absurd hlt (by simp [h1])
        rcases h2 with h2 | ⟨b', off', rfl, hbl', hp'⟩
        · exact absurd hlt2 (by simp [h2])
        obtain ⟨g0, g1, g2⟩ := hp k hlt
        obtain ⟨x0, x1, x2⟩ := hp' k hlt2
        have hlti : (k : Int) < (m.length : Int) := by omega
        go_wp2
        go_quiet (fail)
        cases hq : eqPl l[k] m[k]
        · have HQ : Hid (l[k] ≠ m[k]) := by show _ ≠ _; simpa [eqPl] using hq
          go_wp2
          go_ret
          exact ⟨ret_bool (by symm; simp only [eqPls, decide_eq_false_iff_not]; intro e; subst e; exact HQ.out rfl), n + nq, by simp⟩
        · have HQ : Hid (l[k] = m[k]) := by show _ = _; simpa [eqPl] using hq
          go_wp2
          go_roundw
          case rel => exact ⟨k + 1, _, by omega, by go_num, rfl, by rw [List.take_succ_eq_append_getElem hlt, List.take_succ_eq_append_getElem hlt2, HP.out, HQ.out]⟩
          case measure => simp [intOf]; omega
      · go_wp2
        go_ret
        refine ⟨ret_bool ?_, n, rfl⟩
        symm
        have e := HP.out
        rw [List.take_of_length_le (by omega), List.take_of_length_le (by omega)] at e
        simp [eqPls, e]
  · have hlen' : ((l.length : Int) != (m.length : Int)) = true := by simp; omega
    have HL : Hid (l.length ≠ m.length) := hlen
    clear hlen
    go_enter Try.func19, Try.ntmps19
    go_wp2
    go_ret
    exact ⟨ret_bool (by symm; simp only [eqPls, decide_eq_false_iff_not]; intro e; subst e; exact HL.out rfl), 0, rfl⟩
end Go.Proofs.Ytphameoibnimmaa
