/- 1 texts of the proof: slices.Index, slices.Contains at operations. -/
import Derived.Test.YtphameoibnimmabP03
/- slices.Index, slices.Contains at operations. -/
namespace Go.Proofs.Ytphameoibnimmab
open Go.ChangeShapes Go.WideShapes Go.ChangeAt Go.RowKit
open Orangery (Pl Mv Stp)

theorem guard_opq (op : BinOp) (x y : Operand) (xs ys : Array Value) (w : World) : (eqGuard op 38 x y (.agg xs) (.agg ys)).run Try.prog w = .ok () w :=
  run_eqGuard_agg w op 38 x y xs ys (by kernel_rfl)

set_option maxHeartbeats 1000000 in
theorem indexOps_any (w : World) (a : Option Addr) (c : Nat) (l : List Mv) (o : Mv) (hl : l.length ≤ maxLen) (h : SlE opC w a l) :
    Calls Try.prog 32 #[.slice a l.length c, opV o] w
      fun e w' => (∃ i : Int, e = .returned (.int .i64 i) ∧ (o ∈ l → 0 ≤ i) ∧ (o ∉ l → i = -1)) ∧ Below w.heap.size w w' := by
  have hl' : l.length ≤ 9223372036854775807 := hl
  obtain ⟨W0, hW, hN, hB, hS⟩ := laid1 w [Value.int IntKind.i64 o.1, Value.int IntKind.i64 o.2.1, Value.int IntKind.i64 o.2.2.1.1, Value.int IntKind.i64 o.2.2.1.2.1, Value.int IntKind.i64 o.2.2.1.2.2, Value.int IntKind.i64 o.2.2.2.1, Value.int IntKind.i64 o.2.2.2.2] 38
  have HP : Hid (SlE opC W0 a l) := h.below hB
  have HB : Hid (Below w.heap.size w W0) := hB
  have heq := run_eql_opg
  have hgd := guard_opq
  have m0 := hN.at 0 rfl
  have m1 := hN.at 1 rfl
  have m2 := hN.at 2 rfl
  have m3 := hN.at 3 rfl
  have m4 := hN.at 4 rfl
  have m5 := hN.at 5 rfl
  have m6 := hN.at 6 rfl
  clear hN hB hS h
  go_enter Try.func32, Try.ntmps32
  go_wp2
  clear hW
  go_loopw [8] (fun i W => ∃ k n : Nat, k ≤ l.length ∧ i = .int .i64 k ∧ W = W0.drewN n ∧ (∀ j, (hj : j < l.length) → j < k → o ≠ l[j])) (fun i _ => l.length - (intOf i).toNat)
  case atStart => exact ⟨0, 0, Nat.zero_le _, rfl, rfl, fun j _ hj => absurd hj (Nat.not_lt_zero _)⟩
  case round =>
    obtain ⟨k, n, hk, rfl, rfl, hno⟩ := hrel
    have HNO : Hid (∀ j, (hj : j < l.length) → j < k → o ≠ l[j]) := hno
    clear hno
    by_cases hlt : k < l.length
    · obtain ⟨b, off, rfl, hbl, hr⟩ := HP.out.at opC_len k hlt
      obtain ⟨g0, g1, g2, g3, g4, g5, g6⟩ := op_cells hr
      have HM : Hid (l[k] ∈ l) := List.getElem_mem hlt
      have HKE : Hid (∀ j, (hj : j < l.length) → j = k → l[j] = l[k]) := fun j hj e => by subst e; rfl
      clear hr
      generalize l[k] = q at *
      go_wp2
      go_quiet (fail)
      cases hq : decide (o = q)
      · have HQ : Hid (o ≠ q) := by show _ ≠ _; simpa using hq
        go_wp2
        go_roundw
        case rel =>
          refine ⟨k + 1, _, by omega, by go_num, rfl, fun j hj hjk => ?_⟩
          by_cases hjk' : j < k
          · exact HNO.out j hj hjk'
          · rw [HKE.out j hj (by omega)]; exact HQ.out
        case measure => simp [intOf]; omega
      · have HQ : Hid (o = q) := by show _ = _; simpa using hq
        go_wp2
        go_ret
        refine ⟨⟨k, rfl, fun _ => by omega, fun hn => ?_⟩, HB.out.trans ⟨rfl, rfl, rfl, Nat.le_refl _, fun _ _ => rfl⟩⟩
        rw [HQ.out] at hn
        exact absurd HM.out hn
    · go_wp2
      go_ret
      refine ⟨⟨-1, rfl, fun hm => ?_, fun _ => rfl⟩, HB.out.trans ⟨rfl, rfl, rfl, Nat.le_refl _, fun _ _ => rfl⟩⟩
      obtain ⟨j, hj, e⟩ := List.getElem_of_mem hm
      exact absurd e.symm (HNO.out j hj (by omega))

set_option maxHeartbeats 1000000 in
theorem containsOps_yes (w : World) (a : Option Addr) (c : Nat) (l : List Mv) (o : Mv) (hl : l.length ≤ maxLen) (h : SlE opC w a l) (ho : o ∈ l) :
    Calls Try.prog 15 #[.slice a l.length c, opV o] w fun e w' => e = .returned (.bool true) ∧ Below w.heap.size w w' := by
  obtain ⟨W0, hW, hN, hB, hS⟩ := laid1 w [Value.int IntKind.i64 o.1, Value.int IntKind.i64 o.2.1, Value.int IntKind.i64 o.2.2.1.1, Value.int IntKind.i64 o.2.2.1.2.1, Value.int IntKind.i64 o.2.2.1.2.2, Value.int IntKind.i64 o.2.2.2.1, Value.int IntKind.i64 o.2.2.2.2] 38
  have m0 := hN.at 0 rfl
  have m1 := hN.at 1 rfl
  have m2 := hN.at 2 rfl
  have m3 := hN.at 3 rfl
  have m4 := hN.at 4 rfl
  have m5 := hN.at 5 rfl
  have m6 := hN.at 6 rfl
  have HB : Hid (Below w.heap.size w W0) := hB
  have hP := h.below hB
  clear hN hB hS h
  go_enter Try.func15, Try.ntmps15
  go_wp2_with fail
  refine (indexOps_any W0 a c l o hl hP).mono ?_
  rintro e w1 ⟨⟨i, rfl, hi, _⟩, hb⟩
  have h0 := hi ho
  have HB1 : Hid (Below w.heap.size w w1) := HB.out.trans (hb.mono HB.out.size)
  clear hi hb
  go_wp2
  go_ret
  exact ⟨rfl, HB1.out⟩
end Go.Proofs.Ytphameoibnimmab

