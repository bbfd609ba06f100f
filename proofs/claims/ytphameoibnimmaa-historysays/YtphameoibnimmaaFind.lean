/- tree.Find: the first place of a node, or the zero place. -/
import Derived.Test.YtphameoibnimmaaBase
namespace Go.Proofs.Ytphameoibnimmaa
open Go.ChangeShapes Go.WideShapes Go.ChangeAt Go.RowKit
open Orangery (Pl find)

set_option maxHeartbeats 400000 in
theorem find_any (w : World) (a : Option Addr) (c : Nat) (l : List Pl) (n : Int) (hl : l.length ≤ maxLen) (h : SlP w a l) :
    Calls Try.prog 15 #[.agg #[.slice a l.length c], .int .i64 n] w
      fun e w' => e = .returned (plV (find l n)) ∧ Below w.heap.size w w' := by
  unfold maxLen at hl
  go_enter Try.func15, Try.ntmps15
  go_wp2
  generalize hW : (w.alloc (Obj.cells #[Value.slice a l.length c] 29)).alloc (Obj.cells #[Value.int IntKind.i64 0, Value.int IntKind.i64 0, Value.int IntKind.i64 0] 36) = W0
  have hB : Below w.heap.size w W0 := by subst hW; exact Go.Joins.below_alloc2 w _ _
  have hS : W0.heap.size = w.heap.size + 2 := by subst hW; simp
  have hfr : ∀ j, W0.frozen? ⟨w.heap.size + 1, j, none⟩ = false := by intro j; subst hW; simp
  have hc : W0.cell? ⟨w.heap.size + 1, 0, none⟩ = some (.int .i64 0) ∧ W0.cell? ⟨w.heap.size + 1, 1, none⟩ = some (.int .i64 0) ∧ W0.cell? ⟨w.heap.size + 1, 2, none⟩ = some (.int .i64 0) := by subst hW; simp
  have hP := h.below hB
  clear h
  have HW : Hid (_ = W0) := hW
  clear hW
  go_loopw [10] (fun i W => ∃ k : Nat, k ≤ l.length ∧ i = .int .i64 k ∧ find (l.drop k) n = find l n ∧ Below W0.heap.size W0 W) (fun i _ => l.length - (intOf i).toNat)
  case atStart => exact ⟨0, Nat.zero_le _, rfl, rfl, Below.refl _ _⟩
  case round =>
    obtain ⟨k, hk, rfl, hf, hb⟩ := hrel
    have hz : w.heap.size + 1 < wr.heap.size := by have := hb.size; omega
    have hf0 : ∀ j, wr.frozen? ⟨w.heap.size + 1, j, none⟩ = false := by intro j; rw [hb.frozen (by show w.heap.size + 1 < _; omega)]; exact hfr j
    obtain ⟨c0, c1, c2⟩ := hc
    rw [← hb.cell (by show w.heap.size + 1 < _; omega)] at c0 c1 c2
    clear hfr
    by_cases hlt : k < l.length
    · obtain ⟨e1, e2⟩ := Orangery.find_drop l n k hlt hf
      rcases hP with hP | ⟨b, off, rfl, hbl, hp⟩
      · exact absurd hlt (by simp [hP])
      have g := hp k hlt
      rw [← hb.cell hbl, ← hb.cell hbl, ← hb.cell hbl] at g
      obtain ⟨g0, g1, g2⟩ := g
      by_cases hq : l[k].1 = n
      · have e := e1 hq
        have hq' : (l[k].1 == n) = true := by simpa using hq
        have HQ : Hid (l[k].1 = n) := hq
        clear hq e1 e2 hf
        have HE : Hid (find l n = l[k]) := e
        clear e
        go_wp2
        obtain ⟨d0, d1, d2⟩ := cells3 (.int .i64 l[k].1) (.int .i64 l[k].2.1) (.int .i64 l[k].2.2) c0 c1 c2
        refine bodyPost_ret (v := plV l[k]) (by simp [results, Try.results15, go_sem, hz, d0, d1, d2]) rfl ⟨by rw [HE.out], ?_⟩
        have hb' : Below w.heap.size w wr := hB.trans (hb.mono (by omega))
        exact (((hb'.setCell (by simp) _).setCell (by simp) _).setCell (by simp) _).alloc (by simp; omega) _
      · have hq' : (l[k].1 == n) = false := by simpa using hq
        go_wp2
        go_roundw
        case rel => exact ⟨k + 1, hlt, by go_num, e2 hq, hb.alloc hb.size _⟩
        case measure => simp [intOf]; omega
    · have hk : k = l.length := by omega
      have e : find l n = (0, 0, 0) := by rw [← hf, hk, List.drop_length]; rfl
      have HE : Hid (find l n = (0, 0, 0)) := e
      clear e hf
      go_wp2
      obtain ⟨d0, d1, d2⟩ := cells3 (.int .i64 0) (.int .i64 0) (.int .i64 0) c0 c1 c2
      refine bodyPost_ret (v := plV (0, 0, 0)) (by simp [results, Try.results15, go_sem, d0, d1, d2]) rfl ⟨by rw [HE.out], ?_⟩
      have hb' : Below w.heap.size w wr := hB.trans (hb.mono (by omega))
      exact (((hb'.setCell (by simp) _).setCell (by simp) _).setCell (by simp) _)
end Go.Proofs.Ytphameoibnimmaa
