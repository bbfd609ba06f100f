/- The contract of slices.Equal at ints, of two slices that lie in memory. -/
import Derived.Test.YtaikapbhikhmnaaRows
import Derived.WalkKit
import Derived.ProofKit
import Derived.OpenShut
import Derived.Deep.QuietTactic
import Derived.BigQuiet
import Derived.Lib.SmallJoins
namespace Go.Proofs.Ytaikapbhikhmnaa
open Go.ChangeShapes Go.WideShapes Go.ChangeAt Go.RowKit

/-- the ints from a cell on -/
def IntsAt (w : World) (b off : Nat) (l : List Int) : Prop :=
  ∀ i, i < l.length → w.cell? ⟨b, off + i, none⟩ = some (.int .i64 (l.getD i 0))

set_option maxHeartbeats 400000 in
theorem equal_ints (w : World) (b off c b' off' c' : Nat) (l : List Int) (hl : l.length ≤ 1000)
    (h1 : IntsAt w b off l) (h2 : IntsAt w b' off' l) :
    Calls Try.prog 6 #[.slice (some ⟨b, off, none⟩) l.length c, .slice (some ⟨b', off', none⟩) l.length c'] w
      fun e w' => e = .returned (.bool true) ∧ ∃ n, w' = w.drewN n := by
  go_enter Try.func6, Try.ntmps6
  go_wp2
  go_loopw [13] (fun i w' => ∃ k n : Nat, k ≤ l.length ∧ i = .int .i64 k ∧ w' = w.drewN n) (fun i _ => l.length - (intOf i).toNat)
  case atStart => exact ⟨0, 0, Nat.zero_le _, rfl, rfl⟩
  case round =>
    obtain ⟨k, n, hk, rfl, rfl⟩ := hrel
    by_cases hlt : k < l.length
    · have g1 := h1 k hlt
      have g2 := h2 k hlt
      go_wp2
      go_quiet (fail)
      go_wp2
      go_roundw
      case rel => exact ⟨k + 1, _, by omega, by go_num, rfl⟩
      case measure => simp [intOf]; omega
    · go_wp2
      go_ret
      exact ⟨rfl, n, rfl⟩

theorem blk_new {w : World} {o : Obj} {b : Nat} (h : b = w.heap.size) : (w.alloc o).heap[b]? = some o := by
  subst h
  show (w.heap.push o)[_]? = _
  simp

theorem blk_old {w : World} {o : Obj} {b : Nat} (h : b < w.heap.size) : (w.alloc o).heap[b]? = w.heap[b]? := by
  show (w.heap.push o)[_]? = _
  simp [Array.getElem?_push]
  omega

theorem intsAt_block {w : World} {b : Nat} {t : TypeId} {fr : Nat × Nat} (l : List Int)
    (h : w.heap[b]? = some (.cells (l.map (Value.int .i64)).toArray t fr)) : IntsAt w b 0 l := by
  intro i hi
  rw [Go.Joins.cell_of_block h, Nat.zero_add]
  simp [hi, List.getD]

theorem equal_ints' (w : World) (b off c b' off' c' n : Nat) (l : List Int) (hn : l.length = n) (hl : n ≤ 1000)
    (h1 : IntsAt w b off l) (h2 : IntsAt w b' off' l) :
    Calls Try.prog 6 #[.slice (some ⟨b, off, none⟩) n c, .slice (some ⟨b', off', none⟩) n c'] w
      fun e w' => e = .returned (.bool true) ∧ ∃ n, w' = w.drewN n := by
  subst hn
  exact equal_ints w b off c b' off' c' l hl h1 h2
end Go.Proofs.Ytaikapbhikhmnaa
