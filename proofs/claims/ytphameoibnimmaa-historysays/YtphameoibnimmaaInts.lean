/- slices.Equal and slices.Contains at ints. -/
import Derived.Test.YtphameoibnimmaaBase
namespace Go.Proofs.Ytphameoibnimmaa
open Go.ChangeShapes Go.WideShapes Go.ChangeAt Go.RowKit
open Orangery (hasB)

set_option maxHeartbeats 400000 in
theorem equal_ints (w : World) (b off c b' off' c' n : Nat) (l : List Int) (hn : l.length = n) (hl : n ≤ 1000)
    (h1 : IntsAt w b off l) (h2 : IntsAt w b' off' l) :
    Calls Try.prog 9 #[.slice (some ⟨b, off, none⟩) n c, .slice (some ⟨b', off', none⟩) n c'] w
      fun e w' => e = .returned (.bool true) ∧ ∃ n, w' = w.drewN n := by
  subst hn
  go_enter Try.func9, Try.ntmps9
  go_wp2
  go_loopw [13] (fun i w' => ∃ k n : Nat, k ≤ l.length ∧ i = .int .i64 k ∧ w' = w.drewN n) (fun i _ => l.length - (intOf i).toNat)
  case atStart => exact ⟨0, 0, Nat.zero_le _, rfl, rfl⟩
  case round =>
    obtain ⟨k, n, hk, rfl, rfl⟩ := hrel
    by_cases hlt : k < l.length
    · have g1 := h1 k hlt
      have g2 := h2 k hlt
      go_wp2
      go_quiet (fail)
      go_wp2
      go_roundw
      case rel => exact ⟨k + 1, _, by omega, by go_num, rfl⟩
      case measure => simp [intOf]; omega
    · go_wp2
      go_ret
      exact ⟨rfl, n, rfl⟩

theorem blk_new {w : World} {o : Obj} {b : Nat} (h : b = w.heap.size) : (w.alloc o).heap[b]? = some o := by
  subst h
  show (w.heap.push o)[_]? = _
  simp

theorem blk_old {w : World} {o : Obj} {b : Nat} (h : b < w.heap.size) : (w.alloc o).heap[b]? = w.heap[b]? := by
  show (w.heap.push o)[_]? = _
  simp [Array.getElem?_push]
  omega

theorem intsAt_block {w : World} {b : Nat} {t : TypeId} {fr : Nat × Nat} (l : List Int)
    (h : w.heap[b]? = some (.cells (l.map (Value.int .i64)).toArray t fr)) : IntsAt w b 0 l := by
  intro i hi
  rw [Go.Joins.cell_of_block h, Nat.zero_add]
  simp [hi]

set_option maxHeartbeats 400000 in
theorem index_ints (w : World) (b off c n : Nat) (x : Int) (l : List Int) (hn : l.length = n) (hl : n ≤ maxLen) (h1 : IntsAt w b off l) :
    Calls Try.prog 75 #[.slice (some ⟨b, off, none⟩) n c, .int .i64 x] w
      fun e w' => (∃ i : Int, e = .returned (.int .i64 i) ∧ (x ∈ l → 0 ≤ i) ∧ (x ∉ l → i = -1)) ∧ w' = w := by
  subst hn
  have hl' : l.length ≤ 9223372036854775807 := hl
  go_enter Try.func75, Try.ntmps75
  go_wp2
  go_loop [8] (fun i => ∃ k : Nat, k ≤ l.length ∧ i = .int .i64 k ∧ ∀ j, (hj : j < l.length) → j < k → l[j] ≠ x) (fun i => l.length - (intOf i).toNat)
  case atStart => exact ⟨0, Nat.zero_le _, rfl, fun j _ hj => absurd hj (Nat.not_lt_zero _)⟩
  case round =>
    obtain ⟨k, hk, rfl, hno⟩ := hrel
    have HNO : Hid (∀ j, (hj : j < l.length) → j < k → l[j] ≠ x) := hno
    clear hno
    by_cases hlt : k < l.length
    · have g1 := h1 k hlt
      by_cases hx : x = l[k]
      · have hx' : (x == l[k]) = true := by simpa using hx
        have HX : Hid (x = l[k]) := hx
        clear hx
        go_wp2
        go_ret
        refine ⟨⟨k, rfl, fun _ => by omega, fun hn => absurd (by rw [HX.out]; exact List.getElem_mem hlt) hn⟩, rfl⟩
      · have hx' : (x == l[k]) = false := by simpa using hx
        have HX : Hid (x ≠ l[k]) := hx
        clear hx
        go_wp2
        go_round
        case rel =>
          refine ⟨k + 1, hlt, by go_num, fun j hj hjk => ?_⟩
          by_cases hjk' : j < k
          · exact HNO.out j hj hjk'
          · have : j = k := by omega
            subst this
            exact fun e => HX.out e.symm
        case measure => simp [intOf]; omega
    · go_wp2
      go_ret
      refine ⟨⟨-1, rfl, fun hm => ?_, fun _ => rfl⟩, rfl⟩
      obtain ⟨j, hj, e⟩ := List.getElem_of_mem hm
      exact absurd e (HNO.out j hj (by omega))

set_option maxHeartbeats 400000 in
theorem contains_ints (w : World) (b off c n : Nat) (x : Int) (l : List Int) (hn : l.length = n) (hl : n ≤ maxLen) (h1 : IntsAt w b off l) :
    Calls Try.prog 47 #[.slice (some ⟨b, off, none⟩) n c, .int .i64 x] w
      fun e w' => e = .returned (.bool (hasB x l)) ∧ w' = w := by
  go_enter Try.func47, Try.ntmps47
  go_wp2_with fail
  refine (index_ints w b off c n x l hn hl h1).mono ?_
  rintro e w' ⟨⟨i, rfl, hi1, hi2⟩, rfl⟩
  by_cases hm : x ∈ l
  · have h0 := hi1 hm
    clear hi1 hi2
    go_wp2
    go_ret
    exact ⟨ret_bool (by simp [hasB, hm]), rfl⟩
  · have h0 := hi2 hm
    subst h0
    clear hi1 hi2
    go_wp2
    go_ret
    exact ⟨ret_bool (by simp [hasB, hm]), rfl⟩
end Go.Proofs.Ytphameoibnimmaa
