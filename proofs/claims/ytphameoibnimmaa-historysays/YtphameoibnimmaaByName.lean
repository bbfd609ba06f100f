/- cmp.Compare, cmp.Or at ints; tree.byName. -/
import Derived.Test.YtphameoibnimmaaInts
import Derived.Test.YtphameoibnimmaaPlainB
import Derived.Deep.RegionHeld3
import Derived.Sort.Grow
namespace Go.Proofs.Ytphameoibnimmaa
open Go.ChangeShapes Go.WideShapes Go.ChangeAt Go.RowKit
open Orangery (Pl cmpI byN orI)

set_option maxHeartbeats 400000 in
theorem compare_any (w : World) (x y : Int) :
    Calls Try.prog 74 #[.int .i64 x, .int .i64 y] w fun e w' => e = .returned (.int .i64 (cmpI x y)) ∧ w' = w := by
  have hx : (x != x) = false := by simp
  have hy : (y != y) = false := by simp
  by_cases h1 : x < y
  · have e : cmpI x y = -1 := by simp [cmpI, h1]
    have HE : Hid (cmpI x y = -1) := e
    clear e
    go_enter Try.func74, Try.ntmps74
    go_wp2
    go_ret
    exact ⟨ret_int (by rw [HE.out]), rfl⟩
  · by_cases h2 : y < x
    · have e : cmpI x y = 1 := by simp [cmpI, h1, h2]
      have HE : Hid (cmpI x y = 1) := e
      clear e
      go_enter Try.func74, Try.ntmps74
      go_wp2
      go_ret
      exact ⟨ret_int (by rw [HE.out]), rfl⟩
    · have e : cmpI x y = 0 := by simp [cmpI, h1, h2]
      have HE : Hid (cmpI x y = 0) := e
      clear e
      go_enter Try.func74, Try.ntmps74
      go_wp2
      go_ret
      exact ⟨ret_int (by rw [HE.out]), rfl⟩

set_option maxHeartbeats 400000 in
theorem or_any (w : World) (b c : Nat) (x y : Int) (h0 : w.cell? ⟨b, 0, none⟩ = some (.int .i64 x)) (h1 : w.cell? ⟨b, 1, none⟩ = some (.int .i64 y)) :
    Calls Try.prog 73 #[.slice (some ⟨b, 0, none⟩) 2 c] w fun e w' => e = .returned (.int .i64 (orI x y)) ∧ w' = w := by
  go_enter Try.func73, Try.ntmps73
  go_wp2
  go_loop [8] (fun i => ∃ k : Nat, k ≤ 2 ∧ i = .int .i64 k ∧ (1 ≤ k → x = 0) ∧ (2 ≤ k → y = 0)) (fun i => 2 - (intOf i).toNat)
  case atStart => exact ⟨0, by omega, rfl, by omega, by omega⟩
  case round =>
    obtain ⟨k, hk, rfl, hx, hy⟩ := hrel
    have hc : k = 0 ∨ k = 1 ∨ k = 2 := by omega
    rcases hc with rfl | rfl | rfl
    · clear hx hy
      by_cases hx : x = 0
      · have hx' : (x != 0) = false := by simp [hx]
        have HX : Hid (x = 0) := hx
        clear hx
        go_wp2
        go_round
        case rel => exact ⟨1, by omega, by go_num, fun _ => HX.out, by omega⟩
        case measure => simp [intOf]
      · have hx' : (x != 0) = true := by simp [hx]
        have HX : Hid (x ≠ 0) := hx
        clear hx
        go_wp2
        go_ret
        exact ⟨ret_int (by rw [orI, if_pos HX.out]), rfl⟩
    · have HX : Hid (x = 0) := hx (by omega)
      clear hx hy
      by_cases hy : y = 0
      · have hy' : (y != 0) = false := by simp [hy]
        have HY : Hid (y = 0) := hy
        clear hy
        go_wp2
        go_round
        case rel => exact ⟨2, by omega, by go_num, fun _ => HX.out, fun _ => HY.out⟩
        case measure => simp [intOf]
      · have hy' : (y != 0) = true := by simp [hy]
        clear hy
        go_wp2
        go_ret
        exact ⟨ret_int (by rw [orI, if_neg (by simp [HX.out])]), rfl⟩
    · have HX : Hid (x = 0) := hx (by omega)
      have HY : Hid (y = 0) := hy (by omega)
      clear hx hy
      go_wp2
      go_ret
      exact ⟨ret_int (by rw [orI, if_neg (by simp [HX.out]), HY.out]), rfl⟩

set_option maxHeartbeats 1000000 in
theorem byName_any (w : World) (p q : Pl) :
    Calls Try.prog 45 #[plV p, plV q] w fun e w' => e = .returned (.int .i64 (byN p q)) ∧ ∃ n os, w' = Go.Sort.grow (w.drewN n) os := by
  obtain ⟨a0, a1, a2⟩ := p
  obtain ⟨b0, b1, b2⟩ := q
  have HE : Hid (byN (a0, a1, a2) (b0, b1, b2) = orI (cmpI a2 b2) (cmpI a0 b0)) := rfl
  go_enter Try.func45, Try.ntmps45
  go_wp2
  have y0 : ((w.alloc (Obj.cells #[Value.int IntKind.i64 a0, Value.int IntKind.i64 a1, Value.int IntKind.i64 a2] 36)).alloc (Obj.cells #[Value.int IntKind.i64 b0, Value.int IntKind.i64 b1, Value.int IntKind.i64 b2] 36)).cell? ⟨w.heap.size, 0, none⟩ = some (.int .i64 a0) := by rw [(Go.Joins.below_alloc1 _ _).cell (by simp)]; simp
  have y1 : ((w.alloc (Obj.cells #[Value.int IntKind.i64 a0, Value.int IntKind.i64 a1, Value.int IntKind.i64 a2] 36)).alloc (Obj.cells #[Value.int IntKind.i64 b0, Value.int IntKind.i64 b1, Value.int IntKind.i64 b2] 36)).cell? ⟨w.heap.size, 2, none⟩ = some (.int .i64 a2) := by rw [(Go.Joins.below_alloc1 _ _).cell (by simp)]; simp
  have y2 : ((w.alloc (Obj.cells #[Value.int IntKind.i64 a0, Value.int IntKind.i64 a1, Value.int IntKind.i64 a2] 36)).alloc (Obj.cells #[Value.int IntKind.i64 b0, Value.int IntKind.i64 b1, Value.int IntKind.i64 b2] 36)).cell? ⟨w.heap.size + 1, 0, none⟩ = some (.int .i64 b0) := by simp
  have y3 : ((w.alloc (Obj.cells #[Value.int IntKind.i64 a0, Value.int IntKind.i64 a1, Value.int IntKind.i64 a2] 36)).alloc (Obj.cells #[Value.int IntKind.i64 b0, Value.int IntKind.i64 b1, Value.int IntKind.i64 b2] 36)).cell? ⟨w.heap.size + 1, 2, none⟩ = some (.int .i64 b2) := by simp
  have hS : ((w.alloc (Obj.cells #[Value.int IntKind.i64 a0, Value.int IntKind.i64 a1, Value.int IntKind.i64 a2] 36)).alloc (Obj.cells #[Value.int IntKind.i64 b0, Value.int IntKind.i64 b1, Value.int IntKind.i64 b2] 36)).heap.size = w.heap.size + 2 := by simp
  have hG : ∃ os, ((w.alloc (Obj.cells #[Value.int IntKind.i64 a0, Value.int IntKind.i64 a1, Value.int IntKind.i64 a2] 36)).alloc (Obj.cells #[Value.int IntKind.i64 b0, Value.int IntKind.i64 b1, Value.int IntKind.i64 b2] 36)) = Go.Sort.grow w os := ⟨_, by rw [Go.Sort.alloc_eq_grow, Go.Sort.alloc_eq_grow, Go.Sort.grow_grow]⟩
  generalize ((w.alloc (Obj.cells #[Value.int IntKind.i64 a0, Value.int IntKind.i64 a1, Value.int IntKind.i64 a2] 36)).alloc (Obj.cells #[Value.int IntKind.i64 b0, Value.int IntKind.i64 b1, Value.int IntKind.i64 b2] 36)) = W2 at y0 y1 y2 y3 hS hG ⊢
  have HG : Hid (∃ os, W2 = Go.Sort.grow w os) := hG
  clear hG
  have n0 := World.new_ne W2 ⟨w.heap.size, 0, none⟩ y0
  have n1 := World.new_ne W2 ⟨w.heap.size, 2, none⟩ y1
  have n2 := World.new_ne W2 ⟨w.heap.size + 1, 0, none⟩ y2
  have n3 := World.new_ne W2 ⟨w.heap.size + 1, 2, none⟩ y3
  have F0 : Hid ((W2.alloc (Obj.cells #[Value.int IntKind.i64 (cmpI a2 b2), Value.int IntKind.i64 (cmpI a0 b0)] 3)).cell? ⟨w.heap.size + 2, 0, none⟩ = some (.int .i64 (cmpI a2 b2))) := by
    show World.cell? _ _ = _
    rw [← hS]; simp
  have F1 : Hid ((W2.alloc (Obj.cells #[Value.int IntKind.i64 (cmpI a2 b2), Value.int IntKind.i64 (cmpI a0 b0)] 3)).cell? ⟨w.heap.size + 2, 1, none⟩ = some (.int .i64 (cmpI a0 b0))) := by
    show World.cell? _ _ = _
    rw [← hS]; simp
  go_region_held3 (fun w' => w'.cell? ⟨w.heap.size, 0, none⟩ = some (.int .i64 a0) ∧ w'.cell? ⟨w.heap.size, 2, none⟩ = some (.int .i64 a2) ∧ w'.cell? ⟨w.heap.size + 1, 0, none⟩ = some (.int .i64 b0) ∧ w'.cell? ⟨w.heap.size + 1, 2, none⟩ = some (.int .i64 b2)) (go_keep)
    (first | (go_at_call 74; refine (compare_any _ _ _).mono ?_; rintro e w' ⟨rfl, rfl⟩) | (go_at_call 73; refine (or_any _ _ _ (cmpI a2 b2) (cmpI a0 b0) ?_ ?_).mono ?_; exact F0.out; exact F1.out; rintro e w' ⟨rfl, rfl⟩))
  go_wp2
  go_ret
  refine ⟨ret_int HE.out.symm, ?_⟩
  obtain ⟨os, hos⟩ := HG.out
  subst hos
  exact ⟨1, _, by rw [Go.Sort.alloc_eq_grow, Go.Sort.grow_grow]; rfl⟩
end Go.Proofs.Ytphameoibnimmaa
