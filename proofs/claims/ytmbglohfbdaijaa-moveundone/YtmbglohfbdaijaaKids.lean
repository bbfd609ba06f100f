/- tree.Kids. -/
import Derived.Test.YtmbglohfbdaijaaSorts
import Derived.Test.YtmbglohfbdaijaaWithout
namespace Go.Proofs.Ytmbglohfbdaijaa
open Go.ChangeShapes Go.WideShapes Go.ChangeAt Go.RowKit
open Orangery (Pl byN leP ltP check isNodeB kidsE)

def parentIs (n : Int) (p : Pl) : Bool := p.2.1 == n

theorem kids1_any (w : World) (p : Pl) (n : Int) (b : Nat) (hb : b < w.heap.size) (hc : w.cell? ⟨b, 0, none⟩ = some (.int .i64 n)) :
    Calls Try.prog 33 #[plV p, .pointer (some ⟨b, 0, none⟩)] w fun e w' => e = .returned (.bool (!parentIs n p)) ∧ Below w.heap.size w w' := by
  go_enter Try.func33, Try.ntmps33
  go_wp2
  go_ret
  exact ⟨rfl, Go.Joins.below_alloc1 w _⟩

set_option maxHeartbeats 1000000 in
theorem kids_any (w : World) (a : Option Addr) (c : Nat) (l : List Pl) (n : Int) (hl : l.length ≤ maxLen) (h : SlP w a l) :
    Calls Try.prog 10 #[.agg #[.slice a l.length c], .int .i64 n] w
      fun e w' => (∃ v l', e = .returned (.tuple #[v, .int .i64 (kidsE l n)]) ∧ OwnS w' w.heap.size v l' ∧ (kidsE l n ≠ 0 → l' = []) ∧
        (kidsE l n = 0 → l'.Perm (l.filter (parentIs n)) ∧ l'.Pairwise leP)) ∧ Below w.heap.size w w' := by
  go_enter Try.func10, Try.ntmps10
  go_wp2_with fail
  have hB := Go.Joins.below_alloc2 w (Obj.cells #[Value.slice a l.length c] 29) (Obj.cells #[Value.int IntKind.i64 n] 3)
  generalize hW : (w.alloc (Obj.cells #[Value.slice a l.length c] 29)).alloc (Obj.cells #[Value.int IntKind.i64 n] 3) = W0 at hB
  have hS : W0.heap.size = w.heap.size + 2 := by subst hW; simp
  have hc : W0.cell? ⟨w.heap.size, 0, none⟩ = some (.slice a l.length c) := by subst hW; rw [(Go.Joins.below_alloc1 _ _).cell (by simp)]; simp
  have ht : W0.cell? ⟨w.heap.size + 1, 0, none⟩ = some (.int .i64 n) := by subst hW; simp
  clear hW
  have hP := h.below hB
  clear h
  refine (check_any W0 a c l hl hP).mono ?_
  rintro e w1 ⟨rfl, hb⟩
  have hb2 : Below w.heap.size w w1 := hB.trans (hb.mono (by omega))
  have hc1 := hc
  rw [← hb.cell (by show w.heap.size < _; omega)] at hc1
  have ht1 := ht
  rw [← hb.cell (by show w.heap.size + 1 < _; omega)] at ht1
  have hP1 := hP.below hb
  have hS1 : w.heap.size + 1 < w1.heap.size := by have := hb.size; omega
  clear hc ht hP hB hb
  by_cases hz : check l = 0
  · have hlen := Orangery.check_len l hz
    by_cases h1 : isNodeB n = true
    · have e1 : kidsE l n = 0 := by simp [kidsE, hz, h1]
      have HE : Hid (kidsE l n = 0) := e1
      rw [hz]
      clear hz e1
      go_wp2_with fail
      refine (isNode_any _ n).mono ?_
      rintro e w1 ⟨rfl, rfl⟩
      go_wp2_with fail
      refine (clone_any w1 a c l (by omega) hP1).mono ?_
      rintro e w2 ⟨v2, rfl, hO2, hbc⟩
      have ht2 : ∀ W, Below w1.heap.size w1 W → W.cell? ⟨w.heap.size + 1, 0, none⟩ = some (.int .i64 n) := fun W hW => by rw [hW.cell hS1, ht1]
      have HT : Hid (∀ W, Below w1.heap.size w1 W → W.cell? ⟨w.heap.size + 1, 0, none⟩ = some (.int .i64 n)) := ht2
      clear ht2
      go_wp2_with fail
      refine (delete_any w2 w1.heap.size v2 l 33 (.pointer (some ⟨w.heap.size + 1, 0, none⟩)) (fun p => !parentIs n p) (by omega) hO2 hbc.size (Go.Proofs.enters_of Try.func33 (by kernel_rfl) rfl) ?_).mono ?_
      · intro W p hbW
        exact kids1_any W p n (w.heap.size + 1) (Nat.lt_of_lt_of_le hS1 (Nat.le_trans hbc.size hbW.size)) (HT.out W (hbc.trans hbW))
      rintro e w3 ⟨v3, rfl, hO3, hbd⟩
      have e3 : (l.filter fun p => !(!parentIs n p)) = l.filter (parentIs n) := by simp
      rw [e3] at hO3
      have hlf : (l.filter (parentIs n)).length ≤ l.length := List.length_filter_le _ _
      have hb3 : Below w1.heap.size w1 w3 := hbc.trans hbd
      go_wp2_with fail
      refine (sort_any w3 w1.heap.size v3 (l.filter (parentIs n)) (by omega) hb3.size hO3).mono ?_
      rintro e w4 ⟨rfl, l', hp, hs, hO4, hbs⟩
      have hb4 : Below w.heap.size w w4 := hb2.trans ((hb3.trans hbs).mono hb2.size)
      have hO5 := hO4.mono hb2.size
      clear hO4 hO3 hO2 hbs hb3 hbd hbc
      go_wp2
      go_ret2
      exact ⟨⟨v3, l', by rw [HE.out]; rfl, hO5, fun hh => absurd HE.out hh, fun _ => ⟨hp, hs⟩⟩, hb4⟩
    · have h1' : isNodeB n = false := by simpa using h1
      have e1 : kidsE l n = 5 := by simp [kidsE, hz, h1']
      have HE : Hid (kidsE l n = 5) := e1
      rw [hz]
      clear hz e1 h1
      go_wp2_with fail
      refine (isNode_any _ n).mono ?_
      rintro e w1 ⟨rfl, rfl⟩
      go_wp2
      go_ret2
      exact ⟨⟨_, [], by rw [HE.out]; rfl, Or.inl ⟨rfl, rfl⟩, fun _ => rfl, fun hh => absurd hh (by rw [HE.out]; decide)⟩, hb2⟩
  · have e1 : kidsE l n = check l := by simp [kidsE, hz]
    have HE : Hid (kidsE l n = check l) := e1
    have HZ : Hid (check l ≠ 0) := hz
    have hz' : (check l != 0) = true := by simpa using hz
    clear e1 hz
    go_wp2
    go_ret2
    exact ⟨⟨_, [], by rw [HE.out]; rfl, Or.inl ⟨rfl, rfl⟩, fun _ => rfl, fun hh => absurd hh (by rw [HE.out]; exact HZ.out)⟩, hb2⟩
end Go.Proofs.Ytmbglohfbdaijaa
