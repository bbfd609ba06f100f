/- tree.Under. -/
import Derived.Test.YtphameoibnimmaaCheck
import Derived.Test.YtphameoibnimmaaPlainB
namespace Go.Proofs.Ytphameoibnimmaa
open Go.ChangeShapes Go.WideShapes Go.ChangeAt Go.RowKit
open Orangery (Pl find isNodeB inRangeB meetsN scan ringAt check underE underB)

set_option maxHeartbeats 1000000 in
theorem under_any (w : World) (a : Option Addr) (c : Nat) (l : List Pl) (n t : Int) (hl : l.length ≤ maxLen) (h : SlP w a l) :
    Calls Try.prog 10 #[.agg #[.slice a l.length c], .int .i64 n, .int .i64 t] w
      fun e w' => e = .returned (.tuple #[.bool (underB l n t), .int .i64 (underE l n t)]) ∧ Below w.heap.size w w' := by
  go_enter Try.func10, Try.ntmps10
  go_wp2_with fail
  have hB := Go.Joins.below_alloc2 w (Obj.cells #[Value.slice a l.length c] 29) (Obj.cells #[Value.int IntKind.i64 t] 3)
  generalize hW : (w.alloc (Obj.cells #[Value.slice a l.length c] 29)).alloc (Obj.cells #[Value.int IntKind.i64 t] 3) = W0 at hB
  have hS : W0.heap.size = w.heap.size + 2 := by subst hW; simp
  have hc : W0.cell? ⟨w.heap.size, 0, none⟩ = some (.slice a l.length c) := by subst hW; rw [(Go.Joins.below_alloc1 _ _).cell (by simp)]; simp
  have ht : W0.cell? ⟨w.heap.size + 1, 0, none⟩ = some (.int .i64 t) := by subst hW; simp
  clear hW
  have hP := h.below hB
  clear h
  refine (check_any W0 a c l hl hP).mono ?_
  rintro e w1 ⟨rfl, hb⟩
  have hb2 : Below w.heap.size w w1 := hB.trans (hb.mono (by omega))
  have hc1 := hc
  rw [← hb.cell (by show w.heap.size < _; omega)] at hc1
  have ht1 := ht
  rw [← hb.cell (by show w.heap.size + 1 < _; omega)] at ht1
  have hP1 := hP.below hb
  have hS1 : w.heap.size + 1 < w1.heap.size := by have := hb.size; omega
  clear hc ht hP hB hb
  by_cases hz : check l = 0
  · by_cases h1 : isNodeB n = true
    · by_cases h2 : isNodeB t = true
      · obtain ⟨e1, e2⟩ := Orangery.underE_ok l n t hz h1 h2
        have HE : Hid (underE l n t = 0) := e1
        have HB : Hid (underB l n t = ((n == t) || meetsN l (fun m => m == t) l.length n)) := e2
        clear e1 e2
        rw [hz]
        clear hz
        go_wp2_with fail
        refine (isNode_any _ n).mono ?_
        rintro e w2 ⟨rfl, rfl⟩
        go_wp2_with fail
        refine (isNode_any _ t).mono ?_
        rintro e w2 ⟨rfl, rfl⟩
        by_cases hnt : n = t
        · have hnt' : (n == t) = true := by simpa using hnt
          have HN : Hid ((n == t) = true) := hnt'
          clear hnt
          go_wp2
          go_ret2
          exact ⟨by rw [HE.out, HB.out, HN.out]; rfl, hb2⟩
        · have hnt' : (n == t) = false := by simpa using hnt
          have HN : Hid ((n == t) = false) := hnt'
          clear hnt
          go_wp2_with fail
          refine (meets_any _ _ c l n 40 (.pointer (some ⟨w.heap.size + 1, 0, none⟩)) (fun m => m == t) hl hP1 (Go.Proofs.enters_of Try.func40 (by kernel_rfl) rfl) ?_).mono ?_
          · intro W m hbW
            exact under1_any W m t (w.heap.size + 1) (by rw [hbW.cell hS1, ht1])
          rintro e w2 ⟨rfl, hbm⟩
          have hb3 : Below w.heap.size w w2 := hb2.trans (hbm.mono hb2.size)
          clear hbm
          go_wp2
          go_ret2
          exact ⟨by rw [HE.out, HB.out, HN.out]; rfl, hb3⟩
      · obtain ⟨e1, e2⟩ := Orangery.underE_who l n t hz (fun hh => h2 hh.2)
        have HE : Hid (underE l n t = 5 ∧ underB l n t = false) := ⟨e1, e2⟩
        have h2' : isNodeB t = false := by simpa using h2
        clear e1 e2 h2
        rw [hz]
        clear hz
        go_wp2_with fail
        refine (isNode_any _ n).mono ?_
        rintro e w2 ⟨rfl, rfl⟩
        go_wp2_with fail
        refine (isNode_any _ t).mono ?_
        rintro e w2 ⟨rfl, rfl⟩
        go_wp2
        go_ret2
        exact ⟨by rw [HE.out.1, HE.out.2]; rfl, hb2⟩
    · obtain ⟨e1, e2⟩ := Orangery.underE_who l n t hz (fun hh => h1 hh.1)
      have HE : Hid (underE l n t = 5 ∧ underB l n t = false) := ⟨e1, e2⟩
      have h1' : isNodeB n = false := by simpa using h1
      clear e1 e2 h1
      rw [hz]
      clear hz
      go_wp2_with fail
      refine (isNode_any _ n).mono ?_
      rintro e w2 ⟨rfl, rfl⟩
      go_wp2
      go_ret2
      exact ⟨by rw [HE.out.1, HE.out.2]; rfl, hb2⟩
  · obtain ⟨e1, e2⟩ := Orangery.underE_bad l n t hz
    have HE : Hid (underE l n t = check l ∧ underB l n t = false) := ⟨e1, e2⟩
    have hz' : (check l != 0) = true := by simpa using hz
    clear e1 e2 hz
    go_wp2
    go_ret2
    exact ⟨by rw [HE.out.1, HE.out.2]; rfl, hb2⟩
end Go.Proofs.Ytphameoibnimmaa
