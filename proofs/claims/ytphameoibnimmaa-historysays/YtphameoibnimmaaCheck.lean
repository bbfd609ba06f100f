/- tree.Check: the first thing that keeps places from being a tree. -/
import Derived.Test.YtphameoibnimmaaMeets
namespace Go.Proofs.Ytphameoibnimmaa
open Go.ChangeShapes Go.WideShapes Go.ChangeAt Go.RowKit
open Orangery (Pl find isNodeB inRangeB meetsN scan ringAt check)

set_option maxHeartbeats 2000000 in
theorem check_any (w : World) (a : Option Addr) (c : Nat) (l : List Pl) (hl : l.length ≤ maxLen) (h : SlP w a l) :
    Calls Try.prog 14 #[.agg #[.slice a l.length c]] w
      fun e w' => e = .returned (.int .i64 (check l)) ∧ Below w.heap.size w w' := by
  have hl' : l.length ≤ 9223372036854775807 := hl
  go_enter Try.func14, Try.ntmps14
  go_wp2
  have hB := Go.Joins.below_alloc1 w (Obj.cells #[Value.slice a l.length c] 29)
  generalize hW : w.alloc (Obj.cells #[Value.slice a l.length c] 29) = W0 at hB
  have hS : W0.heap.size = w.heap.size + 1 := by subst hW; simp
  have hc : W0.cell? ⟨w.heap.size, 0, none⟩ = some (.slice a l.length c) := by subst hW; simp
  clear hW
  have hP := h.below hB
  clear h
  go_loopw [3, 11] (fun x i W => ∃ (k : Nat) (m : Int), k ≤ l.length ∧ x = .int .i64 m ∧ i = .int .i64 k ∧ scan m (l.drop k) = scan 0 l ∧ Below W0.heap.size W0 W) (fun _ i _ => l.length - (intOf i).toNat)
  case atStart => exact ⟨0, 0, Nat.zero_le _, rfl, rfl, rfl, Below.refl _ _⟩
  case round =>
    obtain ⟨k, m, hk, rfl, rfl, hf, hb⟩ := hrel
    by_cases hlt : k < l.length
    · obtain ⟨s1, s2, s3⟩ := Orangery.scan_step l k m hlt hf
      have H1 : Hid (inRangeB l[k] = false → scan 0 l = 3) := s1
      have H2 : Hid (inRangeB l[k] = true → l[k].1 ≤ m → scan 0 l = 6) := s2
      have H3 : Hid (inRangeB l[k] = true → ¬ l[k].1 ≤ m → scan l[k].1 (l.drop (k + 1)) = scan 0 l) := s3
      clear s1 s2 s3 hf
      rcases hP with hP | ⟨b, off, rfl, hbl, hp⟩
      · exact absurd hlt (by simp [hP])
      have g := hp k hlt
      rw [← hb.cell hbl, ← hb.cell hbl, ← hb.cell hbl] at g
      obtain ⟨g0, g1, g2⟩ := g
      generalize hq : l[k] = q at *
      obtain ⟨q0, q1, q2⟩ := q
      have HQ : Hid (l[k] = (q0, q1, q2)) := hq
      clear hq
      simp only at H1 H2 H3 g0 g1 g2
      go_wp2_with fail
      refine (inRange_any _ (q0, q1, q2)).mono ?_
      rintro e w1 ⟨rfl, hb1⟩
      have hz1 := hb1.size
      have hb2 : Below W0.heap.size W0 w1 := (hb.alloc hb.size _).trans (hb1.mono (by simp; exact Nat.le_succ_of_le hb.size))
      have x0 : w1.cell? ⟨wr.heap.size, 0, none⟩ = some (.int .i64 q0) := by rw [hb1.cell (by simp)]; simp
      clear hb1
      cases hr : inRangeB (q0, q1, q2)
      · have e := H1.out hr
        go_wp2
        go_ret
        exact ⟨ret_int (by rw [Orangery.check_of_scan _ (by rw [e]; decide), e]), hB.trans (hb2.mono (by omega))⟩
      · by_cases hle : q0 ≤ m
        · have e := H2.out hr hle
          have HE : Hid (scan 0 l = 6) := e
          clear e
          go_wp2
          go_ret
          exact ⟨ret_int (by rw [Orangery.check_of_scan _ (by rw [HE.out]; decide), HE.out]), hB.trans (hb2.mono (by omega))⟩
        · have e := H3.out hr (by omega)
          have HE : Hid (scan q0 (l.drop (k + 1)) = scan 0 l) := e
          clear e
          go_wp2
          go_roundw
          case rel => exact ⟨k + 1, q0, hlt, rfl, by go_num, HE.out, hb2⟩
          case measure => simp [intOf]; omega
    · have hk' : l.drop k = [] := by simp; omega
      rw [hk'] at hf
      have HF : Hid (scan 0 l = 0) := hf.symm
      clear hf hk'
      have hcr := hc
      rw [← hb.cell (by show w.heap.size < _; omega)] at hcr
      have hP2 := hP.below hb
      have hB2 : Below w.heap.size w wr := hB.trans (hb.mono (by omega))
      have hS2 : w.heap.size < wr.heap.size := by have := hb.size; omega
      clear hP hB hc
      rename World => W1
      go_wp2
      go_loopw [28] (fun i W => ∃ k : Nat, k ≤ l.length ∧ i = .int .i64 k ∧ (∀ j, (hj : j < l.length) → j < k → ringAt l l[j] = false) ∧ Below W1.heap.size W1 W) (fun i _ => l.length - (intOf i).toNat)
      case atStart => exact ⟨0, Nat.zero_le _, rfl, fun j _ hj => absurd hj (Nat.not_lt_zero _), Below.refl _ _⟩
      case round =>
        obtain ⟨k2, hk2, rfl, hno, hb⟩ := hrel
        have HNO : Hid (∀ j, (hj : j < l.length) → j < k2 → ringAt l l[j] = false) := hno
        clear hno
        have hcr2 := hcr
        rw [← hb.cell (by exact hS2)] at hcr2
        have hS3 : w.heap.size < wr.heap.size := Nat.lt_of_lt_of_le hS2 hb.size
        by_cases hlt2 : k2 < l.length
        · have hP3 := hP2.below hb
          rcases hP2 with hP2 | ⟨b, off, rfl, hbl, hp⟩
          · exact absurd hlt2 (by simp [hP2])
          have g := hp k2 hlt2
          rw [← hb.cell hbl, ← hb.cell hbl, ← hb.cell hbl] at g
          obtain ⟨g0, g1, g2⟩ := g
          have HR : Hid (ringAt l l[k2] = meetsN l (fun m => m == l[k2].1) l.length l[k2].1) := rfl
          generalize hq : l[k2] = q at *
          obtain ⟨q0, q1, q2⟩ := q
          have HQ : Hid (l[k2] = (q0, q1, q2)) := hq
          clear hq
          simp only at HR g0 g1 g2
          go_wp2_with fail
          have hb1 := Go.Joins.below_alloc1 wr (Obj.cells #[Value.int IntKind.i64 q0, Value.int IntKind.i64 q1, Value.int IntKind.i64 q2] 36)
          have x0 : (wr.alloc (Obj.cells #[Value.int IntKind.i64 q0, Value.int IntKind.i64 q1, Value.int IntKind.i64 q2] 36)).cell? ⟨wr.heap.size, 0, none⟩ = some (.int .i64 q0) := by simp
          have x1 : wr.heap.size < (wr.alloc (Obj.cells #[Value.int IntKind.i64 q0, Value.int IntKind.i64 q1, Value.int IntKind.i64 q2] 36)).heap.size := by simp
          refine (meets_any _ _ c l q0 51 (.pointer (some ⟨wr.heap.size, 0, none⟩)) (fun m => m == q0) hl (hP3.below hb1) (Go.Proofs.enters_of Try.func51 (by kernel_rfl) rfl) ?_).mono ?_
          · intro W m hbW
            exact check1_any W m q0 wr.heap.size (by rw [hbW.cell x1, x0])
          rintro e w1 ⟨rfl, hbm⟩
          have hb4 : Below W1.heap.size W1 w1 := (hb.trans (hb1.mono hb.size)).trans (hbm.mono (by simp; exact Nat.le_succ_of_le hb.size))
          rw [← HR.out]
          clear hb1 x0 x1 hbm g0 g1 g2 hcr hcr2
          cases hr : ringAt l (q0, q1, q2)
          · go_wp2
            go_roundw
            case rel =>
              refine ⟨k2 + 1, hlt2, by go_num, fun j hj hjk => ?_, hb4⟩
              by_cases hjk' : j < k2
              · exact HNO.out j hj hjk'
              · have : j = k2 := by omega
                subst this
                rw [HQ.out]
                exact hr
            case measure => simp [intOf]; omega
          · go_wp2
            go_ret
            exact ⟨ret_int (by rw [Orangery.check_of_ring l HF.out k2 hlt2 (by rw [HQ.out]; exact hr)]), hB2.trans (hb4.mono (by omega))⟩
        · go_wp2
          go_ret
          exact ⟨ret_int (by rw [Orangery.check_of_none l HF.out (fun i hi => HNO.out i hi (by omega))]), hB2.trans (hb.mono (by omega))⟩
end Go.Proofs.Ytphameoibnimmaa
