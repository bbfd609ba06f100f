/- orangeryref.CheckTree. -/
import Derived.Test.YtmbglohfbdaijaaChain
import Derived.Deep.RegionHeld3
namespace Go.Proofs.Ytmbglohfbdaijaa
open Go.ChangeShapes Go.WideShapes Go.ChangeAt Go.RowKit
open Orangery (Pl find isNodeB inRangeB meetsN scan ringAt check idxF chain chainN hasB outOk rRing checkR)

set_option maxHeartbeats 2000000 in
theorem checkTree_any (w : World) (a : Option Addr) (c : Nat) (l : List Pl) (hl : l.length ≤ maxLen) (h : SlP w a l) :
    Calls Try.prog 11 #[.agg #[.slice a l.length c]] w
      fun e w' => e = .returned (.int .i64 (checkR l)) ∧ Below w.heap.size w w' := by
  have hl' : l.length ≤ 9223372036854775807 := hl
  go_enter Try.func11, Try.ntmps11
  go_wp2
  have hB := Go.Joins.below_alloc1 w (Obj.cells #[Value.slice a l.length c] 29)
  generalize hW : w.alloc (Obj.cells #[Value.slice a l.length c] 29) = W0 at hB
  have hS : W0.heap.size = w.heap.size + 1 := by subst hW; simp
  have hc : W0.cell? ⟨w.heap.size, 0, none⟩ = some (.slice a l.length c) := by subst hW; simp
  clear hW
  have hP := h.below hB
  clear h
  go_loopw [3, 12] (fun x i W => ∃ (k : Nat) (m : Int), k ≤ l.length ∧ x = .int .i64 m ∧ i = .int .i64 k ∧ scan m (l.drop k) = scan 0 l ∧ Below W0.heap.size W0 W) (fun _ i _ => l.length - (intOf i).toNat)
  case atStart => exact ⟨0, 0, Nat.zero_le _, rfl, rfl, rfl, Below.refl _ _⟩
  case round =>
    obtain ⟨k, m, hk, rfl, rfl, hf, hb⟩ := hrel
    by_cases hlt : k < l.length
    · obtain ⟨s1, s2, s3⟩ := Orangery.scan_step l k m hlt hf
      have H1 : Hid (inRangeB l[k] = false → scan 0 l = 3) := s1
      have H2 : Hid (inRangeB l[k] = true → l[k].1 ≤ m → scan 0 l = 6) := s2
      have H3 : Hid (inRangeB l[k] = true → ¬ l[k].1 ≤ m → scan l[k].1 (l.drop (k + 1)) = scan 0 l) := s3
      clear s1 s2 s3 hf
      rcases hP with hP | ⟨b, off, rfl, hbl, hp⟩
      · exact absurd hlt (by simp [hP])
      have g := hp k hlt
      rw [← hb.cell hbl, ← hb.cell hbl, ← hb.cell hbl] at g
      obtain ⟨g0, g1, g2⟩ := g
      generalize hq : l[k] = q at *
      obtain ⟨q0, q1, q2⟩ := q
      have HQ : Hid (l[k] = (q0, q1, q2)) := hq
      clear hq
      simp only at H1 H2 H3 g0 g1 g2
      go_wp2_with fail
      refine (checkPlace_any _ (q0, q1, q2)).mono ?_
      rintro e w1 ⟨rfl, hb1⟩
      have hz1 := hb1.size
      have hb2 : Below W0.heap.size W0 w1 := (hb.alloc hb.size _).trans (hb1.mono (by simp; exact Nat.le_succ_of_le hb.size))
      have x0 : w1.cell? ⟨wr.heap.size, 0, none⟩ = some (.int .i64 q0) := by rw [hb1.cell (by simp)]; simp
      clear hb1
      cases hr : inRangeB (q0, q1, q2)
      · have e := H1.out hr
        have e2 : cpE (q0, q1, q2) = 3 := by simp [cpE, hr]
        rw [e2]
        clear e2
        go_wp2
        go_ret
        exact ⟨ret_int (by rw [Orangery.checkR_of_scan _ (by rw [e]; decide), e]), hB.trans (hb2.mono (by omega))⟩
      · have e2 : cpE (q0, q1, q2) = 0 := by simp [cpE, hr]
        rw [e2]
        clear e2
        by_cases hle : q0 ≤ m
        · have e := H2.out hr hle
          have HE : Hid (scan 0 l = 6) := e
          clear e
          go_wp2
          go_ret
          exact ⟨ret_int (by rw [Orangery.checkR_of_scan _ (by rw [HE.out]; decide), HE.out]), hB.trans (hb2.mono (by omega))⟩
        · have e := H3.out hr (by omega)
          have HE : Hid (scan q0 (l.drop (k + 1)) = scan 0 l) := e
          clear e
          go_wp2
          go_roundw
          case rel => exact ⟨k + 1, q0, hlt, rfl, by go_num, HE.out, hb2⟩
          case measure => simp [intOf]; omega
    · have hk' : l.drop k = [] := by simp; omega
      rw [hk'] at hf
      have HF : Hid (scan 0 l = 0) := hf.symm
      clear hf hk'
      have hcr := hc
      rw [← hb.cell (by show w.heap.size < _; omega)] at hcr
      have hP2 := hP.below hb
      have hB2 : Below w.heap.size w wr := hB.trans (hb.mono (by omega))
      have hS2 : w.heap.size < wr.heap.size := by have := hb.size; omega
      clear hP hB hc
      rename World => W1
      go_wp2
      go_loopw [31] (fun i W => ∃ k : Nat, k ≤ l.length ∧ i = .int .i64 k ∧ (∀ j, (hj : j < l.length) → j < k → rRing l l[j] = false) ∧ Below W1.heap.size W1 W) (fun i _ => l.length - (intOf i).toNat)
      case atStart => exact ⟨0, Nat.zero_le _, rfl, fun j _ hj => absurd hj (Nat.not_lt_zero _), Below.refl _ _⟩
      case round =>
        obtain ⟨k2, hk2, rfl, hno, hb⟩ := hrel
        have HNO : Hid (∀ j, (hj : j < l.length) → j < k2 → rRing l l[j] = false) := hno
        clear hno
        have hcr2 := hcr
        rw [← hb.cell (by exact hS2)] at hcr2
        have hS3 : w.heap.size < wr.heap.size := Nat.lt_of_lt_of_le hS2 hb.size
        by_cases hlt2 : k2 < l.length
        · have hP3 := hP2.below hb
          have hrg : ∀ p ∈ l, 0 ≤ p.2.1 ∧ p.2.1 ≤ 16 := fun p hp => by
            have := (Orangery.inRangeB_iff p).1 (Orangery.scan_range l 0 HF.out p hp).1
            omega
          have HRG : Hid (∀ p ∈ l, 0 ≤ p.2.1 ∧ p.2.1 ≤ 16) := hrg
          have hq1 := hrg l[k2] (List.getElem_mem hlt2)
          clear hrg
          rcases hP2 with hP2 | ⟨b, off, rfl, hbl, hp⟩
          · exact absurd hlt2 (by simp [hP2])
          have g := hp k2 hlt2
          rw [← hb.cell hbl, ← hb.cell hbl, ← hb.cell hbl] at g
          obtain ⟨g0, g1, g2⟩ := g
          have HR : Hid (rRing l l[k2] = hasB l[k2].1 (chain l l[k2].2.1)) := rfl
          generalize hq : l[k2] = q at *
          obtain ⟨q0, q1, q2⟩ := q
          have HQ : Hid (l[k2] = (q0, q1, q2)) := hq
          clear hq
          simp only at HR g0 g1 g2 hq1
          have hb1 := Go.Joins.below_alloc1 wr (Obj.cells #[Value.int IntKind.i64 q0, Value.int IntKind.i64 q1, Value.int IntKind.i64 q2] 36)
          go_wp2_with fail
          have y0 : (wr.alloc (Obj.cells #[Value.int IntKind.i64 q0, Value.int IntKind.i64 q1, Value.int IntKind.i64 q2] 36)).cell? ⟨wr.heap.size, 0, none⟩ = some (.int .i64 q0) := by simp
          have y1 : (wr.alloc (Obj.cells #[Value.int IntKind.i64 q0, Value.int IntKind.i64 q1, Value.int IntKind.i64 q2] 36)).cell? ⟨wr.heap.size, 1, none⟩ = some (.int .i64 q1) := by simp
          have y2 : (wr.alloc (Obj.cells #[Value.int IntKind.i64 q0, Value.int IntKind.i64 q1, Value.int IntKind.i64 q2] 36)).cell? ⟨w.heap.size, 0, none⟩ = some (.slice (some ⟨b, off, none⟩) l.length c) := by rw [hb1.cell hS3, hcr2]
          have hb5 : Below W1.heap.size W1 (wr.alloc (Obj.cells #[Value.int IntKind.i64 q0, Value.int IntKind.i64 q1, Value.int IntKind.i64 q2] 36)) := hb.trans (hb1.mono hb.size)
          have hP4 := hP3.below hb1
          have hw1 : wr.heap.size < (wr.alloc (Obj.cells #[Value.int IntKind.i64 q0, Value.int IntKind.i64 q1, Value.int IntKind.i64 q2] 36)).heap.size := by simp
          generalize (wr.alloc (Obj.cells #[Value.int IntKind.i64 q0, Value.int IntKind.i64 q1, Value.int IntKind.i64 q2] 36)) = W2 at y0 y1 y2 hb5 hP4 hw1 ⊢
          have hw0 : w.heap.size < W2.heap.size := Nat.lt_trans hS3 hw1
          clear hb1 hb hcr hcr2 hP3 g0 g1 g2
          go_region_held3 (fun w' => w'.cell? ⟨w.heap.size, 0, none⟩ = some (.slice (some ⟨b, off, none⟩) l.length c) ∧ w'.cell? ⟨wr.heap.size, 0, none⟩ = some (.int .i64 q0) ∧ w'.cell? ⟨wr.heap.size, 1, none⟩ = some (.int .i64 q1)) (go_keep)
            (first | (go_at_call 38; refine (chain_any _ _ c l q1 hl ?_ HRG.out hq1.1 hq1.2).mono ?_; exact hP4; rintro e w1 ⟨v, rfl, hown, hok, hbc⟩; have z0 := (hbc.cell (p := ⟨w.heap.size, 0, none⟩) hw0).trans y2; have z1 := (hbc.cell (p := ⟨wr.heap.size, 0, none⟩) hw1).trans y0; have z2 := (hbc.cell (p := ⟨wr.heap.size, 1, none⟩) hw1).trans y1; obtain ⟨g, cap, rfl, hgl, hints⟩ := own_ints_pos hown hok.2.2) | (go_at_call 37; refine (contains_ints _ g 0 cap (chain l q1).length q0 (chain l q1) rfl (by have := Orangery.outOk_len hok; unfold maxLen; omega) ?_).mono ?_; exact hints; rintro e w2 ⟨rfl, rfl⟩))
          have hb4 : Below W1.heap.size W1 _ := (hb5.drew).trans (hbc.mono hb5.size)
          rw [← HR.out]
          clear hbc hints hown hok z0 z1 z2 y0 y1 y2 hP4
          cases hr : rRing l (q0, q1, q2)
          · go_wp2
            go_roundw
            case rel =>
              refine ⟨k2 + 1, hlt2, by go_num, fun j hj hjk => ?_, hb4⟩
              by_cases hjk' : j < k2
              · exact HNO.out j hj hjk'
              · have : j = k2 := by omega
                subst this
                rw [HQ.out]
                exact hr
            case measure => simp [intOf]; omega
          · go_wp2
            go_ret
            exact ⟨ret_int (by rw [Orangery.checkR_of_ring l HF.out k2 hlt2 (by rw [HQ.out]; exact hr)]), hB2.trans (hb4.mono (by omega))⟩
        · go_wp2
          go_ret
          exact ⟨ret_int (by rw [Orangery.checkR_of_none l HF.out (fun i hi => HNO.out i hi (by omega))]), hB2.trans (hb.mono (by omega))⟩
end Go.Proofs.Ytmbglohfbdaijaa
