/- 4 texts of the proof: delta.checkHere, delta.checkChange, delta.Check. delta.checkChange, delta.Check. slices.Grow of nothing, slices.Concat at places. slices.DeleteFunc at places, on a slice of the call's own. -/
import Derived.Deep.DeepCutAuto
import Derived.Deep.RegionHeld3
import Derived.Lib.AppendZerosOnto
import Derived.Laws.AppendOwnNone
import Derived.Shelf.SlSortFuncK.RowK2
import Derived.Test.YtkjgoikcibgonacGreatP05
import Derived.Test.YtkjgoikcibgonacGreatP03
import Derived.Test.YtkjgoikcibgonacGreatP01
import Derived.Test.YtkjgoikcibgonacGreatP02
/- delta.checkHere, delta.checkChange, delta.Check. -/
namespace Go.Proofs.YtkjgoikcibgonacGreat
open Go.ChangeShapes Go.WideShapes Go.ChangeAt Go.RowKit
open Orangery (Pl hasB inRangeB goneE hereE halfE deltaE orI)

set_option maxHeartbeats 4000000 in
set_option maxRecDepth 100000 in
theorem checkHere_any (w : World) (aG aH : Option Addr) (cG cH : Nat) (G : List Int) (H : List Pl) (hG : G.length ≤ maxLen) (hH : H.length ≤ maxLen) (h1 : SlI w aG G) (h2 : SlP w aH H) :
    Calls Tryz.prog 58 #[.agg #[.slice aG G.length cG, .slice aH H.length cH]] w fun e w' => e = .returned (.int .i64 (hereE G 0 H)) ∧ Below w.heap.size w w' := by
  have hl' : H.length ≤ 9223372036854775807 := hH
  have HM : Hid (G.length ≤ maxLen ∧ H.length ≤ maxLen) := ⟨hG, hH⟩
  obtain ⟨W0, hW, hX, hB, hS⟩ := laid1 w [Value.slice aG G.length cG, Value.slice aH H.length cH] 45
  have HX : Hid (Blk W0 w.heap.size [Value.slice aG G.length cG, Value.slice aH H.length cH]) := hX
  have HG : Hid (SlI W0 aG G) := h1.below hB
  have HH : Hid (SlP W0 aH H) := h2.below hB
  have HB : Hid (Below w.heap.size w W0) := hB
  have x1 := hX.at 1 rfl
  clear hX h1 h2 hB hS hG hH
  go_enter Tryz.func58, Tryz.ntmps58
  go_wp2
  clear hW x1
  go_loopw [8] (fun i W => ∃ (k : Nat) (m : Int), k ≤ H.length ∧ i = .int .i64 k ∧ hereE G m (H.drop k) = hereE G 0 H ∧ (k = 0 → m = 0) ∧ (∀ j, (hj : j < H.length) → k = j + 1 → m = H[j].1) ∧ Below W0.heap.size W0 W) (fun i _ => H.length - (intOf i).toNat)
  case atStart => exact ⟨0, 0, Nat.zero_le _, rfl, rfl, fun _ => rfl, fun j _ e => by omega, Below.refl _ _⟩
  case round =>
    obtain ⟨k, m, hk, rfl, hf, hm0, hm1, hb⟩ := hrel
    by_cases hlt : k < H.length
    · obtain ⟨s1, s2, s3⟩ := Orangery.hereE_step G H k _ hlt hf
      have HS1 : Hid (inRangeB H[k] = false → hereE G 0 H = 3) := s1
      have HS2 : Hid (inRangeB H[k] = true → H[k].1 ≤ m ∨ hasB H[k].1 G = true → hereE G 0 H = 6) := s2
      have HS3 : Hid (inRangeB H[k] = true → ¬ H[k].1 ≤ m → hasB H[k].1 G = false → hereE G H[k].1 (H.drop (k + 1)) = hereE G 0 H) := s3
      have HL : Hid (∀ j, (hj : j < H.length) → k = j → H[k].1 = H[j].1) := fun j hj e => by subst e; rfl
      have HM0 : Hid (k = 0 → m = 0) := hm0
      have HM1 : Hid (∀ j, (hj : j < H.length) → k = j + 1 → m = H[j].1) := hm1
      clear s1 s2 s3 hf hm0 hm1
      have hP := HH.out.below hb
      rcases hP with hP | ⟨b, off, rfl, hbl, hp⟩
      · exact absurd hlt (by simp [hP])
      obtain ⟨g0, g1, g2⟩ := hp k hlt
      have HPP : Hid (b < wr.heap.size ∧ PlsAt wr b off H) := ⟨hbl, hp⟩
      clear hp
      generalize hq : H[k] = q at *
      obtain ⟨q0, q1, q2⟩ := q
      clear hq
      dsimp only at g0 g1 g2 HS2 HS3 HL
      obtain ⟨W1, hW1, hN, hB1, _⟩ := laid1 wr [Value.int IntKind.i64 q0, Value.int IntKind.i64 q1, Value.int IntKind.i64 q2] 55
      have HB1 : Hid (Below W0.heap.size W0 W1) := hb.trans (hB1.mono hb.size)
      have HB1' : Hid (Below wr.heap.size wr W1) := hB1
      have n0 := hN.at 0 rfl
      have n1 := hN.at 1 rfl
      have n2 := hN.at 2 rfl
      have HN : Hid (Blk W1 wr.heap.size [Value.int IntKind.i64 q0, Value.int IntKind.i64 q1, Value.int IntKind.i64 q2]) := hN
      clear hN hB1 hb hbl
      go_wp2_with fail
      clear hW1 n0 n1 n2 g0 g1 g2
      refine (inRangeD_any W1 (q0, q1, q2)).mono ?_
      rintro e w2 ⟨rfl, hb2⟩
      have HB2 : Hid (Below W0.heap.size W0 w2) := HB1.out.trans (hb2.mono HB1.out.size)
      have HBr : Hid (Below wr.heap.size wr w2) := HB1'.out.trans (hb2.mono HB1'.out.size)
      have hN2 := HN.out.keep hb2
      have hX2 := HX.out.keep HB2.out
      have HG2 : Hid (SlI w2.drew aG G) := HG.out.below (HB2.out.trans ((Below.refl _ w2).drew.mono HB2.out.size))
      have n0 := hN2.at 0 rfl
      have y0 := hX2.at 0 rfl
      have y1 := hX2.at 1 rfl
      have HPP2 : Hid (PlsAt w2 b off H) := by
        intro i hi
        obtain ⟨u0, u1, u2⟩ := HPP.out.2 i hi
        exact ⟨by rw [HBr.out.cell (by exact HPP.out.1)]; exact u0, by rw [HBr.out.cell (by exact HPP.out.1)]; exact u1, by rw [HBr.out.cell (by exact HPP.out.1)]; exact u2⟩
      clear HN hb2 hN2 hX2 HPP HB1 HB1'
      cases hr : inRangeB (q0, q1, q2)
      · have HF : Hid (hereE G 0 H = 3) := HS1.out hr
        clear HS1 HS2 HS3 n0 y0 y1
        go_wp2
        go_ret
        exact ⟨ret_int (by rw [HF.out]), HB.out.trans (HB2.out.mono HB.out.size)⟩
      · cases k with
        | zero =>
          have HZ : Hid (m = 0) := HM0.out rfl
          have hq0 : Hid (¬ q0 ≤ 0) := by
            show ¬ q0 ≤ 0
            have := (Orangery.inRangeB_iff (q0, q1, q2)).1 hr
            simp only at this
            omega
          have HF6 : Hid (hasB q0 G = true → hereE G 0 H = 6) := fun h => HS2.out hr (Or.inr h)
          have HF0 : Hid (hasB q0 G = false → hereE G q0 (H.drop (0 + 1)) = hereE G 0 H) := fun h => HS3.out hr (by have := hq0.out; rw [HZ.out]; omega) h
          clear HS1 HS2 HS3 HM0 HM1 HZ hq0
          go_upto_region 6 with fail
          refine wp_region_held_drew (S := fun w' => w' = w2.drew) (by kernel_rfl) rfl (fun hHeld => ?_)
          refine take_yes 0 16 (v := ?_) rfl rfl (by kernel_rfl) (by kernel_rfl) (by kernel_rfl) (fun _ _ _ h => h) (by rfl) ?_ hHeld ?_
          rotate_left 1
          · (intro w hSw; subst hSw; go_simp; try with_reducible rfl)
          simp only [Act.put, List.setIfInBounds_toArray, List.set_cons_succ, List.set_cons_zero]
          refine take_yes 1 17 (v := ?_) rfl rfl (by kernel_rfl) (by kernel_rfl) (by kernel_rfl) (fun _ _ _ h => h) (by rfl) ?_ hHeld ?_
          rotate_left 1
          · (intro w hSw; subst hSw; go_simp; try with_reducible rfl)
          simp only [Act.put, List.setIfInBounds_toArray, List.set_cons_succ, List.set_cons_zero]
          refine take_yes 2 18 (v := ?_) rfl rfl (by kernel_rfl) (by kernel_rfl) (by kernel_rfl) (fun _ _ _ h => h) (by rfl) ?_ hHeld ?_
          rotate_left 1
          · (intro w hSw; subst hSw; go_simp; try with_reducible rfl)
          simp only [Act.put, List.setIfInBounds_toArray, List.set_cons_succ, List.set_cons_zero]
          refine take_no 3 19 rfl rfl (by kernel_rfl) (by kernel_rfl) (by kernel_rfl) (fun _ _ _ h => h) (by rfl) hHeld ?_
          simp only [Act.put, List.setIfInBounds_toArray, List.set_cons_succ, List.set_cons_zero]
          refine take_no 4 20 rfl rfl (by kernel_rfl) (by kernel_rfl) (by kernel_rfl) (fun _ _ _ h => h) (by rfl) hHeld ?_
          simp only [Act.put, List.setIfInBounds_toArray, List.set_cons_succ, List.set_cons_zero]
          refine take_no 5 21 rfl rfl (by kernel_rfl) (by kernel_rfl) (by kernel_rfl) (fun _ _ _ h => h) (by rfl) hHeld ?_
          simp only [Act.put, List.setIfInBounds_toArray, List.set_cons_succ, List.set_cons_zero]
          refine take_no 6 22 rfl rfl (by kernel_rfl) (by kernel_rfl) (by kernel_rfl) (fun _ _ _ h => h) (by rfl) hHeld ?_
          simp only [Act.put, List.setIfInBounds_toArray, List.set_cons_succ, List.set_cons_zero]
          refine take_no 7 23 rfl rfl (by kernel_rfl) (by kernel_rfl) (by kernel_rfl) (fun _ _ _ h => h) (by rfl) hHeld ?_
          simp only [Act.put, List.setIfInBounds_toArray, List.set_cons_succ, List.set_cons_zero]
          refine take_no 8 24 rfl rfl (by kernel_rfl) (by kernel_rfl) (by kernel_rfl) (fun _ _ _ h => h) (by rfl) hHeld ?_
          simp only [Act.put, List.setIfInBounds_toArray, List.set_cons_succ, List.set_cons_zero]
          refine take_no 9 25 rfl rfl (by kernel_rfl) (by kernel_rfl) (by kernel_rfl) (fun _ _ _ h => h) (by rfl) hHeld ?_
          simp only [Act.put, List.setIfInBounds_toArray, List.set_cons_succ, List.set_cons_zero]
          refine take_no 10 26 rfl rfl (by kernel_rfl) (by kernel_rfl) (by kernel_rfl) (fun _ _ _ h => h) (by rfl) hHeld ?_
          simp only [Act.put, List.setIfInBounds_toArray, List.set_cons_succ, List.set_cons_zero]
          refine take_no 11 27 rfl rfl (by kernel_rfl) (by kernel_rfl) (by kernel_rfl) (fun _ _ _ h => h) (by rfl) hHeld ?_
          simp only [Act.put, List.setIfInBounds_toArray, List.set_cons_succ, List.set_cons_zero]
          refine take_no 12 28 rfl rfl (by kernel_rfl) (by kernel_rfl) (by kernel_rfl) (fun _ _ _ h => h) (by rfl) hHeld ?_
          simp only [Act.put, List.setIfInBounds_toArray, List.set_cons_succ, List.set_cons_zero]
          refine take_yes 13 29 (v := ?_) rfl rfl (by kernel_rfl) (by kernel_rfl) (by kernel_rfl) (fun _ _ _ h => h) (by rfl) ?_ hHeld ?_
          rotate_left 1
          · (intro w hSw; subst hSw; go_simp; try with_reducible rfl)
          simp only [Act.put, List.setIfInBounds_toArray, List.set_cons_succ, List.set_cons_zero]
          refine take_yes 14 30 (v := ?_) rfl rfl (by kernel_rfl) (by kernel_rfl) (by kernel_rfl) (fun _ _ _ h => h) (by rfl) ?_ hHeld ?_
          rotate_left 1
          · (intro w hSw; subst hSw; go_simp; try with_reducible rfl)
          simp only [Act.put, List.setIfInBounds_toArray, List.set_cons_succ, List.set_cons_zero]
          refine take_yes 15 31 (v := ?_) rfl rfl (by kernel_rfl) (by kernel_rfl) (by kernel_rfl) (fun _ _ _ h => h) (by rfl) ?_ hHeld ?_
          rotate_left 1
          · (intro w hSw; subst hSw; go_simp; try with_reducible rfl)
          simp only [Act.put, List.setIfInBounds_toArray, List.set_cons_succ, List.set_cons_zero]
          refine take_yes 16 32 (v := ?_) rfl rfl (by kernel_rfl) (by kernel_rfl) (by kernel_rfl) (fun _ _ _ h => h) (by rfl) ?_ hHeld ?_
          rotate_left 1
          · (intro w hSw; subst hSw; go_simp; try with_reducible rfl)
          simp only [Act.put, List.setIfInBounds_toArray, List.set_cons_succ, List.set_cons_zero]
          refine take_yes 17 33 (v := ?_) rfl rfl (by kernel_rfl) (by kernel_rfl) (by kernel_rfl) (fun _ _ _ h => h) (by rfl) ?_ hHeld ?_
          rotate_left 1
          · (intro w hSw; subst hSw; go_simp; try with_reducible rfl)
          simp only [Act.put, List.setIfInBounds_toArray, List.set_cons_succ, List.set_cons_zero]
          refine take_yes 18 34 (v := ?_) rfl rfl (by kernel_rfl) (by kernel_rfl) (by kernel_rfl) (fun _ _ _ h => h) (by rfl) ?_ hHeld ?_
          rotate_left 1
          · (intro w hSw; subst hSw; go_simp; try with_reducible rfl)
          simp only [Act.put, List.setIfInBounds_toArray, List.set_cons_succ, List.set_cons_zero]
          refine wpAnyH_ready (rs := [19]) (by kernel_rfl) (by simp) ?_
          refine AllReadyH.cons rfl (fun K hK => ?_) AllReadyH.nil
          go_simp
          refine (containsI_any w2.drew aG cG q0 G HM.out.1 HG2.out).mono ?_
          rintro e _ ⟨rfl, rfl⟩
          go_wp2_with fail
          refine hK.out _ _ rfl (fun hHeld => ?_)
          clear hK K
          refine take_yes 20 36 (v := ?_) rfl rfl (by kernel_rfl) (by kernel_rfl) (by kernel_rfl) (fun _ _ _ h => h) (by rfl) ?_ hHeld ?_
          rotate_left 1
          · (intro w hSw; subst hSw; go_simp; try with_reducible rfl)
          simp only [Act.put, List.setIfInBounds_toArray, List.set_cons_succ, List.set_cons_zero]
          refine wpAnyH_done (by kernel_rfl) ?_ _
          cases hg : hasB q0 G
          · have HF : Hid (hereE G q0 (H.drop (0 + 1)) = hereE G 0 H) := HF0.out hg
            clear HF0 HF6 n0 y0 y1
            go_wp2
            go_roundw
            case rel => exact ⟨1, q0, hlt, by go_num, HF.out, by omega, fun j hj e => HL.out j hj (by omega), HB2.out.drew⟩
            case measure => simp [intOf]; omega
          · have HF : Hid (hereE G 0 H = 6) := HF6.out hg
            clear HF0 HF6 n0 y0 y1
            go_wp2
            go_ret
            exact ⟨ret_int (by rw [HF.out]), HB.out.trans (HB2.out.drew.mono HB.out.size)⟩
        | succ j =>
          have HE : Hid (m = H[j].1) := HM1.out j (by omega) rfl
          have u0 := (HPP2.out j (by omega)).1
          generalize H[j].1 = y at *
          have HSa : Hid (q0 ≤ y → hereE G 0 H = 6) := fun h => HS2.out hr (Or.inl (by rw [HE.out]; exact h))
          have HSb : Hid (hasB q0 G = true → hereE G 0 H = 6) := fun h => HS2.out hr (Or.inr h)
          have HSc : Hid (¬ q0 ≤ y → hasB q0 G = false → hereE G q0 (H.drop (j + 1 + 1)) = hereE G 0 H) := fun h h' => HS3.out hr (by rw [HE.out]; omega) h'
          have x3 : decide (((j + 1 : Nat) : Int) > 0) = true := by simp <;> omega
          have x4 : ((j + 1 : Nat) : Int) - 1 = (j : Int) := by omega
          have x6 : (j : Int) < (H.length : Int) := by omega
          have x7 : IntKind.i64.wrap (j : Int) = (j : Int) := by simp [IntKind.wrap, IntKind.bits, IntKind.signed]; omega
          clear HS1 HS2 HS3 HM0 HM1 HE
          by_cases hq : q0 ≤ y
          · have x5 : decide (q0 ≤ y) = true := by simpa using hq
            have HF : Hid (hereE G 0 H = 6) := HSa.out hq
            clear HSa HSb HSc hq
            go_upto_region 6 with fail
            refine wp_region_held_drew (S := fun w' => w' = w2.drew) (by kernel_rfl) rfl (fun hHeld => ?_)
            refine take_yes 0 16 (v := ?_) rfl rfl (by kernel_rfl) (by kernel_rfl) (by kernel_rfl) (fun _ _ _ h => h) (by rfl) ?_ hHeld ?_
            rotate_left 1
            · (intro w hSw; subst hSw; go_simp; try with_reducible rfl)
            simp only [Act.put, List.setIfInBounds_toArray, List.set_cons_succ, List.set_cons_zero]
            refine take_yes 1 17 (v := ?_) rfl rfl (by kernel_rfl) (by kernel_rfl) (by kernel_rfl) (fun _ _ _ h => h) (by rfl) ?_ hHeld ?_
            rotate_left 1
            · (intro w hSw; subst hSw; go_simp; try with_reducible rfl)
            simp only [Act.put, List.setIfInBounds_toArray, List.set_cons_succ, List.set_cons_zero]
            refine take_yes 2 18 (v := ?_) rfl rfl (by kernel_rfl) (by kernel_rfl) (by kernel_rfl) (fun _ _ _ h => h) (by rfl) ?_ hHeld ?_
            rotate_left 1
            · (intro w hSw; subst hSw; go_simp; try with_reducible rfl)
            simp only [Act.put, List.setIfInBounds_toArray, List.set_cons_succ, List.set_cons_zero]
            refine take_yes 3 19 (v := ?_) rfl rfl (by kernel_rfl) (by kernel_rfl) (by kernel_rfl) (fun _ _ _ h => h) (by rfl) ?_ hHeld ?_
            rotate_left 1
            · (intro w hSw; subst hSw; go_simp; try with_reducible rfl)
            simp only [Act.put, List.setIfInBounds_toArray, List.set_cons_succ, List.set_cons_zero]
            refine take_yes 4 20 (v := ?_) rfl rfl (by kernel_rfl) (by kernel_rfl) (by kernel_rfl) (fun _ _ _ h => h) (by rfl) ?_ hHeld ?_
            rotate_left 1
            · (intro w hSw; subst hSw; go_simp; try with_reducible rfl)
            simp only [Act.put, List.setIfInBounds_toArray, List.set_cons_succ, List.set_cons_zero]
            refine take_yes 5 21 (v := ?_) rfl rfl (by kernel_rfl) (by kernel_rfl) (by kernel_rfl) (fun _ _ _ h => h) (by rfl) ?_ hHeld ?_
            rotate_left 1
            · (intro w hSw; subst hSw; go_simp; try with_reducible rfl)
            simp only [Act.put, List.setIfInBounds_toArray, List.set_cons_succ, List.set_cons_zero]
            refine take_yes 6 22 (v := ?_) rfl rfl (by kernel_rfl) (by kernel_rfl) (by kernel_rfl) (fun _ _ _ h => h) (by rfl) ?_ hHeld ?_
            rotate_left 1
            · (intro w hSw; subst hSw; go_simp; try with_reducible rfl)
            simp only [Act.put, List.setIfInBounds_toArray, List.set_cons_succ, List.set_cons_zero]
            refine take_yes 7 23 (v := ?_) rfl rfl (by kernel_rfl) (by kernel_rfl) (by kernel_rfl) (fun _ _ _ h => h) (by rfl) ?_ hHeld ?_
            rotate_left 1
            · (intro w hSw; subst hSw; go_simp; try with_reducible rfl)
            simp only [Act.put, List.setIfInBounds_toArray, List.set_cons_succ, List.set_cons_zero]
            refine take_yes 8 24 (v := ?_) rfl rfl (by kernel_rfl) (by kernel_rfl) (by kernel_rfl) (fun _ _ _ h => h) (by rfl) ?_ hHeld ?_
            rotate_left 1
            · (intro w hSw; subst hSw; go_simp; try with_reducible rfl)
            simp only [Act.put, List.setIfInBounds_toArray, List.set_cons_succ, List.set_cons_zero]
            refine take_yes 9 25 (v := ?_) rfl rfl (by kernel_rfl) (by kernel_rfl) (by kernel_rfl) (fun _ _ _ h => h) (by rfl) ?_ hHeld ?_
            rotate_left 1
            · (intro w hSw; subst hSw; go_simp; try with_reducible rfl)
            simp only [Act.put, List.setIfInBounds_toArray, List.set_cons_succ, List.set_cons_zero]
            refine take_yes 10 26 (v := ?_) rfl rfl (by kernel_rfl) (by kernel_rfl) (by kernel_rfl) (fun _ _ _ h => h) (by rfl) ?_ hHeld ?_
            rotate_left 1
            · (intro w hSw; subst hSw; go_simp; try with_reducible rfl)
            simp only [Act.put, List.setIfInBounds_toArray, List.set_cons_succ, List.set_cons_zero]
            refine take_yes 11 27 (v := ?_) rfl rfl (by kernel_rfl) (by kernel_rfl) (by kernel_rfl) (fun _ _ _ h => h) (by rfl) ?_ hHeld ?_
            rotate_left 1
            · (intro w hSw; subst hSw; go_simp; try with_reducible rfl)
            simp only [Act.put, List.setIfInBounds_toArray, List.set_cons_succ, List.set_cons_zero]
            refine take_yes 12 28 (v := ?_) rfl rfl (by kernel_rfl) (by kernel_rfl) (by kernel_rfl) (fun _ _ _ h => h) (by rfl) ?_ hHeld ?_
            rotate_left 1
            · (intro w hSw; subst hSw; go_simp; try with_reducible rfl)
            simp only [Act.put, List.setIfInBounds_toArray, List.set_cons_succ, List.set_cons_zero]
            refine take_yes 13 29 (v := ?_) rfl rfl (by kernel_rfl) (by kernel_rfl) (by kernel_rfl) (fun _ _ _ h => h) (by rfl) ?_ hHeld ?_
            rotate_left 1
            · (intro w hSw; subst hSw; go_simp; try with_reducible rfl)
            simp only [Act.put, List.setIfInBounds_toArray, List.set_cons_succ, List.set_cons_zero]
            refine take_yes 14 30 (v := ?_) rfl rfl (by kernel_rfl) (by kernel_rfl) (by kernel_rfl) (fun _ _ _ h => h) (by rfl) ?_ hHeld ?_
            rotate_left 1
            · (intro w hSw; subst hSw; go_simp; try with_reducible rfl)
            simp only [Act.put, List.setIfInBounds_toArray, List.set_cons_succ, List.set_cons_zero]
            refine take_no 15 31 rfl rfl (by kernel_rfl) (by kernel_rfl) (by kernel_rfl) (fun _ _ _ h => h) (by rfl) hHeld ?_
            simp only [Act.put, List.setIfInBounds_toArray, List.set_cons_succ, List.set_cons_zero]
            refine take_no 16 32 rfl rfl (by kernel_rfl) (by kernel_rfl) (by kernel_rfl) (fun _ _ _ h => h) (by rfl) hHeld ?_
            simp only [Act.put, List.setIfInBounds_toArray, List.set_cons_succ, List.set_cons_zero]
            refine take_no 17 33 rfl rfl (by kernel_rfl) (by kernel_rfl) (by kernel_rfl) (fun _ _ _ h => h) (by rfl) hHeld ?_
            simp only [Act.put, List.setIfInBounds_toArray, List.set_cons_succ, List.set_cons_zero]
            refine take_no 18 34 rfl rfl (by kernel_rfl) (by kernel_rfl) (by kernel_rfl) (fun _ _ _ h => h) (by rfl) hHeld ?_
            simp only [Act.put, List.setIfInBounds_toArray, List.set_cons_succ, List.set_cons_zero]
            refine take_no 19 35 rfl rfl (by kernel_rfl) (by kernel_rfl) (by kernel_rfl) (fun _ _ _ h => h) (by rfl) hHeld ?_
            simp only [Act.put, List.setIfInBounds_toArray, List.set_cons_succ, List.set_cons_zero]
            refine take_yes 20 36 (v := ?_) rfl rfl (by kernel_rfl) (by kernel_rfl) (by kernel_rfl) (fun _ _ _ h => h) (by rfl) ?_ hHeld ?_
            rotate_left 1
            · (intro w hSw; subst hSw; go_simp; try with_reducible rfl)
            simp only [Act.put, List.setIfInBounds_toArray, List.set_cons_succ, List.set_cons_zero]
            refine wpAnyH_done (by kernel_rfl) ?_ _
            clear n0 y0 y1 u0
            go_wp2
            go_ret
            exact ⟨ret_int (by rw [HF.out]), HB.out.trans (HB2.out.drew.mono HB.out.size)⟩
          · have x5 : decide (q0 ≤ y) = false := by simpa using hq
            have HF0 : Hid (hasB q0 G = false → hereE G q0 (H.drop (j + 1 + 1)) = hereE G 0 H) := HSc.out hq
            clear HSa HSc hq
            go_upto_region 6 with fail
            refine wp_region_held_drew (S := fun w' => w' = w2.drew) (by kernel_rfl) rfl (fun hHeld => ?_)
            refine take_yes 0 16 (v := ?_) rfl rfl (by kernel_rfl) (by kernel_rfl) (by kernel_rfl) (fun _ _ _ h => h) (by rfl) ?_ hHeld ?_
            rotate_left 1
            · (intro w hSw; subst hSw; go_simp; try with_reducible rfl)
            simp only [Act.put, List.setIfInBounds_toArray, List.set_cons_succ, List.set_cons_zero]
            refine take_yes 1 17 (v := ?_) rfl rfl (by kernel_rfl) (by kernel_rfl) (by kernel_rfl) (fun _ _ _ h => h) (by rfl) ?_ hHeld ?_
            rotate_left 1
            · (intro w hSw; subst hSw; go_simp; try with_reducible rfl)
            simp only [Act.put, List.setIfInBounds_toArray, List.set_cons_succ, List.set_cons_zero]
            refine take_yes 2 18 (v := ?_) rfl rfl (by kernel_rfl) (by kernel_rfl) (by kernel_rfl) (fun _ _ _ h => h) (by rfl) ?_ hHeld ?_
            rotate_left 1
            · (intro w hSw; subst hSw; go_simp; try with_reducible rfl)
            simp only [Act.put, List.setIfInBounds_toArray, List.set_cons_succ, List.set_cons_zero]
            refine take_yes 3 19 (v := ?_) rfl rfl (by kernel_rfl) (by kernel_rfl) (by kernel_rfl) (fun _ _ _ h => h) (by rfl) ?_ hHeld ?_
            rotate_left 1
            · (intro w hSw; subst hSw; go_simp; try with_reducible rfl)
            simp only [Act.put, List.setIfInBounds_toArray, List.set_cons_succ, List.set_cons_zero]
            refine take_yes 4 20 (v := ?_) rfl rfl (by kernel_rfl) (by kernel_rfl) (by kernel_rfl) (fun _ _ _ h => h) (by rfl) ?_ hHeld ?_
            rotate_left 1
            · (intro w hSw; subst hSw; go_simp; try with_reducible rfl)
            simp only [Act.put, List.setIfInBounds_toArray, List.set_cons_succ, List.set_cons_zero]
            refine take_yes 5 21 (v := ?_) rfl rfl (by kernel_rfl) (by kernel_rfl) (by kernel_rfl) (fun _ _ _ h => h) (by rfl) ?_ hHeld ?_
            rotate_left 1
            · (intro w hSw; subst hSw; go_simp; try with_reducible rfl)
            simp only [Act.put, List.setIfInBounds_toArray, List.set_cons_succ, List.set_cons_zero]
            refine take_yes 6 22 (v := ?_) rfl rfl (by kernel_rfl) (by kernel_rfl) (by kernel_rfl) (fun _ _ _ h => h) (by rfl) ?_ hHeld ?_
            rotate_left 1
            · (intro w hSw; subst hSw; go_simp; try with_reducible rfl)
            simp only [Act.put, List.setIfInBounds_toArray, List.set_cons_succ, List.set_cons_zero]
            refine take_yes 7 23 (v := ?_) rfl rfl (by kernel_rfl) (by kernel_rfl) (by kernel_rfl) (fun _ _ _ h => h) (by rfl) ?_ hHeld ?_
            rotate_left 1
            · (intro w hSw; subst hSw; go_simp; try with_reducible rfl)
            simp only [Act.put, List.setIfInBounds_toArray, List.set_cons_succ, List.set_cons_zero]
            refine take_yes 8 24 (v := ?_) rfl rfl (by kernel_rfl) (by kernel_rfl) (by kernel_rfl) (fun _ _ _ h => h) (by rfl) ?_ hHeld ?_
            rotate_left 1
            · (intro w hSw; subst hSw; go_simp; try with_reducible rfl)
            simp only [Act.put, List.setIfInBounds_toArray, List.set_cons_succ, List.set_cons_zero]
            refine take_yes 9 25 (v := ?_) rfl rfl (by kernel_rfl) (by kernel_rfl) (by kernel_rfl) (fun _ _ _ h => h) (by rfl) ?_ hHeld ?_
            rotate_left 1
            · (intro w hSw; subst hSw; go_simp; try with_reducible rfl)
            simp only [Act.put, List.setIfInBounds_toArray, List.set_cons_succ, List.set_cons_zero]
            refine take_yes 10 26 (v := ?_) rfl rfl (by kernel_rfl) (by kernel_rfl) (by kernel_rfl) (fun _ _ _ h => h) (by rfl) ?_ hHeld ?_
            rotate_left 1
            · (intro w hSw; subst hSw; go_simp; try with_reducible rfl)
            simp only [Act.put, List.setIfInBounds_toArray, List.set_cons_succ, List.set_cons_zero]
            refine take_yes 11 27 (v := ?_) rfl rfl (by kernel_rfl) (by kernel_rfl) (by kernel_rfl) (fun _ _ _ h => h) (by rfl) ?_ hHeld ?_
            rotate_left 1
            · (intro w hSw; subst hSw; go_simp; try with_reducible rfl)
            simp only [Act.put, List.setIfInBounds_toArray, List.set_cons_succ, List.set_cons_zero]
            refine take_yes 12 28 (v := ?_) rfl rfl (by kernel_rfl) (by kernel_rfl) (by kernel_rfl) (fun _ _ _ h => h) (by rfl) ?_ hHeld ?_
            rotate_left 1
            · (intro w hSw; subst hSw; go_simp; try with_reducible rfl)
            simp only [Act.put, List.setIfInBounds_toArray, List.set_cons_succ, List.set_cons_zero]
            refine take_yes 13 29 (v := ?_) rfl rfl (by kernel_rfl) (by kernel_rfl) (by kernel_rfl) (fun _ _ _ h => h) (by rfl) ?_ hHeld ?_
            rotate_left 1
            · (intro w hSw; subst hSw; go_simp; try with_reducible rfl)
            simp only [Act.put, List.setIfInBounds_toArray, List.set_cons_succ, List.set_cons_zero]
            refine take_yes 14 30 (v := ?_) rfl rfl (by kernel_rfl) (by kernel_rfl) (by kernel_rfl) (fun _ _ _ h => h) (by rfl) ?_ hHeld ?_
            rotate_left 1
            · (intro w hSw; subst hSw; go_simp; try with_reducible rfl)
            simp only [Act.put, List.setIfInBounds_toArray, List.set_cons_succ, List.set_cons_zero]
            refine take_yes 15 31 (v := ?_) rfl rfl (by kernel_rfl) (by kernel_rfl) (by kernel_rfl) (fun _ _ _ h => h) (by rfl) ?_ hHeld ?_
            rotate_left 1
            · (intro w hSw; subst hSw; go_simp; try with_reducible rfl)
            simp only [Act.put, List.setIfInBounds_toArray, List.set_cons_succ, List.set_cons_zero]
            refine take_yes 16 32 (v := ?_) rfl rfl (by kernel_rfl) (by kernel_rfl) (by kernel_rfl) (fun _ _ _ h => h) (by rfl) ?_ hHeld ?_
            rotate_left 1
            · (intro w hSw; subst hSw; go_simp; try with_reducible rfl)
            simp only [Act.put, List.setIfInBounds_toArray, List.set_cons_succ, List.set_cons_zero]
            refine take_yes 17 33 (v := ?_) rfl rfl (by kernel_rfl) (by kernel_rfl) (by kernel_rfl) (fun _ _ _ h => h) (by rfl) ?_ hHeld ?_
            rotate_left 1
            · (intro w hSw; subst hSw; go_simp; try with_reducible rfl)
            simp only [Act.put, List.setIfInBounds_toArray, List.set_cons_succ, List.set_cons_zero]
            refine take_yes 18 34 (v := ?_) rfl rfl (by kernel_rfl) (by kernel_rfl) (by kernel_rfl) (fun _ _ _ h => h) (by rfl) ?_ hHeld ?_
            rotate_left 1
            · (intro w hSw; subst hSw; go_simp; try with_reducible rfl)
            simp only [Act.put, List.setIfInBounds_toArray, List.set_cons_succ, List.set_cons_zero]
            refine wpAnyH_ready (rs := [19]) (by kernel_rfl) (by simp) ?_
            refine AllReadyH.cons rfl (fun K hK => ?_) AllReadyH.nil
            go_simp
            refine (containsI_any w2.drew aG cG q0 G HM.out.1 HG2.out).mono ?_
            rintro e _ ⟨rfl, rfl⟩
            go_wp2_with fail
            refine hK.out _ _ rfl (fun hHeld => ?_)
            clear hK K
            refine take_yes 20 36 (v := ?_) rfl rfl (by kernel_rfl) (by kernel_rfl) (by kernel_rfl) (fun _ _ _ h => h) (by rfl) ?_ hHeld ?_
            rotate_left 1
            · (intro w hSw; subst hSw; go_simp; try with_reducible rfl)
            simp only [Act.put, List.setIfInBounds_toArray, List.set_cons_succ, List.set_cons_zero]
            refine wpAnyH_done (by kernel_rfl) ?_ _
            cases hg : hasB q0 G
            · have HF : Hid (hereE G q0 (H.drop (j + 1 + 1)) = hereE G 0 H) := HF0.out hg
              clear HF0 HSb n0 y0 y1 u0
              go_wp2
              go_roundw
              case rel => exact ⟨j + 2, q0, hlt, by go_num, HF.out, by omega, fun i hi e => HL.out i hi (by omega), HB2.out.drew⟩
              case measure => simp [intOf]; omega
            · have HF : Hid (hereE G 0 H = 6) := HSb.out hg
              clear HF0 HSb n0 y0 y1 u0
              go_wp2
              go_ret
              exact ⟨ret_int (by rw [HF.out]), HB.out.trans (HB2.out.drew.mono HB.out.size)⟩
    · have hk' : H.drop k = [] := by simp; omega
      rw [hk'] at hf
      have HF : Hid (hereE G 0 H = 0) := hf.symm
      clear hf hk' hm0 hm1
      go_wp2
      go_ret
      exact ⟨ret_int (by rw [HF.out]), HB.out.trans (hb.mono HB.out.size)⟩
end Go.Proofs.YtkjgoikcibgonacGreat

/- delta.checkChange, delta.Check. -/
namespace Go.Proofs.YtkjgoikcibgonacGreat
open Go.ChangeShapes Go.WideShapes Go.ChangeAt Go.RowKit
open Orangery (Pl hasB inRangeB goneE hereE halfE deltaE orI)

set_option maxHeartbeats 2000000 in
set_option maxRecDepth 100000 in
theorem checkChange_any (w : World) (aG aH : Option Addr) (cG cH : Nat) (G : List Int) (H : List Pl) (hG : G.length ≤ maxLen) (hH : H.length ≤ maxLen) (h1 : SlI w aG G) (h2 : SlP w aH H) :
    Calls Tryz.prog 32 #[.agg #[.slice aG G.length cG, .slice aH H.length cH]] w fun e w' => e = .returned (.int .i64 (halfE G H)) ∧ Below w.heap.size w w' := by
  have HM : Hid (G.length ≤ maxLen ∧ H.length ≤ maxLen) := ⟨hG, hH⟩
  obtain ⟨W0, hW, hX, hB, hS⟩ := laid1 w [Value.slice aG G.length cG, Value.slice aH H.length cH] 45
  have hG0 := h1.below hB
  have hH0 := h2.below hB
  have HB : Hid (Below w.heap.size w W0) := hB
  have x0 := hX.at 0 rfl
  have x1 := hX.at 1 rfl
  clear h1 h2 hB hS hG hH
  go_enter Tryz.func32, Tryz.ntmps32
  by_cases hg : 16 < G.length
  · have d1 : decide ((G.length : Int) > 16) = true := by simp; omega
    have HE : Hid (halfE G H = 2) := by show _ = _; unfold halfE; rw [if_pos (Or.inl hg)]
    clear hg
    go_wp2
    go_ret
    exact ⟨ret_int HE.out.symm, HB.out⟩
  · have d1 : decide ((G.length : Int) > 16) = false := by simp; omega
    by_cases hh : 16 < H.length
    · have d2 : decide ((H.length : Int) > 16) = true := by simp; omega
      have HE : Hid (halfE G H = 2) := by show _ = _; unfold halfE; rw [if_pos (Or.inr hh)]
      clear hg hh
      go_wp2
      go_ret
      exact ⟨ret_int HE.out.symm, HB.out⟩
    · have d2 : decide ((H.length : Int) > 16) = false := by simp; omega
      have HE : Hid (halfE G H = orI (goneE 0 G) (hereE G 0 H)) := Orangery.half_or G H (by omega)
      clear hg hh
      have HCG := fun W => checkGone_any W aG cG G HM.out.1
      have HCH := fun W => checkHere_any W aG aH cG cH G H HM.out.1 HM.out.2
      generalize goneE 0 G = E1 at *
      generalize hereE G 0 H = E2 at *
      go_upto_region 3 with fail
      clear hW
      go_region_held3 (fun w' => w'.cell? ⟨w.heap.size, 0, none⟩ = some (.slice aG G.length cG) ∧ w'.cell? ⟨w.heap.size, 1, none⟩ = some (.slice aH H.length cH)) (go_keep)
        (first | (go_at_call 57; refine (HCG _ ?_).mono ?_; exact hG0; rintro e w1 ⟨rfl, rfl⟩) | (go_at_call 58; refine (HCH _ ?_ ?_).mono ?_; exact hG0; exact hH0; rintro e w2 ⟨rfl, hb2⟩; have hb2' : Below W0.heap.size W0 w2 := ((Below.refl _ W0).drew).trans hb2; have hX2 := hX.keep hb2'; have x20 := hX2.at 0 rfl; have x21 := hX2.at 1 rfl) | (go_at_call 14; refine (orE_any _ _ _ E1 E2 ?_ ?_).mono ?_; simp; simp; rintro e w3 ⟨rfl, rfl⟩))
      have HB2 : Hid (Below w.heap.size w (w2.alloc (Obj.cells #[Value.int IntKind.i64 E1, Value.int IntKind.i64 E2] 28))) := (HB.out.trans (hb2'.mono HB.out.size)).alloc (Nat.le_trans HB.out.size hb2'.size) _
      clear x0 x1 x20 x21 hX2 hb2 hb2'
      go_wp2
      go_ret
      exact ⟨ret_int (by rw [HE.out]), HB2.out⟩

theorem run_index_changes (a b c d : Value) (w : World) : (Instr.index 47 (.agg #[a, b, c, d]) (.int .i64 0)).run Tryz.prog w = .ok (.agg #[a, b]) w ∧ (Instr.index 47 (.agg #[a, b, c, d]) (.int .i64 1)).run Tryz.prog w = .ok (.agg #[c, d]) w := by
  have hu := Tryz.underlying47
  have ha := Tryz.isAgg45
  have hz := Tryz.sizeOf45
  unfold Instr.index
  refine ⟨?_, ?_⟩ <;> go_simp <;> simp [asAgg]

set_option maxHeartbeats 2000000 in
set_option maxRecDepth 100000 in
theorem dcheck_any (w : World) (aG aH aX aY : Option Addr) (cG cH cX cY : Nat) (G : List Int) (H : List Pl) (X : List Int) (Y : List Pl)
    (hm : G.length ≤ maxLen ∧ H.length ≤ maxLen ∧ X.length ≤ maxLen ∧ Y.length ≤ maxLen) (h1 : SlI w aG G) (h2 : SlP w aH H) (h3 : SlI w aX X) (h4 : SlP w aY Y) :
    Calls Tryz.prog 9 #[.agg #[.slice aG G.length cG, .slice aH H.length cH, .slice aX X.length cX, .slice aY Y.length cY]] w fun e w' => e = .returned (.int .i64 (deltaE G H X Y)) ∧ Below w.heap.size w w' := by
  have HE : Hid (deltaE G H X Y = orI (halfE G H) (halfE X Y)) := rfl
  obtain ⟨W0, hW, hX, hB, hS⟩ := laid1 w [Value.slice aG G.length cG, Value.slice aH H.length cH, Value.slice aX X.length cX, Value.slice aY Y.length cY] 27
  have y0 := hX.at 0 rfl
  have y1 := hX.at 1 rfl
  have y2 := hX.at 2 rfl
  have y3 := hX.at 3 rfl
  have HB : Hid (Below w.heap.size w W0) := hB
  have HM : Hid (G.length ≤ maxLen ∧ H.length ≤ maxLen ∧ X.length ≤ maxLen ∧ Y.length ≤ maxLen) := hm
  have HP : Hid (SlI W0 aG G ∧ SlP W0 aH H ∧ SlI W0 aX X ∧ SlP W0 aY Y) := ⟨h1.below hB, h2.below hB, h3.below hB, h4.below hB⟩
  clear hX hB hS h1 h2 h3 h4 hm
  go_enter Tryz.func9, Tryz.ntmps9
  go_wp2_with fail
  clear hW y0 y1 y2 y3
  refine (changesOf_any W0 aG aH aX aY G.length H.length X.length Y.length cG cH cX cY).mono ?_
  rintro e w1 ⟨rfl, hb1⟩
  have HC1 : Hid (∀ W, Below w1.heap.size w1 W → Calls Tryz.prog 32 #[.agg #[.slice aG G.length cG, .slice aH H.length cH]] W fun e w' => e = .returned (.int .i64 (halfE G H)) ∧ Below W.heap.size W w') := fun W hb => checkChange_any W aG aH cG cH G H HM.out.1 HM.out.2.1 ((HP.out.1.below hb1).below hb) ((HP.out.2.1.below hb1).below hb)
  have HC2 : Hid (∀ W, Below w1.heap.size w1 W → Calls Tryz.prog 32 #[.agg #[.slice aX X.length cX, .slice aY Y.length cY]] W fun e w' => e = .returned (.int .i64 (halfE X Y)) ∧ Below W.heap.size W w') := fun W hb => checkChange_any W aX aY cX cY X Y HM.out.2.2.1 HM.out.2.2.2 ((HP.out.2.2.1.below hb1).below hb) ((HP.out.2.2.2.below hb1).below hb)
  have HB1 : Hid (Below w.heap.size w w1) := HB.out.trans (hb1.mono HB.out.size)
  have hix := fun W => run_index_changes (.slice aG G.length cG) (.slice aH H.length cH) (.slice aX X.length cX) (.slice aY Y.length cY) W
  generalize halfE G H = E1 at *
  generalize halfE X Y = E2 at *
  clear HB hb1 HM HP
  go_wp2
  go_loopw [8] (fun i W => ∃ k : Nat, k ≤ 2 ∧ i = .int .i64 k ∧ (1 ≤ k → E1 = 0) ∧ (2 ≤ k → E2 = 0) ∧ Below w1.heap.size w1 W) (fun i _ => 2 - (intOf i).toNat)
  case atStart => exact ⟨0, by omega, rfl, by omega, by omega, Below.refl _ _⟩
  case round =>
    obtain ⟨k, hk, rfl, hc1, hc2, hb⟩ := hrel
    have HK1 : Hid (1 ≤ k → E1 = 0) := hc1
    have HK2 : Hid (2 ≤ k → E2 = 0) := hc2
    have hcs : k = 0 ∨ k = 1 ∨ k = 2 := by omega
    clear hc1 hc2
    rcases hcs with rfl | rfl | rfl
    · obtain ⟨W2, hW2, hN, hB2, _⟩ := laid1 wr [Value.slice aG G.length cG, Value.slice aH H.length cH] 45
      have hbn : Below w1.heap.size w1 W2 := hb.trans (hB2.mono hb.size)
      have n0 := hN.at 0 rfl
      have n1 := hN.at 1 rfl
      clear hN hB2 hb
      go_wp2_with fail
      clear hW2 n0 n1
      refine (HC1.out W2 hbn).mono ?_
      rintro e w3 ⟨rfl, hb3⟩
      have HB3 : Hid (Below w1.heap.size w1 w3) := hbn.trans (hb3.mono hbn.size)
      clear hbn hb3
      by_cases hz : E1 = 0
      · subst hz
        go_wp2
        go_roundw
        case rel => exact ⟨1, by omega, by go_num, fun _ => by trivial, by omega, HB3.out⟩
        case measure => simp [intOf]
      · have hz' : (E1 != 0) = true := by simpa using hz
        have HF : Hid (deltaE G H X Y = E1) := by show _ = _; rw [HE.out]; unfold orI; rw [if_pos hz]
        clear hz
        go_wp2
        go_ret
        exact ⟨ret_int HF.out.symm, HB1.out.trans (HB3.out.mono HB1.out.size)⟩
    · have HZ : Hid (E1 = 0) := HK1.out (by omega)
      obtain ⟨W2, hW2, hN, hB2, _⟩ := laid1 wr [Value.slice aX X.length cX, Value.slice aY Y.length cY] 45
      have hbn : Below w1.heap.size w1 W2 := hb.trans (hB2.mono hb.size)
      have n0 := hN.at 0 rfl
      have n1 := hN.at 1 rfl
      clear hN hB2 hb
      go_wp2_with fail
      clear hW2 n0 n1
      refine (HC2.out W2 hbn).mono ?_
      rintro e w3 ⟨rfl, hb3⟩
      have HB3 : Hid (Below w1.heap.size w1 w3) := hbn.trans (hb3.mono hbn.size)
      clear hbn hb3
      by_cases hz : E2 = 0
      · subst hz
        go_wp2
        go_roundw
        case rel => exact ⟨2, by omega, by go_num, fun _ => HZ.out, fun _ => by trivial, HB3.out⟩
        case measure => simp [intOf]
      · have hz' : (E2 != 0) = true := by simpa using hz
        have HF : Hid (deltaE G H X Y = E2) := by show _ = _; rw [HE.out, HZ.out]; rfl
        clear hz
        go_wp2
        go_ret
        exact ⟨ret_int HF.out.symm, HB1.out.trans (HB3.out.mono HB1.out.size)⟩
    · have HF : Hid (deltaE G H X Y = 0) := by show _ = _; rw [HE.out, HK1.out (by omega), HK2.out (by omega)]; rfl
      go_wp2
      go_ret
      exact ⟨ret_int HF.out.symm, HB1.out.trans (hb.mono HB1.out.size)⟩
end Go.Proofs.YtkjgoikcibgonacGreat

/- slices.Grow of nothing, slices.Concat at places. -/
namespace Go.Proofs.YtkjgoikcibgonacGreat
open Go.ChangeShapes Go.WideShapes Go.ChangeAt Go.RowKit
open Orangery (Pl)

set_option maxHeartbeats 1000000 in
set_option maxRecDepth 100000 in
theorem growPls_any (w : World) (n : Nat) (hn : n ≤ 1000) :
    Calls Tryz.prog 99 #[.slice none 0 0, .int .i64 n] w
      fun e w' => ∃ v, e = .returned v ∧ OwnE encPl 3 55 w' w.heap.size v [] ∧ Below w.heap.size w w' := by
  obtain ⟨i0, hi, hz0, hz1, hz2⟩ := info_parts infoPlace
  have h1 : ¬ ((n : Int) < 0) := by omega
  by_cases hp : 0 < n
  · have h4 : (n : Int) > 0 := by omega
    have hold : (Builtin.firstCells i0.size 0 (.slice none 0 0)).run Tryz.prog w.drew = .ok ([] : List Value).toArray w.drew := by simp [Builtin.firstCells]
    have hr : ∀ ty, (Builtin.append_ #[23, 3] ty #[.slice none 0 0, .int .i64 (n : Int)]).run Tryz.prog w = _ := fun ty => Lib.run_append_grow_zeros w 23 3 ty 55 i0 _ .i64 .i64 Tryz.underlying23 Tryz.underlying3 hi hz0 none 0 0 [] hold n hp (by omega) (by omega) (by omega) (by rw [hz2]; omega) (growslice_fits (by omega) (by rw [hz2]; omega))
    have hge := grownCap_ge w (0 + n) 0 55
    have hle := grownCap_le_maxLen w (0 + n) 0 55 (by unfold maxLen; omega)
    generalize grownCap w (0 + n) 0 55 = G at *
    have hle' : G ≤ 9223372036854775807 := hle
    have HO : Hid (∀ cur : Array Value, cur.size = G * 3 → OwnE encPl 3 55 (w.drew.alloc (.cells cur 55)) w.heap.size (.slice (some ⟨w.heap.size, 0, none⟩) 0 G) []) := fun cur hc =>
      ⟨rfl, Or.inr ⟨w.heap.size, G, cur, rfl, Nat.le_refl _, blk_new rfl, Nat.zero_le _, hle, hc, by simp⟩⟩
    have HB : Hid (∀ o : Obj, Below w.heap.size w (w.drew.alloc o)) := fun o => ((Below.refl _ w).drew).alloc (Nat.le_refl _) o
    have HSZ : Hid ((([] : List Value).toArray ++ Builtin.zeroCells (Value.agg #[.int .i64 0, .int .i64 0, .int .i64 0]).cells n ++ Builtin.zeroCells (Value.agg #[.int .i64 0, .int .i64 0, .int .i64 0]).cells (G - (0 + n))).size = G * 3) := by
      show _ = _
      rw [Array.size_append, Array.size_append, size_zeroCells, size_zeroCells]
      simp [Value.cells]
      omega
    generalize (([] : List Value).toArray ++ Builtin.zeroCells (Value.agg #[.int .i64 0, .int .i64 0, .int .i64 0]).cells n ++ Builtin.zeroCells (Value.agg #[.int .i64 0, .int .i64 0, .int .i64 0]).cells (G - (0 + n))) = cur at *
    clear hold
    go_enter Tryz.func99, Tryz.ntmps99
    go_wp2_with (at_builtin; refine Lib.wpList_append_run _ rfl _ _ _ _ rfl _ _ rfl rfl _ _ (hr _) ?_)
    all_goals (go_ret; exact ⟨_, rfl, HO.out cur HSZ.out, HB.out _⟩)
  · obtain rfl : n = 0 := by omega
    go_enter Tryz.func99, Tryz.ntmps99
    go_wp2
    go_ret
    exact ⟨_, rfl, OwnE.nil _ _, Below.refl _ _⟩

theorem encPl_one (p : Pl) : ∀ v ∈ encPl p, v.oneCell' = true := by
  intro v hv
  simp [encPl] at hv
  rcases hv with rfl | rfl | rfl <;> rfl
theorem encPl_len (x : Pl) : (encPl x).length = 3 := rfl
/-- one slice behind another one of the call's own -/
theorem SlP.news {w : World} {ad : Addr} {l : List Pl} (h : SlP w (some ad) l) : ∀ j u, (l.flatMap encPl)[j]? = some u → w.cell? (ad.add j) = some u := by
  intro j u hj
  rcases h with rfl | ⟨b, off, ha, _, hp⟩
  · simp at hj
  · simp at ha
    subst ha
    exact pls_flat hp j u hj
theorem SlP.none_nil {w : World} {l : List Pl} (h : SlP w none l) : l = [] := by
  rcases h with rfl | ⟨b, off, h, _⟩
  · rfl
  · simp at h

set_option maxHeartbeats 2000000 in
set_option maxRecDepth 100000 in
theorem concatPls_any (w : World) (bq : Nat) (a1 a2 : Option Addr) (c1 c2 : Nat) (l1 l2 : List Pl) (hl1 : l1.length ≤ 500) (hl2 : l2.length ≤ 500) (hc1 : a1 = none → c1 = 0) (hc2 : a2 = none → c2 = 0)
    (q0 : w.cell? ⟨bq, 0, none⟩ = some (.slice a1 l1.length c1)) (q1 : w.cell? ⟨bq, 1, none⟩ = some (.slice a2 l2.length c2)) (h1 : SlP w a1 l1) (h2 : SlP w a2 l2) :
    Calls Tryz.prog 75 #[.slice (some ⟨bq, 0, none⟩) 2 2] w
      fun e w' => ∃ v, e = .returned v ∧ OwnE encPl 3 55 w' w.heap.size v (l1 ++ l2) ∧ Below w.heap.size w w' := by
  obtain ⟨i0, hi, hz0, hz1, hz2⟩ := info_parts infoPlace
  have hbq : bq < w.heap.size := World.block_lt_of_cell? w ⟨bq, 0, none⟩ q0
  go_enter Tryz.func75, Tryz.ntmps75
  go_wp2
  go_loop [3, 11] (fun x i => ∃ k : Nat, k ≤ 2 ∧ i = .int .i64 k ∧ x = .int .i64 (if k = 0 then 0 else if k = 1 then l1.length else l1.length + l2.length : Nat)) (fun _ i => 2 - (intOf i).toNat)
  case atStart => exact ⟨0, by omega, rfl, rfl⟩
  case round =>
    obtain ⟨k, hk, rfl, rfl⟩ := hrel
    have hc : k = 0 ∨ k = 1 ∨ k = 2 := by omega
    rcases hc with rfl | rfl | rfl
    · simp only [if_true]
      have d1 : decide ((l1.length : Int) < 0) = false := by simp <;> omega
      go_wp2
      go_round
      case rel => exact ⟨1, by omega, by go_num, by simp⟩
      case measure => simp [intOf]
    · simp only [show ¬ (1 = 0) by omega, if_true, if_false]
      have d1 : decide ((l1.length : Int) + (l2.length : Int) < 0) = false := by simp <;> omega
      go_wp2
      go_round
      case rel => exact ⟨2, by omega, by go_num, by simp⟩
      case measure => simp [intOf]
    · simp only [show ¬ (2 = 0) by omega, show ¬ (2 = 1) by omega, if_false]
      have HG := growPls_any w (l1.length + l2.length) (by omega)
      have HGG : Hid (Calls Tryz.prog 99 #[.slice none 0 0, .int .i64 (l1.length + l2.length : Nat)] w fun e w' => ∃ v, e = .returned v ∧ OwnE encPl 3 55 w' w.heap.size v [] ∧ Below w.heap.size w w') := HG
      clear HG
      go_wp2_with fail
      refine HGG.out.mono ?_
      rintro e w1 ⟨v1, rfl, hO1, hb1⟩
      clear HGG
      go_wp2
      go_loopw [6, 27] (fun v i W => ∃ k : Nat, k ≤ 2 ∧ i = .int .i64 k ∧ OwnE encPl 3 55 W w.heap.size v (if k = 0 then [] else if k = 1 then l1 else l1 ++ l2) ∧ Below w.heap.size w W) (fun _ i _ => 2 - (intOf i).toNat)
      case atStart => exact ⟨0, by omega, rfl, hO1, hb1⟩
      case round =>
        obtain ⟨k, hk, rfl, hO, hb⟩ := hrel
        have hc : k = 0 ∨ k = 1 ∨ k = 2 := by omega
        have qr0 : wr.cell? ⟨bq, 0, none⟩ = some (.slice a1 l1.length c1) := by rw [hb.cell (by exact hbq)]; exact q0
        have qr1 : wr.cell? ⟨bq, 1, none⟩ = some (.slice a2 l2.length c2) := by rw [hb.cell (by exact hbq)]; exact q1
        rcases hc with rfl | rfl | rfl
        · simp only [if_true] at hO
          cases a1 with
          | none =>
            have e1 := h1.none_nil
            have e2 := hc1 rfl
            have qr0' : wr.cell? ⟨bq, 0, none⟩ = some (.slice none 0 0) := by rw [qr0, e1, e2]; rfl
            have HE : Hid (l1 = []) := e1
            clear qr0 e1 e2
            go_wp2_with (at_builtin; refine wpList_append_own_none rfl _ _ 23 rfl w.heap.size 55 i0 3 Tryz.underlying23 hi _ 0 [] rfl hO.row rfl ?_)
            go_roundw
            case rel => exact ⟨1, by omega, by go_num, by simp [HE.out]; exact hO, hb⟩
            case measure => simp [intOf]
          | some ad =>
            have hn := (h1.below hb).news
            have HN : Hid (∀ j u, (l1.flatMap encPl)[j]? = some u → wr.cell? (ad.add j) = some u) := hn
            have hown : wr.ownsRow w.heap.size 55 3 u6 0 [] := hO.row
            clear hn
            go_wp2_with (at_builtin; refine wpList_append_own _ rfl _ _ 23 rfl w.heap.size 55 i0 _ 3 24 Tryz.underlying23 hi hz0 hz1 hz2 rfl (by decide) _ _ _ rfl hown ad l1.length c1 (l1.flatMap encPl) rfl (flatE_len encPl_len l1) ?c1 ?c2 ?c3 ?c4 ?c5 ?_)
            case c1 => exact HN.out
            case c2 => exact flat_oneE encPl_one l1
            case c3 => unfold maxLen; omega
            case c4 => omega
            case c5 => exact hb.size
            intro v' w4 hown' hgrow _
            have hb4 := hb.trans (below_grown hown hb.size hgrow)
            clear hgrow hown
            go_wp2
            go_roundw
            case rel => exact ⟨1, by omega, by go_num, by simp; simpa [OwnE] using hown', hb4⟩
            case measure => simp [intOf]
        · simp only [show ¬ (1 = 0) by omega, if_true, if_false] at hO
          cases a2 with
          | none =>
            have e1 := h2.none_nil
            have e2 := hc2 rfl
            have qr1' : wr.cell? ⟨bq, 1, none⟩ = some (.slice none 0 0) := by rw [qr1, e1, e2]; rfl
            have HE : Hid (l2 = []) := e1
            clear qr1 e1 e2
            go_wp2_with (at_builtin; refine wpList_append_own_none rfl _ _ 23 rfl w.heap.size 55 i0 3 Tryz.underlying23 hi _ l1.length (l1.flatMap encPl) rfl hO.row rfl ?_)
            go_roundw
            case rel => exact ⟨2, by omega, by go_num, by simp [HE.out]; exact hO, hb⟩
            case measure => simp [intOf]
          | some ad =>
            have hn := (h2.below hb).news
            have HN : Hid (∀ j u, (l2.flatMap encPl)[j]? = some u → wr.cell? (ad.add j) = some u) := hn
            have hown : wr.ownsRow w.heap.size 55 3 u6 l1.length (l1.flatMap encPl) := hO.row
            clear hn
            go_wp2_with (at_builtin; refine wpList_append_own _ rfl _ _ 23 rfl w.heap.size 55 i0 _ 3 24 Tryz.underlying23 hi hz0 hz1 hz2 rfl (by decide) _ _ _ rfl hown ad l2.length c2 (l2.flatMap encPl) rfl (flatE_len encPl_len l2) ?d1 ?d2 ?d3 ?d4 ?d5 ?_)
            case d1 => exact HN.out
            case d2 => exact flat_oneE encPl_one l2
            case d3 => unfold maxLen; omega
            case d4 => omega
            case d5 => exact hb.size
            intro v' w4 hown' hgrow _
            have hb4 := hb.trans (below_grown hown hb.size hgrow)
            clear hgrow hown
            go_wp2
            go_roundw
            case rel => exact ⟨2, by omega, by go_num, by simp; simpa [OwnE] using hown', hb4⟩
            case measure => simp [intOf]
        · simp only [show ¬ (2 = 0) by omega, show ¬ (2 = 1) by omega, if_false] at hO
          go_wp2
          go_ret
          exact ⟨_, rfl, hO, hb⟩
end Go.Proofs.YtkjgoikcibgonacGreat

/- slices.DeleteFunc at places, on a slice of the call's own. -/
namespace Go.Proofs.YtkjgoikcibgonacGreat
open Go.ChangeShapes Go.WideShapes Go.ChangeAt Go.RowKit
open Orangery (Pl idxF Kept)

theorem HoldsP.set {w : World} {g : Nat} {m : List Pl} (h : HoldsP w g m) (i : Nat) (hi : i < m.length) (x : Pl) :
    HoldsP (((w.setCell ⟨g, i * 3, none⟩ (.int .i64 x.1)).setCell ⟨g, i * 3 + 1, none⟩ (.int .i64 x.2.1)).setCell ⟨g, i * 3 + 2, none⟩ (.int .i64 x.2.2)) g (m.set i x) := by
  obtain ⟨hp, hf⟩ := h
  refine ⟨?_, ?_⟩
  · intro k hk
    have hk' : k < m.length := by simpa using hk
    have h0 := hp i hi
    have h1 := hp k hk'
    simp only [Nat.zero_add] at h0 h1 ⊢
    by_cases hik : i = k
    · subst hik
      simp only [List.getElem_set_self]
      refine ⟨?_, ?_, ?_⟩
      · rw [World.cell?_setCell_other _ _ _ _ (by simp), World.cell?_setCell_other _ _ _ _ (by simp), World.cell?_setCell_same _ _ _ h0.1]
      · rw [World.cell?_setCell_other _ _ _ _ (by simp), World.cell?_setCell_same _ _ _ (u := .int .i64 m[i].2.1)]
        rw [World.cell?_setCell_other _ _ _ _ (by simp), h0.2.1]
      · rw [World.cell?_setCell_same _ _ _ (u := .int .i64 m[i].2.2)]
        rw [World.cell?_setCell_other _ _ _ _ (by simp), World.cell?_setCell_other _ _ _ _ (by simp), h0.2.2]
    · rw [List.getElem_set_ne hik]
      refine ⟨?_, ?_, ?_⟩
      all_goals
        rw [World.cell?_setCell_other _ _ _ _ (by simp <;> omega), World.cell?_setCell_other _ _ _ _ (by simp <;> omega), World.cell?_setCell_other _ _ _ _ (by simp <;> omega)]
      · exact h1.1
      · exact h1.2.1
      · exact h1.2.2
  · intro k hk
    simp only [World.frozen?_setCell]
    exact hf k (by simpa using hk)

theorem HoldsP.below {w w' : World} {g : Nat} {m : List Pl} (h : HoldsP w g m) (hg : g < w.heap.size) (hb : Below w.heap.size w w') : HoldsP w' g m :=
  ⟨fun i hi => by rw [hb.cell hg, hb.cell hg, hb.cell hg]; exact h.1 i hi, fun i hi => by rw [hb.frozen hg]; exact h.2 i hi⟩

theorem zeroPlaces (n : Nat) : ∀ v ∈ (Builtin.zeroCells #[Value.int IntKind.i64 0, Value.int IntKind.i64 0, Value.int IntKind.i64 0] n).toList, v.oneCell' = true := by
  intro v hv
  simp [Builtin.zeroCells] at hv
  obtain ⟨a, _, rfl⟩ := hv
  have : a % 3 = 0 ∨ a % 3 = 1 ∨ a % 3 = 2 := by omega
  rcases this with h | h | h <;> rw [h] <;> rfl

/-- 'clear' of the end of a row -/
theorem run_clear_places (w : World) (ty : TypeId) (g i n c : Nat) (m : List Pl) (h : HoldsP w g m) (hn : i + n = m.length) (hp : 0 < n) :
    ∃ vs, vs.length = n * 3 ∧ (Builtin.clear_ #[23] ty #[.slice (some ⟨g, i * 3, none⟩) n c]).run Tryz.prog w = .ok (.tuple #[]) (w.setCells g (i * 3) vs) := by
  refine ⟨(Builtin.zeroCells #[Value.int IntKind.i64 0, Value.int IntKind.i64 0, Value.int IntKind.i64 0] n).toList, by simp [size_zeroCells], ?_⟩
  have hst := run_storeCells_cells (P := Tryz.prog) g (i * 3) (Builtin.zeroCells #[Value.int IntKind.i64 0, Value.int IntKind.i64 0, Value.int IntKind.i64 0] n).toList 0 w
    (by
      intro j hj
      have hj' : j < n * 3 := by simpa [size_zeroCells] using hj
      have hc := h.1 ((i * 3 + j) / 3) (by omega)
      have hm : (i * 3 + j) % 3 = 0 ∨ (i * 3 + j) % 3 = 1 ∨ (i * 3 + j) % 3 = 2 := by omega
      rcases hm with hm | hm | hm
      · rw [show i * 3 + 0 + j = 0 + (i * 3 + j) / 3 * 3 by omega, hc.1]; rfl
      · rw [show i * 3 + 0 + j = 0 + (i * 3 + j) / 3 * 3 + 1 by omega, hc.2.1]; rfl
      · rw [show i * 3 + 0 + j = 0 + (i * 3 + j) / 3 * 3 + 2 by omega, hc.2.2]; rfl)
    (by
      intro j hj
      have hj' : j < n * 3 := by simpa [size_zeroCells] using hj
      exact h.2 _ (by omega))
    (zeroPlaces n)
  simp only [Nat.add_zero] at hst
  obtain ⟨k, rfl⟩ : ∃ k, n = k + 1 := ⟨n - 1, by omega⟩
  have hz := Tryz.zeroValue55
  simp [Builtin.clear_, run_underlying Tryz.underlying23, hz, Value.cells, hst]

theorem HoldsP.cleared {w : World} {g i : Nat} {m : List Pl} (h : HoldsP w g m) (vs : List Value) (hi : i ≤ m.length) : HoldsP (w.setCells g (i * 3) vs) g (m.take i) := by
  refine ⟨fun k hk => ?_, fun k hk => ?_⟩
  · have hk' : k < i := by simp at hk; omega
    have := h.1 k (by omega)
    rw [List.getElem_take]
    rw [World.cell?_setCells_out _ _ _ _ _ (by simp; omega), World.cell?_setCells_out _ _ _ _ _ (by simp; omega), World.cell?_setCells_out _ _ _ _ _ (by simp; omega)]
    exact this
  · rw [World.frozen?_setCells]
    exact h.2 k (by simp at hk; omega)

theorem below_setCells {B : Nat} {w : World} (g : Nat) (hg : B ≤ g) : ∀ (vs : List Value) (o : Nat) (W : World), Below B w W → Below B w (W.setCells g o vs)
  | [], _, _, h => h
  | v :: r, o, W, h => below_setCells g hg r (o + 1) _ (h.setCell (by exact hg) v)

set_option maxHeartbeats 2000000 in
theorem delete_any (w : World) (base : Nat) (sv : Value) (l : List Pl) (k : Nat) (v : Value) (f : Pl → Bool) (hl : l.length ≤ 1000) (h : OwnS w base sv l)
    (hbase : base ≤ w.heap.size)
    (eg : ∀ args w, (callFunc k args).run Tryz.prog w = .ok (.enter k args) w)
    (hg : ∀ W p, Below base w W → Calls Tryz.prog k #[plV p, v] W fun e w' => e = .returned (.bool (f p)) ∧ Below W.heap.size W w') :
    Calls Tryz.prog 41 #[sv, .func (.func k) #[] #[v]] w
      fun e w' => ∃ rv, e = .returned rv ∧ OwnS w' base rv (l.filter fun p => !f p) ∧ Below base w w' := by
  obtain ⟨a, c, rfl, hP⟩ := h.slp
  go_enter Tryz.func41, Tryz.ntmps41
  go_wp2_with fail
  refine (indexFunc_any w a c l k v f (by unfold maxLen; omega) hP eg (fun W p hb => hg W p (hb.mono hbase))).mono ?_
  rintro e w1 ⟨rfl, hb1⟩
  have hO1 := h.below hb1
  have hB1 : Below base w w1 := hb1.mono hbase
  have hS1 : base ≤ w1.heap.size := Nat.le_trans hbase hb1.size
  clear hP h
  rcases Orangery.idxF_first f l 0 with ⟨h1, h2⟩ | ⟨i, hi, h1, h2⟩
  · rw [h1]
    have HE : Hid (l.filter (fun p => !f p) = l) := h2
    clear h1 h2
    go_wp2
    go_ret
    exact ⟨_, rfl, by rw [HE.out]; exact hO1, hB1⟩
  · rw [h1, Nat.zero_add]
    have hK := Kept.start f l i hi h2
    clear h1 h2
    rcases hO1 with ⟨_, hO1⟩ | ⟨g, cap, hv, hgb, hgl, hcap, hcm, hH, hrow⟩
    · exact absurd hi (by simp [hO1])
    have hv' : a = some ⟨g, 0, none⟩ ∧ c = cap := by simpa using hv
    obtain ⟨rfl, rfl⟩ := hv'
    clear hv
    have HH : Hid (HoldsP w1 g l) := hH
    have HROW : Hid (RowAt w1 g c) := hrow
    clear hrow
    have HK : Hid (Kept f l l i (i + 1)) := hK
    clear hH hK
    have hi' : ((i : Int) == -1) = false := by simp <;> omega
    go_wp2
    go_loopw [5, 6] (fun x y W => ∃ (i j : Nat) (m : List Pl), x = .int .i64 i ∧ y = .int .i64 j ∧ Kept f l m i j ∧ HoldsP W g m ∧ (g < W.heap.size ∧ RowAt W g c) ∧ Below base w W) (fun _ y _ => l.length - (intOf y).toNat)
    case atStart => exact ⟨i, i + 1, l, rfl, by go_num, HK.out, HH.out, ⟨hgl, HROW.out⟩, hB1⟩
    case round =>
      clear hgl HH HK hi' HROW
      obtain ⟨i, j, m, rfl, rfl, hK, hH, ⟨hgl, hrow⟩, hb⟩ := hrel
      have HROW : Hid (RowAt wr g c) := hrow
      clear hrow
      have HH : Hid (HoldsP wr g m) := hH
      have HK : Hid (Kept f l m i j) := hK
      have hml : m.length = l.length := hK.1
      have hij : i < j := hK.2.1
      have hjl : j ≤ l.length := hK.2.2.1
      by_cases hlt : j < l.length
      · obtain ⟨hjm, hmj⟩ := hK.get hlt
        have gg := hH.1 j hjm
        rw [hmj] at gg
        simp only [Nat.zero_add] at gg
        obtain ⟨g0, g1, g2⟩ := gg
        have hx := hH.1 i (by omega)
        simp only [Nat.zero_add] at hx
        obtain ⟨x0, x1, x2⟩ := hx
        have hfr : ∀ t, t < m.length * 3 → wr.frozen? ⟨g, t, none⟩ = false := hH.2
        have K1 := hK.skip hlt
        have K2 := hK.keep hlt
        have HK1 : Hid (f l[j] = true → Kept f l m i (j + 1)) := K1
        have HK2 : Hid (f l[j] = false → Kept f l (m.set i l[j]) (i + 1) (j + 1)) := K2
        have HQ0 : Hid (m[j] = l[j]) := hmj
        clear hH hK K1 K2 hmj
        generalize hq : l[j] = q at *
        obtain ⟨q0, q1, q2⟩ := q
        have HQ : Hid (l[j] = (q0, q1, q2)) := hq
        clear hq
        simp only at g0 g1 g2
        go_wp2_with fail
        refine (hg _ (q0, q1, q2) (hb.alloc (Nat.le_trans hbase hb.size) _)).mono ?_
        rintro e w2 ⟨rfl, hb2⟩
        have hb3 : Below base w w2 := (hb.alloc (Nat.le_trans hbase hb.size) _).trans (hb2.mono (by simp; exact Nat.le_succ_of_le (Nat.le_trans hbase hb.size)))
        have hB2 : Below wr.heap.size wr w2 := (Go.Joins.below_alloc1 wr _).trans (hb2.mono (by simp))
        have z0 : w2.cell? ⟨wr.heap.size, 0, none⟩ = some (.int .i64 q0) := by rw [hb2.cell (by simp)]; simp
        have z1 : w2.cell? ⟨wr.heap.size, 1, none⟩ = some (.int .i64 q1) := by rw [hb2.cell (by simp)]; simp
        have z2 : w2.cell? ⟨wr.heap.size, 2, none⟩ = some (.int .i64 q2) := by rw [hb2.cell (by simp)]; simp
        have H2 : HoldsP w2 g m := HH.out.below hgl hB2
        have hgl2 : g < w2.heap.size := Nat.lt_of_lt_of_le hgl hB2.size
        have HROW2 : Hid (RowAt w2 g c) := HROW.out.below hB2 hgl
        have hne : ¬ wr.heap.size = g := by omega
        clear hb2 hB2 g0 g1 g2 x0 x1 x2 hfr hb HH
        cases hr : f (q0, q1, q2)
        · have HH2 : Hid (HoldsP w2 g m) := H2
          have hx := H2.1 i (by omega)
          simp only [Nat.zero_add] at hx
          obtain ⟨x0, x1, x2⟩ := hx
          have f0 := H2.2 (i * 3) (by omega)
          have f1 := H2.2 (i * 3 + 1) (by omega)
          have f2 := H2.2 (i * 3 + 2) (by omega)
          clear H2
          go_wp2
          go_roundw
          case rel =>
            refine ⟨i + 1, j + 1, m.set i (q0, q1, q2), by go_num, by go_num, HK2.out hr, HH2.out.set i (by omega) (q0, q1, q2), ⟨by simpa using hgl2, ((HROW2.out.set _ _ _).set _ _ _).set _ _ _⟩, ((hb3.setCell hgb _).setCell hgb _).setCell hgb _⟩
          case measure => simp [intOf]; omega
        · go_wp2
          go_roundw
          case rel => exact ⟨i, j + 1, m, rfl, by go_num, HK1.out hr, H2, ⟨hgl2, HROW2.out⟩, hb3⟩
          case measure => simp [intOf]; omega
      · have e := hK.done hlt
        have HE : Hid (m.take i = l.filter fun p => !f p) := e
        obtain ⟨vs, hvs, hrun⟩ := run_clear_places wr 0 g i (l.length - i) (c - i) m hH (by omega) (by omega)
        have HH2 : Hid (HoldsP (wr.setCells g (i * 3) vs) g (m.take i)) := hH.cleared vs (by omega)
        have hb2 := below_setCells g hgb vs (i * 3) wr hb
        have hlen : (m.take i).length = i := by simp; omega
        have hsz : (wr.setCells g (i * 3) vs).heap.size = wr.heap.size := by simp [Go.Sort.size_setCells]
        clear e hH hK
        go_wp2
        go_ret
        refine ⟨_, rfl, ?_, hb2⟩
        rw [← HE.out]
        refine Or.inr ⟨g, c, by rw [hlen]; rfl, hgb, by rw [hsz]; exact hgl, by omega, hcm, HH2.out, RowAt.sets g _ _ _ HROW.out⟩
end Go.Proofs.YtkjgoikcibgonacGreat

