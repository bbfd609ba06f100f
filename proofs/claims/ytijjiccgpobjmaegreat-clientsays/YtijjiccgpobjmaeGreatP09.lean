/- 3 texts of the proof: delta.checkHere, delta.checkChange, delta.Check. delta.checkChange, delta.Check. delta.between: what goes, what is here, each in new memory. -/
import Derived.Deep.DeepCutAuto
import Derived.Deep.RegionHeld3
import Derived.Test.YtijjiccgpobjmaeGreatP08
import Derived.Test.YtijjiccgpobjmaeGreatP07
import Derived.Test.YtijjiccgpobjmaeGreatP05
/- delta.checkHere, delta.checkChange, delta.Check. -/
namespace Go.Proofs.YtijjiccgpobjmaeGreat
open Go.ChangeShapes Go.WideShapes Go.ChangeAt Go.RowKit
open Orangery (Pl hasB inRangeB goneE hereE halfE deltaE orI)

set_option maxHeartbeats 4000000 in
set_option maxRecDepth 100000 in
theorem checkHere_any (w : World) (aG aH : Option Addr) (cG cH : Nat) (G : List Int) (H : List Pl) (hG : G.length ≤ maxLen) (hH : H.length ≤ maxLen) (h1 : SlI w aG G) (h2 : SlP w aH H) :
    Calls Tryz.prog 139 #[.agg #[.slice aG G.length cG, .slice aH H.length cH]] w fun e w' => e = .returned (.int .i64 (hereE G 0 H)) ∧ Below w.heap.size w w' := by
  have hl' : H.length ≤ 9223372036854775807 := hH
  have HM : Hid (G.length ≤ maxLen ∧ H.length ≤ maxLen) := ⟨hG, hH⟩
  obtain ⟨W0, hW, hX, hB, hS⟩ := laid1 w [Value.slice aG G.length cG, Value.slice aH H.length cH] 136
  have HX : Hid (Blk W0 w.heap.size [Value.slice aG G.length cG, Value.slice aH H.length cH]) := hX
  have HG : Hid (SlI W0 aG G) := h1.below hB
  have HH : Hid (SlP W0 aH H) := h2.below hB
  have HB : Hid (Below w.heap.size w W0) := hB
  have x1 := hX.at 1 rfl
  clear hX h1 h2 hB hS hG hH
  go_enter Tryz.func139, Tryz.ntmps139
  go_wp2
  clear hW x1
  go_loopw [8] (fun i W => ∃ (k : Nat) (m : Int), k ≤ H.length ∧ i = .int .i64 k ∧ hereE G m (H.drop k) = hereE G 0 H ∧ (k = 0 → m = 0) ∧ (∀ j, (hj : j < H.length) → k = j + 1 → m = H[j].1) ∧ Below W0.heap.size W0 W) (fun i _ => H.length - (intOf i).toNat)
  case atStart => exact ⟨0, 0, Nat.zero_le _, rfl, rfl, fun _ => rfl, fun j _ e => by omega, Below.refl _ _⟩
  case round =>
    obtain ⟨k, m, hk, rfl, hf, hm0, hm1, hb⟩ := hrel
    by_cases hlt : k < H.length
    · obtain ⟨s1, s2, s3⟩ := Orangery.hereE_step G H k _ hlt hf
      have HS1 : Hid (inRangeB H[k] = false → hereE G 0 H = 3) := s1
      have HS2 : Hid (inRangeB H[k] = true → H[k].1 ≤ m ∨ hasB H[k].1 G = true → hereE G 0 H = 6) := s2
      have HS3 : Hid (inRangeB H[k] = true → ¬ H[k].1 ≤ m → hasB H[k].1 G = false → hereE G H[k].1 (H.drop (k + 1)) = hereE G 0 H) := s3
      have HL : Hid (∀ j, (hj : j < H.length) → k = j → H[k].1 = H[j].1) := fun j hj e => by subst e; rfl
      have HM0 : Hid (k = 0 → m = 0) := hm0
      have HM1 : Hid (∀ j, (hj : j < H.length) → k = j + 1 → m = H[j].1) := hm1
      clear s1 s2 s3 hf hm0 hm1
      have hP := HH.out.below hb
      rcases hP with hP | ⟨b, off, rfl, hbl, hp⟩
      · exact absurd hlt (by simp [hP])
      obtain ⟨g0, g1, g2⟩ := hp k hlt
      have HPP : Hid (b < wr.heap.size ∧ PlsAt wr b off H) := ⟨hbl, hp⟩
      clear hp
      generalize hq : H[k] = q at *
      obtain ⟨q0, q1, q2⟩ := q
      clear hq
      dsimp only at g0 g1 g2 HS2 HS3 HL
      obtain ⟨W1, hW1, hN, hB1, _⟩ := laid1 wr [Value.int IntKind.i64 q0, Value.int IntKind.i64 q1, Value.int IntKind.i64 q2] 47
      have HB1 : Hid (Below W0.heap.size W0 W1) := hb.trans (hB1.mono hb.size)
      have HB1' : Hid (Below wr.heap.size wr W1) := hB1
      have n0 := hN.at 0 rfl
      have n1 := hN.at 1 rfl
      have n2 := hN.at 2 rfl
      have HN : Hid (Blk W1 wr.heap.size [Value.int IntKind.i64 q0, Value.int IntKind.i64 q1, Value.int IntKind.i64 q2]) := hN
      clear hN hB1 hb hbl
      go_wp2_with fail
      clear hW1 n0 n1 n2 g0 g1 g2
      refine (inRangeD_any W1 (q0, q1, q2)).mono ?_
      rintro e w2 ⟨rfl, hb2⟩
      have HB2 : Hid (Below W0.heap.size W0 w2) := HB1.out.trans (hb2.mono HB1.out.size)
      have HBr : Hid (Below wr.heap.size wr w2) := HB1'.out.trans (hb2.mono HB1'.out.size)
      have hN2 := HN.out.keep hb2
      have hX2 := HX.out.keep HB2.out
      have HG2 : Hid (SlI w2.drew aG G) := HG.out.below (HB2.out.trans ((Below.refl _ w2).drew.mono HB2.out.size))
      have n0 := hN2.at 0 rfl
      have y0 := hX2.at 0 rfl
      have y1 := hX2.at 1 rfl
      have HPP2 : Hid (PlsAt w2 b off H) := by
        intro i hi
        obtain ⟨u0, u1, u2⟩ := HPP.out.2 i hi
        exact ⟨by rw [HBr.out.cell (by exact HPP.out.1)]; exact u0, by rw [HBr.out.cell (by exact HPP.out.1)]; exact u1, by rw [HBr.out.cell (by exact HPP.out.1)]; exact u2⟩
      clear HN hb2 hN2 hX2 HPP HB1 HB1'
      cases hr : inRangeB (q0, q1, q2)
      · have HF : Hid (hereE G 0 H = 3) := HS1.out hr
        clear HS1 HS2 HS3 n0 y0 y1
        go_wp2
        go_ret
        exact ⟨ret_int (by rw [HF.out]), HB.out.trans (HB2.out.mono HB.out.size)⟩
      · cases k with
        | zero =>
          have HZ : Hid (m = 0) := HM0.out rfl
          have hq0 : Hid (¬ q0 ≤ 0) := by
            show ¬ q0 ≤ 0
            have := (Orangery.inRangeB_iff (q0, q1, q2)).1 hr
            simp only at this
            omega
          have HF6 : Hid (hasB q0 G = true → hereE G 0 H = 6) := fun h => HS2.out hr (Or.inr h)
          have HF0 : Hid (hasB q0 G = false → hereE G q0 (H.drop (0 + 1)) = hereE G 0 H) := fun h => HS3.out hr (by have := hq0.out; rw [HZ.out]; omega) h
          clear HS1 HS2 HS3 HM0 HM1 HZ hq0
          go_upto_region 6 with fail
          refine wp_region_held_drew (S := fun w' => w' = w2.drew) (by kernel_rfl) rfl (fun hHeld => ?_)
          refine take_yes 0 16 (v := ?_) rfl rfl (by kernel_rfl) (by kernel_rfl) (by kernel_rfl) (fun _ _ _ h => h) (by rfl) ?_ hHeld ?_
          rotate_left 1
          · (intro w hSw; subst hSw; go_simp; try with_reducible rfl)
          simp only [Act.put, List.setIfInBounds_toArray, List.set_cons_succ, List.set_cons_zero]
          refine take_yes 1 17 (v := ?_) rfl rfl (by kernel_rfl) (by kernel_rfl) (by kernel_rfl) (fun _ _ _ h => h) (by rfl) ?_ hHeld ?_
          rotate_left 1
          · (intro w hSw; subst hSw; go_simp; try with_reducible rfl)
          simp only [Act.put, List.setIfInBounds_toArray, List.set_cons_succ, List.set_cons_zero]
          refine take_yes 2 18 (v := ?_) rfl rfl (by kernel_rfl) (by kernel_rfl) (by kernel_rfl) (fun _ _ _ h => h) (by rfl) ?_ hHeld ?_
          rotate_left 1
          · (intro w hSw; subst hSw; go_simp; try with_reducible rfl)
          simp only [Act.put, List.setIfInBounds_toArray, List.set_cons_succ, List.set_cons_zero]
          refine take_no 3 19 rfl rfl (by kernel_rfl) (by kernel_rfl) (by kernel_rfl) (fun _ _ _ h => h) (by rfl) hHeld ?_
          simp only [Act.put, List.setIfInBounds_toArray, List.set_cons_succ, List.set_cons_zero]
          refine take_no 4 20 rfl rfl (by kernel_rfl) (by kernel_rfl) (by kernel_rfl) (fun _ _ _ h => h) (by rfl) hHeld ?_
          simp only [Act.put, List.setIfInBounds_toArray, List.set_cons_succ, List.set_cons_zero]
          refine take_no 5 21 rfl rfl (by kernel_rfl) (by kernel_rfl) (by kernel_rfl) (fun _ _ _ h => h) (by rfl) hHeld ?_
          simp only [Act.put, List.setIfInBounds_toArray, List.set_cons_succ, List.set_cons_zero]
          refine take_no 6 22 rfl rfl (by kernel_rfl) (by kernel_rfl) (by kernel_rfl) (fun _ _ _ h => h) (by rfl) hHeld ?_
          simp only [Act.put, List.setIfInBounds_toArray, List.set_cons_succ, List.set_cons_zero]
          refine take_no 7 23 rfl rfl (by kernel_rfl) (by kernel_rfl) (by kernel_rfl) (fun _ _ _ h => h) (by rfl) hHeld ?_
          simp only [Act.put, List.setIfInBounds_toArray, List.set_cons_succ, List.set_cons_zero]
          refine take_no 8 24 rfl rfl (by kernel_rfl) (by kernel_rfl) (by kernel_rfl) (fun _ _ _ h => h) (by rfl) hHeld ?_
          simp only [Act.put, List.setIfInBounds_toArray, List.set_cons_succ, List.set_cons_zero]
          refine take_no 9 25 rfl rfl (by kernel_rfl) (by kernel_rfl) (by kernel_rfl) (fun _ _ _ h => h) (by rfl) hHeld ?_
          simp only [Act.put, List.setIfInBounds_toArray, List.set_cons_succ, List.set_cons_zero]
          refine take_no 10 26 rfl rfl (by kernel_rfl) (by kernel_rfl) (by kernel_rfl) (fun _ _ _ h => h) (by rfl) hHeld ?_
          simp only [Act.put, List.setIfInBounds_toArray, List.set_cons_succ, List.set_cons_zero]
          refine take_no 11 27 rfl rfl (by kernel_rfl) (by kernel_rfl) (by kernel_rfl) (fun _ _ _ h => h) (by rfl) hHeld ?_
          simp only [Act.put, List.setIfInBounds_toArray, List.set_cons_succ, List.set_cons_zero]
          refine take_no 12 28 rfl rfl (by kernel_rfl) (by kernel_rfl) (by kernel_rfl) (fun _ _ _ h => h) (by rfl) hHeld ?_
          simp only [Act.put, List.setIfInBounds_toArray, List.set_cons_succ, List.set_cons_zero]
          refine take_yes 13 29 (v := ?_) rfl rfl (by kernel_rfl) (by kernel_rfl) (by kernel_rfl) (fun _ _ _ h => h) (by rfl) ?_ hHeld ?_
          rotate_left 1
          · (intro w hSw; subst hSw; go_simp; try with_reducible rfl)
          simp only [Act.put, List.setIfInBounds_toArray, List.set_cons_succ, List.set_cons_zero]
          refine take_yes 14 30 (v := ?_) rfl rfl (by kernel_rfl) (by kernel_rfl) (by kernel_rfl) (fun _ _ _ h => h) (by rfl) ?_ hHeld ?_
          rotate_left 1
          · (intro w hSw; subst hSw; go_simp; try with_reducible rfl)
          simp only [Act.put, List.setIfInBounds_toArray, List.set_cons_succ, List.set_cons_zero]
          refine take_yes 15 31 (v := ?_) rfl rfl (by kernel_rfl) (by kernel_rfl) (by kernel_rfl) (fun _ _ _ h => h) (by rfl) ?_ hHeld ?_
          rotate_left 1
          · (intro w hSw; subst hSw; go_simp; try with_reducible rfl)
          simp only [Act.put, List.setIfInBounds_toArray, List.set_cons_succ, List.set_cons_zero]
          refine take_yes 16 32 (v := ?_) rfl rfl (by kernel_rfl) (by kernel_rfl) (by kernel_rfl) (fun _ _ _ h => h) (by rfl) ?_ hHeld ?_
          rotate_left 1
          · (intro w hSw; subst hSw; go_simp; try with_reducible rfl)
          simp only [Act.put, List.setIfInBounds_toArray, List.set_cons_succ, List.set_cons_zero]
          refine take_yes 17 33 (v := ?_) rfl rfl (by kernel_rfl) (by kernel_rfl) (by kernel_rfl) (fun _ _ _ h => h) (by rfl) ?_ hHeld ?_
          rotate_left 1
          · (intro w hSw; subst hSw; go_simp; try with_reducible rfl)
          simp only [Act.put, List.setIfInBounds_toArray, List.set_cons_succ, List.set_cons_zero]
          refine take_yes 18 34 (v := ?_) rfl rfl (by kernel_rfl) (by kernel_rfl) (by kernel_rfl) (fun _ _ _ h => h) (by rfl) ?_ hHeld ?_
          rotate_left 1
          · (intro w hSw; subst hSw; go_simp; try with_reducible rfl)
          simp only [Act.put, List.setIfInBounds_toArray, List.set_cons_succ, List.set_cons_zero]
          refine wpAnyH_ready (rs := [19]) (by kernel_rfl) (by simp) ?_
          refine AllReadyH.cons rfl (fun K hK => ?_) AllReadyH.nil
          go_simp
          refine (containsI_any w2.drew aG cG q0 G HM.out.1 HG2.out).mono ?_
          rintro e _ ⟨rfl, rfl⟩
          go_wp2_with fail
          refine hK.out _ _ rfl (fun hHeld => ?_)
          clear hK K
          refine take_yes 20 36 (v := ?_) rfl rfl (by kernel_rfl) (by kernel_rfl) (by kernel_rfl) (fun _ _ _ h => h) (by rfl) ?_ hHeld ?_
          rotate_left 1
          · (intro w hSw; subst hSw; go_simp; try with_reducible rfl)
          simp only [Act.put, List.setIfInBounds_toArray, List.set_cons_succ, List.set_cons_zero]
          refine wpAnyH_done (by kernel_rfl) ?_ _
          cases hg : hasB q0 G
          · have HF : Hid (hereE G q0 (H.drop (0 + 1)) = hereE G 0 H) := HF0.out hg
            clear HF0 HF6 n0 y0 y1
            go_wp2
            go_roundw
            case rel => exact ⟨1, q0, hlt, by go_num, HF.out, by omega, fun j hj e => HL.out j hj (by omega), HB2.out.drew⟩
            case measure => simp [intOf]; omega
          · have HF : Hid (hereE G 0 H = 6) := HF6.out hg
            clear HF0 HF6 n0 y0 y1
            go_wp2
            go_ret
            exact ⟨ret_int (by rw [HF.out]), HB.out.trans (HB2.out.drew.mono HB.out.size)⟩
        | succ j =>
          have HE : Hid (m = H[j].1) := HM1.out j (by omega) rfl
          have u0 := (HPP2.out j (by omega)).1
          generalize H[j].1 = y at *
          have HSa : Hid (q0 ≤ y → hereE G 0 H = 6) := fun h => HS2.out hr (Or.inl (by rw [HE.out]; exact h))
          have HSb : Hid (hasB q0 G = true → hereE G 0 H = 6) := fun h => HS2.out hr (Or.inr h)
          have HSc : Hid (¬ q0 ≤ y → hasB q0 G = false → hereE G q0 (H.drop (j + 1 + 1)) = hereE G 0 H) := fun h h' => HS3.out hr (by rw [HE.out]; omega) h'
          have x3 : decide (((j + 1 : Nat) : Int) > 0) = true := by simp <;> omega
          have x4 : ((j + 1 : Nat) : Int) - 1 = (j : Int) := by omega
          have x6 : (j : Int) < (H.length : Int) := by omega
          have x7 : IntKind.i64.wrap (j : Int) = (j : Int) := by simp [IntKind.wrap, IntKind.bits, IntKind.signed]; omega
          clear HS1 HS2 HS3 HM0 HM1 HE
          by_cases hq : q0 ≤ y
          · have x5 : decide (q0 ≤ y) = true := by simpa using hq
            have HF : Hid (hereE G 0 H = 6) := HSa.out hq
            clear HSa HSb HSc hq
            go_upto_region 6 with fail
            refine wp_region_held_drew (S := fun w' => w' = w2.drew) (by kernel_rfl) rfl (fun hHeld => ?_)
            refine take_yes 0 16 (v := ?_) rfl rfl (by kernel_rfl) (by kernel_rfl) (by kernel_rfl) (fun _ _ _ h => h) (by rfl) ?_ hHeld ?_
            rotate_left 1
            · (intro w hSw; subst hSw; go_simp; try with_reducible rfl)
            simp only [Act.put, List.setIfInBounds_toArray, List.set_cons_succ, List.set_cons_zero]
            refine take_yes 1 17 (v := ?_) rfl rfl (by kernel_rfl) (by kernel_rfl) (by kernel_rfl) (fun _ _ _ h => h) (by rfl) ?_ hHeld ?_
            rotate_left 1
            · (intro w hSw; subst hSw; go_simp; try with_reducible rfl)
            simp only [Act.put, List.setIfInBounds_toArray, List.set_cons_succ, List.set_cons_zero]
            refine take_yes 2 18 (v := ?_) rfl rfl (by kernel_rfl) (by kernel_rfl) (by kernel_rfl) (fun _ _ _ h => h) (by rfl) ?_ hHeld ?_
            rotate_left 1
            · (intro w hSw; subst hSw; go_simp; try with_reducible rfl)
            simp only [Act.put, List.setIfInBounds_toArray, List.set_cons_succ, List.set_cons_zero]
            refine take_yes 3 19 (v := ?_) rfl rfl (by kernel_rfl) (by kernel_rfl) (by kernel_rfl) (fun _ _ _ h => h) (by rfl) ?_ hHeld ?_
            rotate_left 1
            · (intro w hSw; subst hSw; go_simp; try with_reducible rfl)
            simp only [Act.put, List.setIfInBounds_toArray, List.set_cons_succ, List.set_cons_zero]
            refine take_yes 4 20 (v := ?_) rfl rfl (by kernel_rfl) (by kernel_rfl) (by kernel_rfl) (fun _ _ _ h => h) (by rfl) ?_ hHeld ?_
            rotate_left 1
            · (intro w hSw; subst hSw; go_simp; try with_reducible rfl)
            simp only [Act.put, List.setIfInBounds_toArray, List.set_cons_succ, List.set_cons_zero]
            refine take_yes 5 21 (v := ?_) rfl rfl (by kernel_rfl) (by kernel_rfl) (by kernel_rfl) (fun _ _ _ h => h) (by rfl) ?_ hHeld ?_
            rotate_left 1
            · (intro w hSw; subst hSw; go_simp; try with_reducible rfl)
            simp only [Act.put, List.setIfInBounds_toArray, List.set_cons_succ, List.set_cons_zero]
            refine take_yes 6 22 (v := ?_) rfl rfl (by kernel_rfl) (by kernel_rfl) (by kernel_rfl) (fun _ _ _ h => h) (by rfl) ?_ hHeld ?_
            rotate_left 1
            · (intro w hSw; subst hSw; go_simp; try with_reducible rfl)
            simp only [Act.put, List.setIfInBounds_toArray, List.set_cons_succ, List.set_cons_zero]
            refine take_yes 7 23 (v := ?_) rfl rfl (by kernel_rfl) (by kernel_rfl) (by kernel_rfl) (fun _ _ _ h => h) (by rfl) ?_ hHeld ?_
            rotate_left 1
            · (intro w hSw; subst hSw; go_simp; try with_reducible rfl)
            simp only [Act.put, List.setIfInBounds_toArray, List.set_cons_succ, List.set_cons_zero]
            refine take_yes 8 24 (v := ?_) rfl rfl (by kernel_rfl) (by kernel_rfl) (by kernel_rfl) (fun _ _ _ h => h) (by rfl) ?_ hHeld ?_
            rotate_left 1
            · (intro w hSw; subst hSw; go_simp; try with_reducible rfl)
            simp only [Act.put, List.setIfInBounds_toArray, List.set_cons_succ, List.set_cons_zero]
            refine take_yes 9 25 (v := ?_) rfl rfl (by kernel_rfl) (by kernel_rfl) (by kernel_rfl) (fun _ _ _ h => h) (by rfl) ?_ hHeld ?_
            rotate_left 1
            · (intro w hSw; subst hSw; go_simp; try with_reducible rfl)
            simp only [Act.put, List.setIfInBounds_toArray, List.set_cons_succ, List.set_cons_zero]
            refine take_yes 10 26 (v := ?_) rfl rfl (by kernel_rfl) (by kernel_rfl) (by kernel_rfl) (fun _ _ _ h => h) (by rfl) ?_ hHeld ?_
            rotate_left 1
            · (intro w hSw; subst hSw; go_simp; try with_reducible rfl)
            simp only [Act.put, List.setIfInBounds_toArray, List.set_cons_succ, List.set_cons_zero]
            refine take_yes 11 27 (v := ?_) rfl rfl (by kernel_rfl) (by kernel_rfl) (by kernel_rfl) (fun _ _ _ h => h) (by rfl) ?_ hHeld ?_
            rotate_left 1
            · (intro w hSw; subst hSw; go_simp; try with_reducible rfl)
            simp only [Act.put, List.setIfInBounds_toArray, List.set_cons_succ, List.set_cons_zero]
            refine take_yes 12 28 (v := ?_) rfl rfl (by kernel_rfl) (by kernel_rfl) (by kernel_rfl) (fun _ _ _ h => h) (by rfl) ?_ hHeld ?_
            rotate_left 1
            · (intro w hSw; subst hSw; go_simp; try with_reducible rfl)
            simp only [Act.put, List.setIfInBounds_toArray, List.set_cons_succ, List.set_cons_zero]
            refine take_yes 13 29 (v := ?_) rfl rfl (by kernel_rfl) (by kernel_rfl) (by kernel_rfl) (fun _ _ _ h => h) (by rfl) ?_ hHeld ?_
            rotate_left 1
            · (intro w hSw; subst hSw; go_simp; try with_reducible rfl)
            simp only [Act.put, List.setIfInBounds_toArray, List.set_cons_succ, List.set_cons_zero]
            refine take_yes 14 30 (v := ?_) rfl rfl (by kernel_rfl) (by kernel_rfl) (by kernel_rfl) (fun _ _ _ h => h) (by rfl) ?_ hHeld ?_
            rotate_left 1
            · (intro w hSw; subst hSw; go_simp; try with_reducible rfl)
            simp only [Act.put, List.setIfInBounds_toArray, List.set_cons_succ, List.set_cons_zero]
            refine take_no 15 31 rfl rfl (by kernel_rfl) (by kernel_rfl) (by kernel_rfl) (fun _ _ _ h => h) (by rfl) hHeld ?_
            simp only [Act.put, List.setIfInBounds_toArray, List.set_cons_succ, List.set_cons_zero]
            refine take_no 16 32 rfl rfl (by kernel_rfl) (by kernel_rfl) (by kernel_rfl) (fun _ _ _ h => h) (by rfl) hHeld ?_
            simp only [Act.put, List.setIfInBounds_toArray, List.set_cons_succ, List.set_cons_zero]
            refine take_no 17 33 rfl rfl (by kernel_rfl) (by kernel_rfl) (by kernel_rfl) (fun _ _ _ h => h) (by rfl) hHeld ?_
            simp only [Act.put, List.setIfInBounds_toArray, List.set_cons_succ, List.set_cons_zero]
            refine take_no 18 34 rfl rfl (by kernel_rfl) (by kernel_rfl) (by kernel_rfl) (fun _ _ _ h => h) (by rfl) hHeld ?_
            simp only [Act.put, List.setIfInBounds_toArray, List.set_cons_succ, List.set_cons_zero]
            refine take_no 19 35 rfl rfl (by kernel_rfl) (by kernel_rfl) (by kernel_rfl) (fun _ _ _ h => h) (by rfl) hHeld ?_
            simp only [Act.put, List.setIfInBounds_toArray, List.set_cons_succ, List.set_cons_zero]
            refine take_yes 20 36 (v := ?_) rfl rfl (by kernel_rfl) (by kernel_rfl) (by kernel_rfl) (fun _ _ _ h => h) (by rfl) ?_ hHeld ?_
            rotate_left 1
            · (intro w hSw; subst hSw; go_simp; try with_reducible rfl)
            simp only [Act.put, List.setIfInBounds_toArray, List.set_cons_succ, List.set_cons_zero]
            refine wpAnyH_done (by kernel_rfl) ?_ _
            clear n0 y0 y1 u0
            go_wp2
            go_ret
            exact ⟨ret_int (by rw [HF.out]), HB.out.trans (HB2.out.drew.mono HB.out.size)⟩
          · have x5 : decide (q0 ≤ y) = false := by simpa using hq
            have HF0 : Hid (hasB q0 G = false → hereE G q0 (H.drop (j + 1 + 1)) = hereE G 0 H) := HSc.out hq
            clear HSa HSc hq
            go_upto_region 6 with fail
            refine wp_region_held_drew (S := fun w' => w' = w2.drew) (by kernel_rfl) rfl (fun hHeld => ?_)
            refine take_yes 0 16 (v := ?_) rfl rfl (by kernel_rfl) (by kernel_rfl) (by kernel_rfl) (fun _ _ _ h => h) (by rfl) ?_ hHeld ?_
            rotate_left 1
            · (intro w hSw; subst hSw; go_simp; try with_reducible rfl)
            simp only [Act.put, List.setIfInBounds_toArray, List.set_cons_succ, List.set_cons_zero]
            refine take_yes 1 17 (v := ?_) rfl rfl (by kernel_rfl) (by kernel_rfl) (by kernel_rfl) (fun _ _ _ h => h) (by rfl) ?_ hHeld ?_
            rotate_left 1
            · (intro w hSw; subst hSw; go_simp; try with_reducible rfl)
            simp only [Act.put, List.setIfInBounds_toArray, List.set_cons_succ, List.set_cons_zero]
            refine take_yes 2 18 (v := ?_) rfl rfl (by kernel_rfl) (by kernel_rfl) (by kernel_rfl) (fun _ _ _ h => h) (by rfl) ?_ hHeld ?_
            rotate_left 1
            · (intro w hSw; subst hSw; go_simp; try with_reducible rfl)
            simp only [Act.put, List.setIfInBounds_toArray, List.set_cons_succ, List.set_cons_zero]
            refine take_yes 3 19 (v := ?_) rfl rfl (by kernel_rfl) (by kernel_rfl) (by kernel_rfl) (fun _ _ _ h => h) (by rfl) ?_ hHeld ?_
            rotate_left 1
            · (intro w hSw; subst hSw; go_simp; try with_reducible rfl)
            simp only [Act.put, List.setIfInBounds_toArray, List.set_cons_succ, List.set_cons_zero]
            refine take_yes 4 20 (v := ?_) rfl rfl (by kernel_rfl) (by kernel_rfl) (by kernel_rfl) (fun _ _ _ h => h) (by rfl) ?_ hHeld ?_
            rotate_left 1
            · (intro w hSw; subst hSw; go_simp; try with_reducible rfl)
            simp only [Act.put, List.setIfInBounds_toArray, List.set_cons_succ, List.set_cons_zero]
            refine take_yes 5 21 (v := ?_) rfl rfl (by kernel_rfl) (by kernel_rfl) (by kernel_rfl) (fun _ _ _ h => h) (by rfl) ?_ hHeld ?_
            rotate_left 1
            · (intro w hSw; subst hSw; go_simp; try with_reducible rfl)
            simp only [Act.put, List.setIfInBounds_toArray, List.set_cons_succ, List.set_cons_zero]
            refine take_yes 6 22 (v := ?_) rfl rfl (by kernel_rfl) (by kernel_rfl) (by kernel_rfl) (fun _ _ _ h => h) (by rfl) ?_ hHeld ?_
            rotate_left 1
            · (intro w hSw; subst hSw; go_simp; try with_reducible rfl)
            simp only [Act.put, List.setIfInBounds_toArray, List.set_cons_succ, List.set_cons_zero]
            refine take_yes 7 23 (v := ?_) rfl rfl (by kernel_rfl) (by kernel_rfl) (by kernel_rfl) (fun _ _ _ h => h) (by rfl) ?_ hHeld ?_
            rotate_left 1
            · (intro w hSw; subst hSw; go_simp; try with_reducible rfl)
            simp only [Act.put, List.setIfInBounds_toArray, List.set_cons_succ, List.set_cons_zero]
            refine take_yes 8 24 (v := ?_) rfl rfl (by kernel_rfl) (by kernel_rfl) (by kernel_rfl) (fun _ _ _ h => h) (by rfl) ?_ hHeld ?_
            rotate_left 1
            · (intro w hSw; subst hSw; go_simp; try with_reducible rfl)
            simp only [Act.put, List.setIfInBounds_toArray, List.set_cons_succ, List.set_cons_zero]
            refine take_yes 9 25 (v := ?_) rfl rfl (by kernel_rfl) (by kernel_rfl) (by kernel_rfl) (fun _ _ _ h => h) (by rfl) ?_ hHeld ?_
            rotate_left 1
            · (intro w hSw; subst hSw; go_simp; try with_reducible rfl)
            simp only [Act.put, List.setIfInBounds_toArray, List.set_cons_succ, List.set_cons_zero]
            refine take_yes 10 26 (v := ?_) rfl rfl (by kernel_rfl) (by kernel_rfl) (by kernel_rfl) (fun _ _ _ h => h) (by rfl) ?_ hHeld ?_
            rotate_left 1
            · (intro w hSw; subst hSw; go_simp; try with_reducible rfl)
            simp only [Act.put, List.setIfInBounds_toArray, List.set_cons_succ, List.set_cons_zero]
            refine take_yes 11 27 (v := ?_) rfl rfl (by kernel_rfl) (by kernel_rfl) (by kernel_rfl) (fun _ _ _ h => h) (by rfl) ?_ hHeld ?_
            rotate_left 1
            · (intro w hSw; subst hSw; go_simp; try with_reducible rfl)
            simp only [Act.put, List.setIfInBounds_toArray, List.set_cons_succ, List.set_cons_zero]
            refine take_yes 12 28 (v := ?_) rfl rfl (by kernel_rfl) (by kernel_rfl) (by kernel_rfl) (fun _ _ _ h => h) (by rfl) ?_ hHeld ?_
            rotate_left 1
            · (intro w hSw; subst hSw; go_simp; try with_reducible rfl)
            simp only [Act.put, List.setIfInBounds_toArray, List.set_cons_succ, List.set_cons_zero]
            refine take_yes 13 29 (v := ?_) rfl rfl (by kernel_rfl) (by kernel_rfl) (by kernel_rfl) (fun _ _ _ h => h) (by rfl) ?_ hHeld ?_
            rotate_left 1
            · (intro w hSw; subst hSw; go_simp; try with_reducible rfl)
            simp only [Act.put, List.setIfInBounds_toArray, List.set_cons_succ, List.set_cons_zero]
            refine take_yes 14 30 (v := ?_) rfl rfl (by kernel_rfl) (by kernel_rfl) (by kernel_rfl) (fun _ _ _ h => h) (by rfl) ?_ hHeld ?_
            rotate_left 1
            · (intro w hSw; subst hSw; go_simp; try with_reducible rfl)
            simp only [Act.put, List.setIfInBounds_toArray, List.set_cons_succ, List.set_cons_zero]
            refine take_yes 15 31 (v := ?_) rfl rfl (by kernel_rfl) (by kernel_rfl) (by kernel_rfl) (fun _ _ _ h => h) (by rfl) ?_ hHeld ?_
            rotate_left 1
            · (intro w hSw; subst hSw; go_simp; try with_reducible rfl)
            simp only [Act.put, List.setIfInBounds_toArray, List.set_cons_succ, List.set_cons_zero]
            refine take_yes 16 32 (v := ?_) rfl rfl (by kernel_rfl) (by kernel_rfl) (by kernel_rfl) (fun _ _ _ h => h) (by rfl) ?_ hHeld ?_
            rotate_left 1
            · (intro w hSw; subst hSw; go_simp; try with_reducible rfl)
            simp only [Act.put, List.setIfInBounds_toArray, List.set_cons_succ, List.set_cons_zero]
            refine take_yes 17 33 (v := ?_) rfl rfl (by kernel_rfl) (by kernel_rfl) (by kernel_rfl) (fun _ _ _ h => h) (by rfl) ?_ hHeld ?_
            rotate_left 1
            · (intro w hSw; subst hSw; go_simp; try with_reducible rfl)
            simp only [Act.put, List.setIfInBounds_toArray, List.set_cons_succ, List.set_cons_zero]
            refine take_yes 18 34 (v := ?_) rfl rfl (by kernel_rfl) (by kernel_rfl) (by kernel_rfl) (fun _ _ _ h => h) (by rfl) ?_ hHeld ?_
            rotate_left 1
            · (intro w hSw; subst hSw; go_simp; try with_reducible rfl)
            simp only [Act.put, List.setIfInBounds_toArray, List.set_cons_succ, List.set_cons_zero]
            refine wpAnyH_ready (rs := [19]) (by kernel_rfl) (by simp) ?_
            refine AllReadyH.cons rfl (fun K hK => ?_) AllReadyH.nil
            go_simp
            refine (containsI_any w2.drew aG cG q0 G HM.out.1 HG2.out).mono ?_
            rintro e _ ⟨rfl, rfl⟩
            go_wp2_with fail
            refine hK.out _ _ rfl (fun hHeld => ?_)
            clear hK K
            refine take_yes 20 36 (v := ?_) rfl rfl (by kernel_rfl) (by kernel_rfl) (by kernel_rfl) (fun _ _ _ h => h) (by rfl) ?_ hHeld ?_
            rotate_left 1
            · (intro w hSw; subst hSw; go_simp; try with_reducible rfl)
            simp only [Act.put, List.setIfInBounds_toArray, List.set_cons_succ, List.set_cons_zero]
            refine wpAnyH_done (by kernel_rfl) ?_ _
            cases hg : hasB q0 G
            · have HF : Hid (hereE G q0 (H.drop (j + 1 + 1)) = hereE G 0 H) := HF0.out hg
              clear HF0 HSb n0 y0 y1 u0
              go_wp2
              go_roundw
              case rel => exact ⟨j + 2, q0, hlt, by go_num, HF.out, by omega, fun i hi e => HL.out i hi (by omega), HB2.out.drew⟩
              case measure => simp [intOf]; omega
            · have HF : Hid (hereE G 0 H = 6) := HSb.out hg
              clear HF0 HSb n0 y0 y1 u0
              go_wp2
              go_ret
              exact ⟨ret_int (by rw [HF.out]), HB.out.trans (HB2.out.drew.mono HB.out.size)⟩
    · have hk' : H.drop k = [] := by simp; omega
      rw [hk'] at hf
      have HF : Hid (hereE G 0 H = 0) := hf.symm
      clear hf hk' hm0 hm1
      go_wp2
      go_ret
      exact ⟨ret_int (by rw [HF.out]), HB.out.trans (hb.mono HB.out.size)⟩
end Go.Proofs.YtijjiccgpobjmaeGreat

/- delta.checkChange, delta.Check. -/
namespace Go.Proofs.YtijjiccgpobjmaeGreat
open Go.ChangeShapes Go.WideShapes Go.ChangeAt Go.RowKit
open Orangery (Pl hasB inRangeB goneE hereE halfE deltaE orI)

set_option maxHeartbeats 2000000 in
set_option maxRecDepth 100000 in
theorem checkChange_any (w : World) (aG aH : Option Addr) (cG cH : Nat) (G : List Int) (H : List Pl) (hG : G.length ≤ maxLen) (hH : H.length ≤ maxLen) (h1 : SlI w aG G) (h2 : SlP w aH H) :
    Calls Tryz.prog 129 #[.agg #[.slice aG G.length cG, .slice aH H.length cH]] w fun e w' => e = .returned (.int .i64 (halfE G H)) ∧ Below w.heap.size w w' := by
  have HM : Hid (G.length ≤ maxLen ∧ H.length ≤ maxLen) := ⟨hG, hH⟩
  obtain ⟨W0, hW, hX, hB, hS⟩ := laid1 w [Value.slice aG G.length cG, Value.slice aH H.length cH] 136
  have hG0 := h1.below hB
  have hH0 := h2.below hB
  have HB : Hid (Below w.heap.size w W0) := hB
  have x0 := hX.at 0 rfl
  have x1 := hX.at 1 rfl
  clear h1 h2 hB hS hG hH
  go_enter Tryz.func129, Tryz.ntmps129
  by_cases hg : 16 < G.length
  · have d1 : decide ((G.length : Int) > 16) = true := by simp; omega
    have HE : Hid (halfE G H = 2) := by show _ = _; unfold halfE; rw [if_pos (Or.inl hg)]
    clear hg
    go_wp2
    go_ret
    exact ⟨ret_int HE.out.symm, HB.out⟩
  · have d1 : decide ((G.length : Int) > 16) = false := by simp; omega
    by_cases hh : 16 < H.length
    · have d2 : decide ((H.length : Int) > 16) = true := by simp; omega
      have HE : Hid (halfE G H = 2) := by show _ = _; unfold halfE; rw [if_pos (Or.inr hh)]
      clear hg hh
      go_wp2
      go_ret
      exact ⟨ret_int HE.out.symm, HB.out⟩
    · have d2 : decide ((H.length : Int) > 16) = false := by simp; omega
      have HE : Hid (halfE G H = orI (goneE 0 G) (hereE G 0 H)) := Orangery.half_or G H (by omega)
      clear hg hh
      have HCG := fun W => checkGone_any W aG cG G HM.out.1
      have HCH := fun W => checkHere_any W aG aH cG cH G H HM.out.1 HM.out.2
      generalize goneE 0 G = E1 at *
      generalize hereE G 0 H = E2 at *
      go_upto_region 3 with fail
      clear hW
      go_region_held3 (fun w' => w'.cell? ⟨w.heap.size, 0, none⟩ = some (.slice aG G.length cG) ∧ w'.cell? ⟨w.heap.size, 1, none⟩ = some (.slice aH H.length cH)) (go_keep)
        (first | (go_at_call 138; refine (HCG _ ?_).mono ?_; exact hG0; rintro e w1 ⟨rfl, rfl⟩) | (go_at_call 139; refine (HCH _ ?_ ?_).mono ?_; exact hG0; exact hH0; rintro e w2 ⟨rfl, hb2⟩; have hb2' : Below W0.heap.size W0 w2 := ((Below.refl _ W0).drew).trans hb2; have hX2 := hX.keep hb2'; have x20 := hX2.at 0 rfl; have x21 := hX2.at 1 rfl) | (go_at_call 26; refine (orE_any _ _ _ E1 E2 ?_ ?_).mono ?_; simp; simp; rintro e w3 ⟨rfl, rfl⟩))
      have HB2 : Hid (Below w.heap.size w (w2.alloc (Obj.cells #[Value.int IntKind.i64 E1, Value.int IntKind.i64 E2] 33))) := (HB.out.trans (hb2'.mono HB.out.size)).alloc (Nat.le_trans HB.out.size hb2'.size) _
      clear x0 x1 x20 x21 hX2 hb2 hb2'
      go_wp2
      go_ret
      exact ⟨ret_int (by rw [HE.out]), HB2.out⟩

theorem run_index_changes (a b c d : Value) (w : World) : (Instr.index 138 (.agg #[a, b, c, d]) (.int .i64 0)).run Tryz.prog w = .ok (.agg #[a, b]) w ∧ (Instr.index 138 (.agg #[a, b, c, d]) (.int .i64 1)).run Tryz.prog w = .ok (.agg #[c, d]) w := by
  have hu := Tryz.underlying138
  have ha := Tryz.isAgg136
  have hz := Tryz.sizeOf136
  unfold Instr.index
  refine ⟨?_, ?_⟩ <;> go_simp <;> simp [asAgg]

set_option maxHeartbeats 2000000 in
set_option maxRecDepth 100000 in
theorem dcheck_any (w : World) (aG aH aX aY : Option Addr) (cG cH cX cY : Nat) (G : List Int) (H : List Pl) (X : List Int) (Y : List Pl)
    (hm : G.length ≤ maxLen ∧ H.length ≤ maxLen ∧ X.length ≤ maxLen ∧ Y.length ≤ maxLen) (h1 : SlI w aG G) (h2 : SlP w aH H) (h3 : SlI w aX X) (h4 : SlP w aY Y) :
    Calls Tryz.prog 109 #[.agg #[.slice aG G.length cG, .slice aH H.length cH, .slice aX X.length cX, .slice aY Y.length cY]] w fun e w' => e = .returned (.int .i64 (deltaE G H X Y)) ∧ Below w.heap.size w w' := by
  have HE : Hid (deltaE G H X Y = orI (halfE G H) (halfE X Y)) := rfl
  obtain ⟨W0, hW, hX, hB, hS⟩ := laid1 w [Value.slice aG G.length cG, Value.slice aH H.length cH, Value.slice aX X.length cX, Value.slice aY Y.length cY] 50
  have y0 := hX.at 0 rfl
  have y1 := hX.at 1 rfl
  have y2 := hX.at 2 rfl
  have y3 := hX.at 3 rfl
  have HB : Hid (Below w.heap.size w W0) := hB
  have HM : Hid (G.length ≤ maxLen ∧ H.length ≤ maxLen ∧ X.length ≤ maxLen ∧ Y.length ≤ maxLen) := hm
  have HP : Hid (SlI W0 aG G ∧ SlP W0 aH H ∧ SlI W0 aX X ∧ SlP W0 aY Y) := ⟨h1.below hB, h2.below hB, h3.below hB, h4.below hB⟩
  clear hX hB hS h1 h2 h3 h4 hm
  go_enter Tryz.func109, Tryz.ntmps109
  go_wp2_with fail
  clear hW y0 y1 y2 y3
  refine (changesOf_any W0 aG aH aX aY G.length H.length X.length Y.length cG cH cX cY).mono ?_
  rintro e w1 ⟨rfl, hb1⟩
  have HC1 : Hid (∀ W, Below w1.heap.size w1 W → Calls Tryz.prog 129 #[.agg #[.slice aG G.length cG, .slice aH H.length cH]] W fun e w' => e = .returned (.int .i64 (halfE G H)) ∧ Below W.heap.size W w') := fun W hb => checkChange_any W aG aH cG cH G H HM.out.1 HM.out.2.1 ((HP.out.1.below hb1).below hb) ((HP.out.2.1.below hb1).below hb)
  have HC2 : Hid (∀ W, Below w1.heap.size w1 W → Calls Tryz.prog 129 #[.agg #[.slice aX X.length cX, .slice aY Y.length cY]] W fun e w' => e = .returned (.int .i64 (halfE X Y)) ∧ Below W.heap.size W w') := fun W hb => checkChange_any W aX aY cX cY X Y HM.out.2.2.1 HM.out.2.2.2 ((HP.out.2.2.1.below hb1).below hb) ((HP.out.2.2.2.below hb1).below hb)
  have HB1 : Hid (Below w.heap.size w w1) := HB.out.trans (hb1.mono HB.out.size)
  have hix := fun W => run_index_changes (.slice aG G.length cG) (.slice aH H.length cH) (.slice aX X.length cX) (.slice aY Y.length cY) W
  generalize halfE G H = E1 at *
  generalize halfE X Y = E2 at *
  clear HB hb1 HM HP
  go_wp2
  go_loopw [8] (fun i W => ∃ k : Nat, k ≤ 2 ∧ i = .int .i64 k ∧ (1 ≤ k → E1 = 0) ∧ (2 ≤ k → E2 = 0) ∧ Below w1.heap.size w1 W) (fun i _ => 2 - (intOf i).toNat)
  case atStart => exact ⟨0, by omega, rfl, by omega, by omega, Below.refl _ _⟩
  case round =>
    obtain ⟨k, hk, rfl, hc1, hc2, hb⟩ := hrel
    have HK1 : Hid (1 ≤ k → E1 = 0) := hc1
    have HK2 : Hid (2 ≤ k → E2 = 0) := hc2
    have hcs : k = 0 ∨ k = 1 ∨ k = 2 := by omega
    clear hc1 hc2
    rcases hcs with rfl | rfl | rfl
    · obtain ⟨W2, hW2, hN, hB2, _⟩ := laid1 wr [Value.slice aG G.length cG, Value.slice aH H.length cH] 136
      have hbn : Below w1.heap.size w1 W2 := hb.trans (hB2.mono hb.size)
      have n0 := hN.at 0 rfl
      have n1 := hN.at 1 rfl
      clear hN hB2 hb
      go_wp2_with fail
      clear hW2 n0 n1
      refine (HC1.out W2 hbn).mono ?_
      rintro e w3 ⟨rfl, hb3⟩
      have HB3 : Hid (Below w1.heap.size w1 w3) := hbn.trans (hb3.mono hbn.size)
      clear hbn hb3
      by_cases hz : E1 = 0
      · subst hz
        go_wp2
        go_roundw
        case rel => exact ⟨1, by omega, by go_num, fun _ => by trivial, by omega, HB3.out⟩
        case measure => simp [intOf]
      · have hz' : (E1 != 0) = true := by simpa using hz
        have HF : Hid (deltaE G H X Y = E1) := by show _ = _; rw [HE.out]; unfold orI; rw [if_pos hz]
        clear hz
        go_wp2
        go_ret
        exact ⟨ret_int HF.out.symm, HB1.out.trans (HB3.out.mono HB1.out.size)⟩
    · have HZ : Hid (E1 = 0) := HK1.out (by omega)
      obtain ⟨W2, hW2, hN, hB2, _⟩ := laid1 wr [Value.slice aX X.length cX, Value.slice aY Y.length cY] 136
      have hbn : Below w1.heap.size w1 W2 := hb.trans (hB2.mono hb.size)
      have n0 := hN.at 0 rfl
      have n1 := hN.at 1 rfl
      clear hN hB2 hb
      go_wp2_with fail
      clear hW2 n0 n1
      refine (HC2.out W2 hbn).mono ?_
      rintro e w3 ⟨rfl, hb3⟩
      have HB3 : Hid (Below w1.heap.size w1 w3) := hbn.trans (hb3.mono hbn.size)
      clear hbn hb3
      by_cases hz : E2 = 0
      · subst hz
        go_wp2
        go_roundw
        case rel => exact ⟨2, by omega, by go_num, fun _ => HZ.out, fun _ => by trivial, HB3.out⟩
        case measure => simp [intOf]
      · have hz' : (E2 != 0) = true := by simpa using hz
        have HF : Hid (deltaE G H X Y = E2) := by show _ = _; rw [HE.out, HZ.out]; rfl
        clear hz
        go_wp2
        go_ret
        exact ⟨ret_int HF.out.symm, HB1.out.trans (HB3.out.mono HB1.out.size)⟩
    · have HF : Hid (deltaE G H X Y = 0) := by show _ = _; rw [HE.out, HK1.out (by omega), HK2.out (by omega)]; rfl
      go_wp2
      go_ret
      exact ⟨ret_int HF.out.symm, HB1.out.trans (hb.mono HB1.out.size)⟩
end Go.Proofs.YtijjiccgpobjmaeGreat

/- delta.between: what goes, what is here, each in new memory. -/
namespace Go.Proofs.YtijjiccgpobjmaeGreat
open Go.ChangeShapes Go.WideShapes Go.ChangeAt Go.RowKit
open Orangery (Pl hasN goneP hereP)

/-- a slice of ints and one of places, both of the call's own -/
def Pair (W : World) (base : Nat) (u v : Value) (G : List Int) (H : List Pl) : Prop := OwnI W base u G ∧ OwnE encPl 3 47 W base v H
theorem row_type {W : World} {base k n : Nat} {e : TypeId} {v : Value} {cs : List Value} (h : W.ownsRow base e k v n cs) : ∀ g, v.ownBlock = some g → ∃ cur, W.heap[g]? = some (.cells cur e) := by
  intro g hg
  rcases h.2 with ⟨rfl, _⟩ | ⟨b, cap, cur, rfl, _, hh, _⟩
  · simp [Value.ownBlock] at hg
  · simp [Value.ownBlock] at hg
    subst hg
    exact ⟨cur, hh⟩
theorem Pair.ne {W : World} {base : Nat} {u v : Value} {G : List Int} {H : List Pl} (h : Pair W base u v G H) : ∀ g, u.ownBlock = some g → ¬ v.ownBlock = some g := by
  intro g h1 h2
  obtain ⟨c1, e1⟩ := row_type h.1 g h1
  obtain ⟨c2, e2⟩ := row_type (OwnE.row h.2) g h2
  rw [e1] at e2
  simp at e2
theorem Pair.nil (W : World) (base : Nat) : Pair W base (.slice none 0 0) (.slice none 0 0) [] [] := ⟨⟨by simp, Or.inl ⟨rfl, rfl⟩⟩, OwnE.nil _ _⟩
theorem Pair.keep {W W' : World} {base : Nat} {u v : Value} {G : List Int} {H : List Pl} (h : Pair W base u v G H) (hb : Below W.heap.size W W') : Pair W' base u v G H := ⟨h.1.keep hb, h.2.keep hb⟩
theorem Pair.other {W : World} {base : Nat} {u v : Value} {G : List Int} {H : List Pl} (h : Pair W base u v G H) (g : Nat) (hg : g < base) (j : Nat) (x : Value) : Pair (W.setCell ⟨g, j, none⟩ x) base u v G H := ⟨h.1.other g hg j x, h.2.other g hg j x⟩
theorem Pair.others {base : Nat} {u v : Value} {G : List Int} {H : List Pl} (g : Nat) (hg : g < base) (us : List Value) (o : Nat) (W : World) (h : Pair W base u v G H) : Pair (W.setCells g o us) base u v G H := ⟨OwnI.others g hg us o W h.1, OwnE.others g hg us o W h.2⟩
theorem Pair.mono {W : World} {base base' : Nat} {u v : Value} {G : List Int} {H : List Pl} (h : Pair W base u v G H) (hb : base' ≤ base) : Pair W base' u v G H := by
  refine ⟨⟨h.1.1, ?_⟩, h.2.mono hb⟩
  rcases h.1.2 with h2 | ⟨g, cap, cur, e2, hg, r⟩
  · exact Or.inl h2
  · exact Or.inr ⟨g, cap, cur, e2, by omega, r⟩
theorem Pair.growI {W W' : World} {base : Nat} {u v u' : Value} {G G' : List Int} {H : List Pl} (h : Pair W base u v G H) (hown : OwnI W' base u' G') (hg : W.grownBy W' u.ownBlock) : Pair W' base u' v G' H := by
  refine ⟨hown, World.ownsRow.kept h.2 hg ?_⟩
  cases hv : v.ownBlock with
  | none => exact Or.inl rfl
  | some g => exact Or.inr (fun e => h.ne g e.symm hv)
theorem Pair.growP {W W' : World} {base : Nat} {u v v' : Value} {G : List Int} {H H' : List Pl} (h : Pair W base u v G H) (hown : OwnE encPl 3 47 W' base v' H') (hg : W.grownBy W' v.ownBlock) : Pair W' base u v' G H' := by
  refine ⟨World.ownsRow.kept h.1 hg ?_, hown⟩
  cases hu : u.ownBlock with
  | none => exact Or.inl rfl
  | some g => exact Or.inr (fun e => h.ne g hu e.symm)
theorem Pair.lo {W : World} {base : Nat} {u v : Value} {G : List Int} {H : List Pl} (h : Pair W base u v G H) : (∀ g, u.ownBlock = some g → base ≤ g) ∧ (∀ g, v.ownBlock = some g → base ≤ g) :=
  ⟨fun g hg => (World.ownsRow.lt h.1 g hg).1, fun g hg => (World.ownsRow.lt (OwnE.row h.2) g hg).1⟩
theorem int_one (x : Int) : ∀ v ∈ [Value.int IntKind.i64 x], v.oneCell' = true := by
  intro v hv
  simp at hv
  subst hv
  rfl
theorem gone_len {a b : List Pl} (h : a.length ≤ 1000) : (goneP a b).length ≤ 1000 := by unfold goneP; rw [List.length_map]; exact Nat.le_trans (List.length_filter_le _ _) h
theorem here_len {a b : List Pl} (h : b.length ≤ 1000) : (hereP a b).length ≤ 1000 := Nat.le_trans (List.length_filter_le _ _) h

end Go.Proofs.YtijjiccgpobjmaeGreat

