/- ViewAgain returns true for every tree and every list of roots: a view of a view is the same, it is one, what is known and what is the way are apart, and who is known has all their kids known. No condition. -/
import Derived.Deep.Slices
import Derived.Deep.Strs
import Derived.ChangeOld
import Derived.SizedLaws
import Derived.Test.YtdkncnfcgcfopabP07
import Derived.Test.YtdkncnfcgcfopabP08
import Derived.Test.YtdkncnfcgcfopabP01
import Derived.Test.YtdkncnfcgcfopabP03
import Derived.Test.YtdkncnfcgcfopabP05
/- orangerylaw.ViewAgain: the walk. -/
namespace Go.Proofs.Ytdkncnfcgcfopab
open Go.ChangeShapes Go.WideShapes Go.ChangeAt Go.RowKit
open Orangery (Pl check find rootsOk ofE ofR ofK ofW viewK viewW viewA viewE sameV hasB isNodeB)

theorem again2_any (w : World) (q : Pl) (b : Nat) (x y z : Int) (h : Blk w b [.int .i64 x, .int .i64 y, .int .i64 z]) :
    Calls Try.prog 33 #[plV q, .pointer (some ⟨b, 0, none⟩)] w fun e w' => e = .returned (.bool (q.1 == y)) ∧ Below w.heap.size w w' := by
  obtain ⟨q0, q1, q2⟩ := q
  obtain ⟨W0, hW, hN, hB, hS⟩ := laid1 w [Value.int IntKind.i64 q0, Value.int IntKind.i64 q1, Value.int IntKind.i64 q2] 45
  have n0 := hN.at 0 rfl
  have m1 := (h.keep hB).at 1 rfl
  clear hN h hS
  go_enter Try.func33, Try.ntmps33
  go_wp2
  go_ret
  exact ⟨rfl, hB⟩

theorem mem_small {l : List Pl} (h : check l = 0) {p : Pl} (hp : p ∈ l) : 0 ≤ p.1 ∧ p.1 ≤ 1000 := by
  have := (Orangery.inRangeB_iff p).1 (Orangery.scan_range l 0 (Orangery.check_scan l h) p hp).1
  omega
theorem parts_small (l : List Pl) (R : List Int) (h : check l = 0) : ∀ p ∈ viewK l R ++ viewW l R, 0 ≤ p.1 ∧ p.1 ≤ 1000 := by
  intro p hp
  rcases List.mem_append.1 hp with hp | hp
  · exact mem_small h (List.mem_filter.1 hp).1
  · exact mem_small h (List.mem_filter.1 hp).1
theorem sameV_selfA (R : List Int) (K V : List Pl) : sameV R R K K V V = true := by simp [sameV]

set_option maxHeartbeats 4000000 in
set_option maxRecDepth 100000 in
theorem viewAgain_any (w : World) (a : Option Addr) (c : Nat) (l : List Pl) (a' : Option Addr) (c' : Nat) (R : List Int)
    (hl : l.length ≤ maxLen) (h : SlP w a l) (hR : R.length ≤ maxLen) (h' : SlI w a' R) :
    Calls Try.prog 7 #[.agg #[.slice a l.length c], .slice a' R.length c'] w
      fun e w' => e = .returned (.bool true) ∧ Below w.heap.size w w' := by
  obtain ⟨W0, hW, BT, hb0, hS0⟩ := laid1 w [Value.slice a l.length c] 26
  have HB0 : Hid (Below w.heap.size w W0) := hb0
  have PT0 := h.below hb0
  have PI0 := h'.below hb0
  have t0 := BT.at 0 rfl
  clear h h' hb0 hS0
  go_enter Try.func7, Try.ntmps7
  go_wp2_with fail
  clear hW t0
  refine (of_any W0 a a' c c' l R hl hR PT0 PI0).mono ?_
  rintro e w1 ⟨fR, fK, fV, gR, gK, gV, rfl, ⟨z1, z2⟩, _, q1, q2, q3, hb⟩
  obtain ⟨WX, hWX, BX, hbx, hSX⟩ := laid1 w1 [Value.slice fR (ofR l R).length gR, Value.slice fK (ofK l R).length gK, Value.slice fV (ofW l R).length gV] 55
  have hbX : Below W0.heap.size W0 WX := hb.trans (hbx.mono hb.size)
  have BT1 := BT.keep hbX
  have PT1 := PT0.below hbX
  have PI1 := PI0.below hbX
  have QR := q1.below hbx
  have QK := q2.below hbx
  have QV := q3.below hbx
  have HBX : Hid (Below w.heap.size w WX) := HB0.out.trans (hbX.mono HB0.out.size)
  clear BT PT0 PI0 q1 q2 q3 hb hbx hbX HB0 hSX
  go_wp2_with fail
  clear hWX
  refine (seen_any WX).mono ?_
  rintro e w2 ⟨rfl, hb⟩
  have BT2 := BT1.keep hb
  have BX2 := BX.keep hb
  have PT2 := PT1.below hb
  have PI2 := PI1.below hb
  have QR2 := QR.below hb
  have QK2 := QK.below hb
  have QV2 := QV.below hb
  have HB2 : Hid (Below w.heap.size w w2) := HBX.out.trans (hb.mono HBX.out.size)
  clear BT1 BX PT1 PI1 QR QK QV hb HBX
  by_cases hz : ofE l R = 0
  · obtain ⟨e1, e2, e3⟩ := Orangery.of_ok hz
    rw [e1, e2, e3] at BX2
    rw [e1] at QR2
    rw [e2] at QK2
    rw [e3] at QV2
    rw [hz]
    obtain ⟨hck, hro⟩ := Orangery.ofE_zero hz
    have hll := Orangery.check_len l hck
    have hRl := Orangery.rootsOk_len hro
    have HV0 : Hid (viewE R (viewK l R) (viewW l R) = 0) := Orangery.view_ok l R hz
    have HSM : Hid (∀ p ∈ viewK l R ++ viewW l R, 0 ≤ p.1 ∧ p.1 ≤ 1000) := parts_small l R hck
    have HAB : Hid (∀ l', l'.Perm (viewK l R ++ viewW l R) → (l'.Pairwise fun p q => p.1 ≤ q.1) → l' = viewA l R) := fun l' h1 h2 => Orangery.again_both l R hck l' h1 h2
    have HAO : Hid (ofE (viewA l R) R = 0 ∧ ofR (viewA l R) R = R ∧ ofK (viewA l R) R = viewK l R ∧ ofW (viewA l R) R = viewW l R) := Orangery.again_of l R hz
    have HAF : Hid (∀ p ∈ viewA l R, find l p.1 = p) := fun p hp => Orangery.again_find l R hck p hp
    have HAN : Hid (∀ i j, (hi : i < (viewA l R).length) → (hj : j < (viewA l R).length) → i < j → (viewA l R)[i].1 < (viewA l R)[j].1) := fun i j hi hj hij => Orangery.again_next l R hck i j hi hj hij
    have HAK : Hid (∀ p ∈ l, (viewK l R).any (fun q => q.1 == p.2.1) = true ∨ hasB p.2.1 R = true → p ∈ viewK l R) := fun p hp hu => Orangery.again_kids l R hck (Orangery.rootsOk_node hro) p hp hu
    have hK0 : (viewK l R).length ≤ 15 := Nat.le_trans (List.length_filter_le _ _) hll
    have hV0 : (viewW l R).length ≤ 15 := Nat.le_trans (List.length_filter_le _ _) hll
    have hA0 : (viewA l R).length ≤ 15 := Nat.le_trans (List.length_filter_le _ _) hll
    generalize viewK l R = K at *
    generalize viewW l R = V at *
    generalize viewA l R = A at *
    clear hz hck hro e1 e2 e3
    have hKm : K.length ≤ maxLen := by unfold maxLen; omega
    have hVm : V.length ≤ maxLen := by unfold maxLen; omega
    have x0 := BX2.at 0 rfl
    have x1 := BX2.at 1 rfl
    have x2 := BX2.at 2 rfl
    go_wp2_with fail
    clear x0 x1 x2
    refine (vcheck_any w2 fR fK fV gR gK gV R K V hR hKm hVm z2 QR2 QK2 QV2).mono ?_
    rintro e w3 ⟨rfl, hb⟩
    rw [HV0.out]
    have BT3 := BT2.keep hb
    have BX3 := BX2.keep hb
    have PT3 := PT2.below hb
    have PI3 := PI2.below hb
    have QR3 := QR2.below hb
    have QK3 := QK2.below hb
    have QV3 := QV2.below hb
    have HB3 : Hid (Below w.heap.size w w3) := HB2.out.trans (hb.mono HB2.out.size)
    clear BT2 BX2 PT2 PI2 QR2 QK2 QV2 HB2 hb HV0
    obtain ⟨W4, hW4, BQ, hb, hS4⟩ := laid1 w3 [Value.slice fK K.length gK, Value.slice fV V.length gV] 24
    have x1 := BX3.at 1 rfl
    have x2 := BX3.at 2 rfl
    go_wp2_with fail
    clear hW4 x1 x2
    refine (concatPls_any W4 w3.heap.size fK fV gK gV K V (by omega) (by omega) z1 z2 (BQ.at 0 rfl) (BQ.at 1 rfl) (QK3.below hb) (QV3.below hb)).mono ?_
    rintro e w4 ⟨v4, rfl, hO4, hb4⟩
    have hb34 : Below w3.heap.size w3 w4 := hb.trans (hb4.mono hb.size)
    have hsz4 : W4.heap.size ≤ w4.heap.size := hb4.size
    have hlt4 : w3.heap.size ≤ W4.heap.size := hb.size
    have hJl : (K ++ V).length ≤ 1000 := by simp; omega
    have HB34 : Hid (Below w3.heap.size w3 w4) := hb34
    clear hb hb4 hb34 BQ hS4
    generalize K ++ V = J at *
    go_wp2_with fail
    refine (sort_diff w4 W4.heap.size v4 J hJl hsz4 HSM.out hO4).mono ?_
    rintro e w5 ⟨rfl, B, hpm, hps, hO5, hb5⟩
    obtain rfl := HAB.out B hpm hps
    clear hpm hps HAB HSM hO4 hJl
    obtain ⟨a4, c4, rfl, _⟩ := hO5.val
    have PA5 := hO5.reads.1
    have hb35 : Below w3.heap.size w3 w5 := HB34.out.trans (hb5.mono hlt4)
    have BT5 := BT3.keep hb35
    have BX5 := BX3.keep hb35
    have PT5 := PT3.below hb35
    have PI5 := PI3.below hb35
    have QR5 := QR3.below hb35
    have QK5 := QK3.below hb35
    have QV5 := QV3.below hb35
    have HB5 : Hid (Below w.heap.size w w5) := HB3.out.trans (hb35.mono HB3.out.size)
    clear BT3 BX3 PT3 PI3 QR3 QK3 QV3 HB3 HB34 hb35 hb5 hO5 hsz4 hlt4
    have hB0' : B.length ≤ maxLen := by unfold maxLen; omega
    go_wp2
    go_loopw [40] (fun i W => ∃ k : Nat, k ≤ B.length ∧ i = .int .i64 k ∧ Below w5.heap.size w5 W) (fun i _ => B.length - (intOf i).toNat)
    case atStart => exact ⟨0, Nat.zero_le _, rfl, Below.refl _ _⟩
    case round =>
      obtain ⟨k, hk, rfl, hb⟩ := hrel
      by_cases hlt : k < B.length
      · have hPr := PA5.below hb
        rcases hPr with h9 | ⟨b, off, rfl, hbl, hp⟩
        · exact absurd hlt (by simp [h9])
        obtain ⟨g0, g1, g2⟩ := hp k hlt
        have HFD : Hid (find l B[k].1 = B[k]) := HAF.out _ (List.getElem_mem hlt)
        have HPV : Hid (∀ j, (hj : j < B.length) → j < k → B[j].1 < B[k].1) := fun j hj hjk => HAN.out j k hj hlt hjk
        generalize B[k] = q at *
        obtain ⟨q0, q1, q2⟩ := q
        simp only at g0 g1 g2 HFD HPV
        obtain ⟨W5, hW5, hN, hBn, hS5⟩ := laid1 wr [Value.int IntKind.i64 q0, Value.int IntKind.i64 q1, Value.int IntKind.i64 q2] 45
        have n0 := hN.at 0 rfl
        have n1 := hN.at 1 rfl
        have n2 := hN.at 2 rfl
        have HT6 : Hid (Blk W5 w.heap.size [Value.slice a l.length c]) := (BT5.keep hb).keep hBn
        have HN6 : Hid (Blk W5 wr.heap.size [Value.int IntKind.i64 q0, Value.int IntKind.i64 q1, Value.int IntKind.i64 q2]) := hN
        have t0 := HT6.out.at 0 rfl
        have HP6 : Hid (SlP W5 a l) := (PT5.below hb).below hBn
        have HB6 : Hid (Below w5.heap.size w5 W5) := hb.trans (hBn.mono hb.size)
        have HFN : Hid (∀ W, SlP W a l → Calls Try.prog 17 #[.agg #[.slice a l.length c], .int .i64 q0] W fun e w' => e = .returned (plV (q0, q1, q2)) ∧ Below W.heap.size W w') := by
          intro W hW
          have := find_any W a c l q0 hl hW
          rw [HFD.out] at this
          exact this
        have hnn := run_neq_pl q0 q1 q2 q0 q1 q2
        have hself : eqPl (q0, q1, q2) (q0, q1, q2) = true := by simp [eqPl]
        rw [hself] at hnn
        have hgd := guard_pl
        have hbl5 : b < W5.heap.size := Nat.lt_of_lt_of_le hbl hBn.size
        by_cases hk0 : k = 0
        · have d0 : decide ((k : Int) > 0) = false := by simp <;> omega
          have d0' : ¬ 0 < k := by omega
          clear hS5 hN hBn hb hp hk0
          go_upto_region 11 with fail
          clear hW5 g0 g1 g2 n0 n1 n2 t0
          refine wp_region_held_drew (S := fun w' => Below W5.heap.size W5 w') (by kernel_rfl) ((Below.refl _ W5).drew) (fun hHeld => ?_)
          refine take_yes 0 45 (v := ?_) rfl rfl (by kernel_rfl) (by kernel_rfl) (by kernel_rfl) (fun _ _ _ h => h) (by rfl) ?_ hHeld ?_
          rotate_left 1
          · (intro w hSw; go_simp; try with_reducible rfl)
          simp only [Act.put, List.setIfInBounds_toArray, List.set_cons_succ, List.set_cons_zero]
          refine take_yes 1 46 (v := ?_) rfl rfl (by kernel_rfl) (by kernel_rfl) (by kernel_rfl) (fun _ _ _ h => h) (by rfl) ?_ hHeld ?_
          rotate_left 1
          · (intro w hSw; go_simp; try with_reducible rfl)
          simp only [Act.put, List.setIfInBounds_toArray, List.set_cons_succ, List.set_cons_zero]
          refine take_yes 2 47 (v := ?_) rfl rfl (by kernel_rfl) (by kernel_rfl) (by kernel_rfl) (fun _ _ _ h => h) (by rfl) ?_ hHeld ?_
          rotate_left 1
          · (intro w hSw; go_simp; try with_reducible rfl)
          simp only [Act.put, List.setIfInBounds_toArray, List.set_cons_succ, List.set_cons_zero]
          refine take_no 3 48 rfl rfl (by kernel_rfl) (by kernel_rfl) (by kernel_rfl) (fun _ _ _ h => h) (by rfl) hHeld ?_
          simp only [Act.put, List.setIfInBounds_toArray, List.set_cons_succ, List.set_cons_zero]
          refine take_no 4 49 rfl rfl (by kernel_rfl) (by kernel_rfl) (by kernel_rfl) (fun _ _ _ h => h) (by rfl) hHeld ?_
          simp only [Act.put, List.setIfInBounds_toArray, List.set_cons_succ, List.set_cons_zero]
          refine take_no 5 50 rfl rfl (by kernel_rfl) (by kernel_rfl) (by kernel_rfl) (fun _ _ _ h => h) (by rfl) hHeld ?_
          simp only [Act.put, List.setIfInBounds_toArray, List.set_cons_succ, List.set_cons_zero]
          refine take_no 6 51 rfl rfl (by kernel_rfl) (by kernel_rfl) (by kernel_rfl) (fun _ _ _ h => h) (by rfl) hHeld ?_
          simp only [Act.put, List.setIfInBounds_toArray, List.set_cons_succ, List.set_cons_zero]
          refine take_no 7 52 rfl rfl (by kernel_rfl) (by kernel_rfl) (by kernel_rfl) (fun _ _ _ h => h) (by rfl) hHeld ?_
          simp only [Act.put, List.setIfInBounds_toArray, List.set_cons_succ, List.set_cons_zero]
          refine take_no 8 53 rfl rfl (by kernel_rfl) (by kernel_rfl) (by kernel_rfl) (fun _ _ _ h => h) (by rfl) hHeld ?_
          simp only [Act.put, List.setIfInBounds_toArray, List.set_cons_succ, List.set_cons_zero]
          refine take_no 9 54 rfl rfl (by kernel_rfl) (by kernel_rfl) (by kernel_rfl) (fun _ _ _ h => h) (by rfl) hHeld ?_
          simp only [Act.put, List.setIfInBounds_toArray, List.set_cons_succ, List.set_cons_zero]
          refine take_no 10 55 rfl rfl (by kernel_rfl) (by kernel_rfl) (by kernel_rfl) (fun _ _ _ h => h) (by rfl) hHeld ?_
          simp only [Act.put, List.setIfInBounds_toArray, List.set_cons_succ, List.set_cons_zero]
          refine take_no 11 56 rfl rfl (by kernel_rfl) (by kernel_rfl) (by kernel_rfl) (fun _ _ _ h => h) (by rfl) hHeld ?_
          simp only [Act.put, List.setIfInBounds_toArray, List.set_cons_succ, List.set_cons_zero]
          refine take_yes 12 57 (v := ?_) rfl rfl (by kernel_rfl) (by kernel_rfl) (by kernel_rfl) (fun _ _ _ h => h) (by rfl) ?_ hHeld ?_
          rotate_left 1
          · (intro w hSw; go_simp; try with_reducible rfl)
          simp only [Act.put, List.setIfInBounds_toArray, List.set_cons_succ, List.set_cons_zero]
          refine take_yes 13 58 (v := ?_) rfl rfl (by kernel_rfl) (by kernel_rfl) (by kernel_rfl) (fun _ _ _ h => h) (by rfl) ?_ hHeld ?_
          rotate_left 1
          · (intro w hSw; go_simp; try with_reducible rfl)
          simp only [Act.put, List.setIfInBounds_toArray, List.set_cons_succ, List.set_cons_zero]
          refine take_yes 14 59 (v := ?_) rfl rfl (by kernel_rfl) (by kernel_rfl) (by kernel_rfl) (fun _ _ _ h => h) (by rfl) ?_ hHeld ?_
          rotate_left 1
          · (intro w hSw; have cc := (HT6.out.keep hSw).at 0 rfl; go_simp; try with_reducible rfl)
          simp only [Act.put, List.setIfInBounds_toArray, List.set_cons_succ, List.set_cons_zero]
          refine take_yes 15 60 (v := ?_) rfl rfl (by kernel_rfl) (by kernel_rfl) (by kernel_rfl) (fun _ _ _ h => h) (by rfl) ?_ hHeld ?_
          rotate_left 1
          · (intro w hSw; go_simp; try with_reducible rfl)
          simp only [Act.put, List.setIfInBounds_toArray, List.set_cons_succ, List.set_cons_zero]
          refine take_yes 16 61 (v := ?_) rfl rfl (by kernel_rfl) (by kernel_rfl) (by kernel_rfl) (fun _ _ _ h => h) (by rfl) ?_ hHeld ?_
          rotate_left 1
          · (intro w hSw; have cc := (HN6.out.keep hSw).at 0 rfl; go_simp; try with_reducible rfl)
          simp only [Act.put, List.setIfInBounds_toArray, List.set_cons_succ, List.set_cons_zero]
          refine take_yes 18 63 (v := ?_) rfl rfl (by kernel_rfl) (by kernel_rfl) (by kernel_rfl) (fun _ _ _ h => h) (by rfl) ?_ hHeld ?_
          rotate_left 1
          · (intro w hSw; have cc := (HN6.out.keep hSw).at 0 rfl; have cd := (HN6.out.keep hSw).at 1 rfl; have ce := (HN6.out.keep hSw).at 2 rfl; go_simp; try with_reducible rfl)
          simp only [Act.put, List.setIfInBounds_toArray, List.set_cons_succ, List.set_cons_zero]
          refine wpAnyH_ready (rs := [17]) (by kernel_rfl) (by simp) ?_
          refine AllReadyH.cons rfl (fun K hK => ?_) AllReadyH.nil
          go_simp
          refine (HFN.out _ (HP6.out.below hHeld)).mono ?_
          rintro e w6 ⟨rfl, hb6⟩
          have hS6 : Below W5.heap.size W5 w6 := hHeld.trans (hb6.mono hHeld.size)
          go_wp2_with fail
          refine hK.out _ _ hS6 (fun hHeld => ?_)
          clear hK K
          refine take_yes 19 64 (v := ?_) rfl rfl (by kernel_rfl) (by kernel_rfl) (by kernel_rfl) (fun _ _ _ h => h) (by rfl) ?_ hHeld ?_
          rotate_left 1
          · (intro w hSw; go_simp; try with_reducible rfl)
          simp only [Act.put, List.setIfInBounds_toArray, List.set_cons_succ, List.set_cons_zero]
          refine take_yes 20 65 (v := ?_) rfl rfl (by kernel_rfl) (by kernel_rfl) (by kernel_rfl) (fun _ _ _ h => h) (by rfl) ?_ hHeld ?_
          rotate_left 1
          · (intro w hSw; go_simp; try with_reducible rfl)
          simp only [Act.put, List.setIfInBounds_toArray, List.set_cons_succ, List.set_cons_zero]
          refine wpAnyH_done (by kernel_rfl) ?_ _
          have HB7 : Hid (Below w5.heap.size w5 w6) := HB6.out.trans (hS6.mono HB6.out.size)
          clear hS6 hb6 hHeld
          go_wp2
          go_roundw
          case rel => exact ⟨k + 1, hlt, by go_num, HB7.out⟩
          case measure => simp [intOf]; omega
        · obtain ⟨j, hkj0⟩ : ∃ j : Nat, j + 1 = k := ⟨k - 1, by omega⟩
          have d0 : decide ((k : Int) > 0) = true := by simp <;> omega
          have d0' : 0 < k := by omega
          have hkj : (k : Int) - 1 = (j : Int) := by omega
          have hwj : IntKind.i64.wrap (j : Int) = (j : Int) := by rw [IntKind.wrap_i64]; omega
          have hjl : j < B.length := by omega
          have cj0 := (hp j hjl).1
          have HLT : Hid (B[j].1 < q0) := HPV.out j hjl (by omega)
          generalize B[j] = r at *
          obtain ⟨r0, r1, r2⟩ := r
          simp only at cj0 HLT
          have HCJ : Hid (∀ w', Below W5.heap.size W5 w' → w'.cell? ⟨b, off + j * 3, none⟩ = some (.int .i64 r0)) := fun w' h => by rw [h.cell (by exact hbl5), hBn.cell (by exact hbl)]; exact cj0
          have hne : (r0 == q0) = false := by have := HLT.out; simp; omega
          clear hS5 hN hBn hb hp cj0 hk0 hkj0
          go_upto_region 11 with fail
          clear hW5 g0 g1 g2 n0 n1 n2 t0
          refine wp_region_held_drew (S := fun w' => Below W5.heap.size W5 w') (by kernel_rfl) ((Below.refl _ W5).drew) (fun hHeld => ?_)
          refine take_yes 0 45 (v := ?_) rfl rfl (by kernel_rfl) (by kernel_rfl) (by kernel_rfl) (fun _ _ _ h => h) (by rfl) ?_ hHeld ?_
          rotate_left 1
          · (intro w hSw; go_simp; try with_reducible rfl)
          simp only [Act.put, List.setIfInBounds_toArray, List.set_cons_succ, List.set_cons_zero]
          refine take_yes 1 46 (v := ?_) rfl rfl (by kernel_rfl) (by kernel_rfl) (by kernel_rfl) (fun _ _ _ h => h) (by rfl) ?_ hHeld ?_
          rotate_left 1
          · (intro w hSw; go_simp; try with_reducible rfl)
          simp only [Act.put, List.setIfInBounds_toArray, List.set_cons_succ, List.set_cons_zero]
          refine take_yes 2 47 (v := ?_) rfl rfl (by kernel_rfl) (by kernel_rfl) (by kernel_rfl) (fun _ _ _ h => h) (by rfl) ?_ hHeld ?_
          rotate_left 1
          · (intro w hSw; go_simp; try with_reducible rfl)
          simp only [Act.put, List.setIfInBounds_toArray, List.set_cons_succ, List.set_cons_zero]
          refine take_yes 3 48 (v := ?_) rfl rfl (by kernel_rfl) (by kernel_rfl) (by kernel_rfl) (fun _ _ _ h => h) (by rfl) ?_ hHeld ?_
          rotate_left 1
          · (intro w hSw; go_simp; try with_reducible rfl)
          simp only [Act.put, List.setIfInBounds_toArray, List.set_cons_succ, List.set_cons_zero]
          refine take_yes 4 49 (v := ?_) rfl rfl (by kernel_rfl) (by kernel_rfl) (by kernel_rfl) (fun _ _ _ h => h) (by rfl) ?_ hHeld ?_
          rotate_left 1
          · (intro w hSw; go_simp; try with_reducible rfl)
          simp only [Act.put, List.setIfInBounds_toArray, List.set_cons_succ, List.set_cons_zero]
          refine take_yes 5 50 (v := ?_) rfl rfl (by kernel_rfl) (by kernel_rfl) (by kernel_rfl) (fun _ _ _ h => h) (by rfl) ?_ hHeld ?_
          rotate_left 1
          · (intro w hSw; go_simp; try with_reducible rfl)
          simp only [Act.put, List.setIfInBounds_toArray, List.set_cons_succ, List.set_cons_zero]
          refine take_yes 6 51 (v := ?_) rfl rfl (by kernel_rfl) (by kernel_rfl) (by kernel_rfl) (fun _ _ _ h => h) (by rfl) ?_ hHeld ?_
          rotate_left 1
          · (intro w hSw; go_simp; try with_reducible rfl)
          simp only [Act.put, List.setIfInBounds_toArray, List.set_cons_succ, List.set_cons_zero]
          refine take_yes 7 52 (v := ?_) rfl rfl (by kernel_rfl) (by kernel_rfl) (by kernel_rfl) (fun _ _ _ h => h) (by rfl) ?_ hHeld ?_
          rotate_left 1
          · (intro w hSw; go_simp; try with_reducible rfl)
          simp only [Act.put, List.setIfInBounds_toArray, List.set_cons_succ, List.set_cons_zero]
          refine take_yes 8 53 (v := ?_) rfl rfl (by kernel_rfl) (by kernel_rfl) (by kernel_rfl) (fun _ _ _ h => h) (by rfl) ?_ hHeld ?_
          rotate_left 1
          · (intro w hSw; have cc := HCJ.out w hSw; go_simp; try with_reducible rfl)
          simp only [Act.put, List.setIfInBounds_toArray, List.set_cons_succ, List.set_cons_zero]
          refine take_yes 9 54 (v := ?_) rfl rfl (by kernel_rfl) (by kernel_rfl) (by kernel_rfl) (fun _ _ _ h => h) (by rfl) ?_ hHeld ?_
          rotate_left 1
          · (intro w hSw; go_simp; try with_reducible rfl)
          simp only [Act.put, List.setIfInBounds_toArray, List.set_cons_succ, List.set_cons_zero]
          refine take_yes 10 55 (v := ?_) rfl rfl (by kernel_rfl) (by kernel_rfl) (by kernel_rfl) (fun _ _ _ h => h) (by rfl) ?_ hHeld ?_
          rotate_left 1
          · (intro w hSw; have cc := (HN6.out.keep hSw).at 0 rfl; go_simp; try with_reducible rfl)
          simp only [Act.put, List.setIfInBounds_toArray, List.set_cons_succ, List.set_cons_zero]
          refine take_yes 11 56 (v := ?_) rfl rfl (by kernel_rfl) (by kernel_rfl) (by kernel_rfl) (fun _ _ _ h => h) (by rfl) ?_ hHeld ?_
          rotate_left 1
          · (intro w hSw; go_simp; try with_reducible rfl)
          simp only [Act.put, List.setIfInBounds_toArray, List.set_cons_succ, List.set_cons_zero]
          refine take_yes 12 57 (v := ?_) rfl rfl (by kernel_rfl) (by kernel_rfl) (by kernel_rfl) (fun _ _ _ h => h) (by rfl) ?_ hHeld ?_
          rotate_left 1
          · (intro w hSw; go_simp; try with_reducible rfl)
          simp only [Act.put, List.setIfInBounds_toArray, List.set_cons_succ, List.set_cons_zero]
          refine take_yes 13 58 (v := ?_) rfl rfl (by kernel_rfl) (by kernel_rfl) (by kernel_rfl) (fun _ _ _ h => h) (by rfl) ?_ hHeld ?_
          rotate_left 1
          · (intro w hSw; go_simp; try with_reducible rfl)
          simp only [Act.put, List.setIfInBounds_toArray, List.set_cons_succ, List.set_cons_zero]
          refine take_yes 14 59 (v := ?_) rfl rfl (by kernel_rfl) (by kernel_rfl) (by kernel_rfl) (fun _ _ _ h => h) (by rfl) ?_ hHeld ?_
          rotate_left 1
          · (intro w hSw; have cc := (HT6.out.keep hSw).at 0 rfl; go_simp; try with_reducible rfl)
          simp only [Act.put, List.setIfInBounds_toArray, List.set_cons_succ, List.set_cons_zero]
          refine take_yes 15 60 (v := ?_) rfl rfl (by kernel_rfl) (by kernel_rfl) (by kernel_rfl) (fun _ _ _ h => h) (by rfl) ?_ hHeld ?_
          rotate_left 1
          · (intro w hSw; go_simp; try with_reducible rfl)
          simp only [Act.put, List.setIfInBounds_toArray, List.set_cons_succ, List.set_cons_zero]
          refine take_yes 16 61 (v := ?_) rfl rfl (by kernel_rfl) (by kernel_rfl) (by kernel_rfl) (fun _ _ _ h => h) (by rfl) ?_ hHeld ?_
          rotate_left 1
          · (intro w hSw; have cc := (HN6.out.keep hSw).at 0 rfl; go_simp; try with_reducible rfl)
          simp only [Act.put, List.setIfInBounds_toArray, List.set_cons_succ, List.set_cons_zero]
          refine take_yes 18 63 (v := ?_) rfl rfl (by kernel_rfl) (by kernel_rfl) (by kernel_rfl) (fun _ _ _ h => h) (by rfl) ?_ hHeld ?_
          rotate_left 1
          · (intro w hSw; have cc := (HN6.out.keep hSw).at 0 rfl; have cd := (HN6.out.keep hSw).at 1 rfl; have ce := (HN6.out.keep hSw).at 2 rfl; go_simp; try with_reducible rfl)
          simp only [Act.put, List.setIfInBounds_toArray, List.set_cons_succ, List.set_cons_zero]
          refine wpAnyH_ready (rs := [17]) (by kernel_rfl) (by simp) ?_
          refine AllReadyH.cons rfl (fun K hK => ?_) AllReadyH.nil
          go_simp
          refine (HFN.out _ (HP6.out.below hHeld)).mono ?_
          rintro e w6 ⟨rfl, hb6⟩
          have hS6 : Below W5.heap.size W5 w6 := hHeld.trans (hb6.mono hHeld.size)
          go_wp2_with fail
          refine hK.out _ _ hS6 (fun hHeld => ?_)
          clear hK K
          refine take_yes 19 64 (v := ?_) rfl rfl (by kernel_rfl) (by kernel_rfl) (by kernel_rfl) (fun _ _ _ h => h) (by rfl) ?_ hHeld ?_
          rotate_left 1
          · (intro w hSw; go_simp; try with_reducible rfl)
          simp only [Act.put, List.setIfInBounds_toArray, List.set_cons_succ, List.set_cons_zero]
          refine take_yes 20 65 (v := ?_) rfl rfl (by kernel_rfl) (by kernel_rfl) (by kernel_rfl) (fun _ _ _ h => h) (by rfl) ?_ hHeld ?_
          rotate_left 1
          · (intro w hSw; go_simp; try with_reducible rfl)
          simp only [Act.put, List.setIfInBounds_toArray, List.set_cons_succ, List.set_cons_zero]
          refine wpAnyH_done (by kernel_rfl) ?_ _
          have HB7 : Hid (Below w5.heap.size w5 w6) := HB6.out.trans (hS6.mono HB6.out.size)
          clear hS6 hb6 hHeld
          go_wp2
          go_roundw
          case rel => exact ⟨k + 1, hlt, by go_num, HB7.out⟩
          case measure => simp [intOf]; omega
      · rename World => W8
        have BT8 := BT5.keep hb
        have BX8 := BX5.keep hb
        have PT8 := PT5.below hb
        have PI8 := PI5.below hb
        have QR8 := QR5.below hb
        have QK8 := QK5.below hb
        have QV8 := QV5.below hb
        have PA8 := PA5.below hb
        have HB8 : Hid (Below w.heap.size w W8) := HB5.out.trans (hb.mono HB5.out.size)
        have CO : Hid (Calls Try.prog 20 #[.agg #[.slice a4 B.length c4], .slice a' R.length c'] W8 (Views W8 a' R K V 0)) := by
          have := of_any W8 a4 a' c4 c' B R hB0' hR PA8 PI8
          rw [HAO.out.1, HAO.out.2.1, HAO.out.2.2.1, HAO.out.2.2.2] at this
          exact this
        clear BT5 BX5 PT5 PI5 QR5 QK5 QV5 PA5 PA8 HB5 hb HAF HAN HAO
        go_wp2_with fail
        refine CO.out.mono ?_
        rintro e w9 ⟨sR, sK, sV, tR, tK, tV, rfl, _, _, p1, p2, p3, hb9⟩
        obtain ⟨WY, hWY, BY, hby, hSY⟩ := laid1 w9 [Value.slice sR R.length tR, Value.slice sK K.length tK, Value.slice sV V.length tV] 55
        have hbY : Below W8.heap.size W8 WY := hb9.trans (hby.mono hb9.size)
        have BT9 := BT8.keep hbY
        have BX9 := BX8.keep hbY
        have PT9 := PT8.below hbY
        have PI9 := PI8.below hbY
        have QR9 := QR8.below hbY
        have QK9 := QK8.below hbY
        have QV9 := QV8.below hbY
        have p1' := p1.below hby
        have p2' := p2.below hby
        have p3' := p3.below hby
        have HB9 : Hid (Below w.heap.size w WY) := HB8.out.trans (hbY.mono HB8.out.size)
        have x0 := BX9.at 0 rfl
        have x1 := BX9.at 1 rfl
        have x2 := BX9.at 2 rfl
        have y0 := BY.at 0 rfl
        have y1 := BY.at 1 rfl
        have y2 := BY.at 2 rfl
        clear BT8 BX8 PT8 PI8 QR8 QK8 QV8 HB8 hb9 hby hbY p1 p2 p3 CO BY hSY
        go_wp2_with fail
        clear hWY x0 x1 x2 y0 y1 y2
        refine (vsame_any WY fR fK fV sR sK sV gR gK gV tR tK tV R R K K V V hR hKm hVm QR9 QK9 QV9 p1' p2' p3').mono ?_
        rintro e w10 ⟨rfl, hb10⟩
        rw [sameV_selfA]
        have BTa := BT9.keep hb10
        have BXa := BX9.keep hb10
        have PTa := PT9.below hb10
        have PIa := PI9.below hb10
        have QKa := QK9.below hb10
        have HBa : Hid (Below w.heap.size w w10) := HB9.out.trans (hb10.mono HB9.out.size)
        have t0 := BTa.at 0 rfl
        clear BT9 BX9 PT9 PI9 QR9 QK9 QV9 HB9 hb10 p1' p2' p3'
        go_wp2
        clear t0
        go_loopw [85] (fun i W => ∃ k : Nat, k ≤ l.length ∧ i = .int .i64 k ∧ Below w10.heap.size w10 W) (fun i _ => l.length - (intOf i).toNat)
        case atStart => exact ⟨0, Nat.zero_le _, rfl, Below.refl _ _⟩
        case round =>
          obtain ⟨k2, hk2, rfl, hb⟩ := hrel
          by_cases hlt2 : k2 < l.length
          · have hPr := PTa.below hb
            rcases hPr with h9 | ⟨b, off, rfl, hbl, hp⟩
            · exact absurd hlt2 (by simp [h9])
            obtain ⟨g0, g1, g2⟩ := hp k2 hlt2
            have HM : Hid (K.any (fun q => q.1 == l[k2].2.1) = true ∨ hasB l[k2].2.1 R = true → hasP l[k2] K = true) := fun hu => by
              have := HAK.out _ (List.getElem_mem hlt2) hu
              simpa [hasP] using this
            generalize l[k2] = q at *
            obtain ⟨q0, q1, q2⟩ := q
            simp only at g0 g1 g2 HM
            obtain ⟨W5, hW5, hN, hBn, hS5⟩ := laid1 wr [Value.int IntKind.i64 q0, Value.int IntKind.i64 q1, Value.int IntKind.i64 q2] 45
            have BX5 := (BXa.keep hb).keep hBn
            have x1 := BX5.at 1 rfl
            have hP5 := (QKa.below hb).below hBn
            have hI5 := (PIa.below hb).below hBn
            have HB5 : Hid (Below w10.heap.size w10 W5) := hb.trans (hBn.mono hb.size)
            clear hp hS5 hBn hb
            go_wp2_with fail
            clear hW5 g0 g1 g2 x1
            refine (containsFuncP_any W5 fK gK K 33 (.pointer (some ⟨wr.heap.size, 0, none⟩)) (fun p => p.1 == q1) hKm hP5 (Go.Proofs.enters_of Try.func33 (by kernel_rfl) rfl) ?_).mono ?_
            · intro W p hW
              exact again2_any W p wr.heap.size q0 q1 q2 (hN.keep hW)
            rintro e w6 ⟨rfl, hb6⟩
            have hN6 := hN.keep hb6
            have BX6 := BX5.keep hb6
            have hP6 := hP5.below hb6
            have hI6 := hI5.below hb6
            have HB6 : Hid (Below w10.heap.size w10 w6) := HB5.out.trans (hb6.mono HB5.out.size)
            have x1 := BX6.at 1 rfl
            have n0 := hN6.at 0 rfl
            have n1 := hN6.at 1 rfl
            have n2 := hN6.at 2 rfl
            clear hN BX5 hP5 hI5 HB5 hb6
            cases hu : K.any fun p => p.1 == q1
            · have HM2 : Hid (hasB q1 R = true → hasP (q0, q1, q2) K = true) := fun hh => HM.out (Or.inr hh)
              clear hu HM
              go_wp2_with fail
              refine (containsI_any w6 a' c' q1 R hR hI6).mono ?_
              rintro e w6 ⟨rfl, rfl⟩
              cases hq : hasB q1 R
              · clear HM2 hq
                go_wp2
                go_roundw
                case rel => exact ⟨k2 + 1, hlt2, by go_num, HB6.out⟩
                case measure => simp [intOf]; omega
              · have HT : Hid (hasP (q0, q1, q2) K = true) := HM2.out hq
                clear HM2 hq
                go_wp2_with fail
                clear x1 n0 n1 n2
                refine (containsPls_any w6 fK gK K (q0, q1, q2) hKm hP6).mono ?_
                rintro e w7 ⟨rfl, hb7⟩
                rw [HT.out]
                have HB7 : Hid (Below w10.heap.size w10 w7) := HB6.out.trans (hb7.mono HB6.out.size)
                clear hb7 HB6 hP6 HT hI6 hN6 BX6
                go_wp2
                go_roundw
                case rel => exact ⟨k2 + 1, hlt2, by go_num, HB7.out⟩
                case measure => simp [intOf]; omega
            · have HT : Hid (hasP (q0, q1, q2) K = true) := HM.out (Or.inl hu)
              clear hu HM
              go_wp2_with fail
              clear x1 n0 n1 n2
              refine (containsPls_any w6 fK gK K (q0, q1, q2) hKm hP6).mono ?_
              rintro e w7 ⟨rfl, hb7⟩
              rw [HT.out]
              have HB7 : Hid (Below w10.heap.size w10 w7) := HB6.out.trans (hb7.mono HB6.out.size)
              clear hb7 HB6 hP6 HT hI6 hN6 BX6
              go_wp2
              go_roundw
              case rel => exact ⟨k2 + 1, hlt2, by go_num, HB7.out⟩
              case measure => simp [intOf]; omega
          · go_wp2
            go_ret
            exact ⟨rfl, HBa.out.trans (hb.mono HBa.out.size)⟩
  · have hz' : (ofE l R != 0) = true := by simpa using hz
    clear hz BT2 BX2 PT2 PI2 QR2 QK2 QV2
    go_wp2_with fail
    refine (seen_any w2).mono ?_
    rintro e w3 ⟨rfl, hb3⟩
    have HB3 : Hid (Below w.heap.size w w3) := HB2.out.trans (hb3.mono HB2.out.size)
    clear hb3
    go_wp2
    go_ret
    exact ⟨rfl, HB3.out⟩
end Go.Proofs.Ytdkncnfcgcfopab

/- A tree that came in as an argument: which places it holds. -/
namespace Go.Proofs.Ytdkncnfcgcfopab
open Go.ChangeShapes Go.WideShapes Go.ChangeAt Go.RowKit
open Orangery (Pl)

theorem cells3_of {w : World} {base : Nat} {a : Addr} {cs : List Value} (h : w.cells? base a 3 = some cs) :
    ∃ x y z, cs = [x, y, z] ∧ w.cell? (a.add 0) = some x ∧ w.cell? (a.add 1) = some y ∧ w.cell? (a.add 2) = some z := by
  unfold World.cells? at h
  split at h
  · simp only [show List.range 3 = [0, 1, 2] from rfl, List.mapM_cons, List.mapM_nil] at h
    cases h0 : w.cell? (a.add 0) with
    | none => simp [h0] at h
    | some x =>
      cases h1 : w.cell? (a.add 1) with
      | none => simp [h0, h1] at h
      | some y =>
        cases h2 : w.cell? (a.add 2) with
        | none => simp [h0, h1, h2] at h
        | some z =>
          simp [h0, h1, h2] at h
          exact ⟨x, y, z, h.symm, rfl, rfl, rfl⟩
  · simp at h

theorem add_at (b off i : Nat) : (⟨b, off, none⟩ : Addr).add i = ⟨b, off + i, none⟩ := by
  unfold Addr.add
  by_cases hz : i = 0 <;> simp [hz]

/-- a slice of places that is read -/
theorem open_places {H : Type} {enc : TypeId × Value → H} {w : World} {base fuel : Nat} {spare : Nat → Bool} {held : Bool} {v : Value} {x : DataW H × List MemPlace}
    (h : DataW.trod enc Try.prog w base spare held fuel 24 [v] = some x) : ∃ a c, ∃ l : List Pl, v = .slice a l.length c ∧ l.length ≤ maxLen ∧ SlP w a l := by
  rcases Go.Deep.open_slice Try.underlying24 h with ⟨hcs, _⟩ | ⟨a, len, cap, m, n, D, Pq, hcs, _, hle, hm, hmm, _, hel⟩
  · simp at hcs
    subst hcs
    exact ⟨none, 0, [], rfl, by simp, Or.inl rfl⟩
  · simp at hcs
    subst hcs
    have hlm : len ≤ m := by rw [hmm]; split <;> omega
    have hC : Try.prog.cellsOf 45 = 3 := by kernel_rfl
    have hI : Try.prog.cellsOf 3 = 1 := by kernel_rfl
    have key : ∀ i, i < len → ∃ q : Pl, w.cell? ((a.add (i * 3)).add 0) = some (.int .i64 q.1) ∧ w.cell? ((a.add (i * 3)).add 1) = some (.int .i64 q.2.1) ∧ w.cell? ((a.add (i * 3)).add 2) = some (.int .i64 q.2.2) := by
      intro i hi
      obtain ⟨cs', h1, h2⟩ := hel i (by omega)
      rw [hC] at h1
      obtain ⟨x, y, z, rfl, c0, c1, c2⟩ := cells3_of h1
      obtain ⟨y0, y1, y2, n', _, _, t0, t1, t2⟩ := Go.Deep.trod_struct3 Try.underlying45 h2
      simp [hI] at t0 t1 t2
      obtain ⟨q0, e0, _, _⟩ := DataW.trod_int Try.underlying3 t0
      obtain ⟨q1, e1, _, _⟩ := DataW.trod_int Try.underlying3 t1
      obtain ⟨q2, e2, _, _⟩ := DataW.trod_int Try.underlying3 t2
      simp at e0 e1 e2
      subst e0 e1 e2
      exact ⟨(q0, q1, q2), c0, c1, c2⟩
    obtain ⟨f, hf⟩ := Go.Deep.choose_lt key
    refine ⟨some a, cap, (List.range len).map f, by simp, by simp; omega, ?_⟩
    by_cases hz : len = 0
    · exact Or.inl (by simp [hz])
    · right
      have h0 := (hf 0 (by omega)).1
      obtain ⟨b, off, spot⟩ := a
      have hspot : spot = none := by simpa [Addr.add] using World.cell?_spot h0
      subst hspot
      have hb : b < w.heap.size := by
        have := World.block_lt_of_cell? w _ h0
        rw [add_at, add_at] at this
        exact this
      refine ⟨b, off, rfl, hb, fun i hi => ?_⟩
      have hi' : i < len := by simpa using hi
      have := hf i hi'
      rw [add_at, add_at, add_at, add_at] at this
      simpa using this

set_option maxRecDepth 100000 in
/-- a tree that came in -/
theorem open_tree {H : Type} {enc : TypeId × Value → H} {w : World} {r : Reach} {b0 base : Nat} {spare : Nat → Bool} {held : Bool} {v : Value} {d : DataW H} {p : List MemPlace}
    (hv : Value.okWide Try.prog w r b0 26 v) (h : DataW.Trod enc Try.prog w base spare held 26 v d p) : ∃ a c, ∃ l : List Pl, v = .agg #[.slice a l.length c] ∧ l.length ≤ maxLen ∧ SlP w a l := by
  obtain ⟨cs, rfl, hsz⟩ := okWide_struct Try.underlying26 hv
  have hC : Try.prog.cellsOf 26 = 1 := by kernel_rfl
  have hD : Try.prog.cellsOf 24 = 1 := by kernel_rfl
  rw [hC] at hsz
  obtain ⟨c0, rfl⟩ : ∃ c0, cs = #[c0] := by
    have h1 : cs.toList.length = 1 := by simpa using hsz
    obtain ⟨x, hx⟩ := List.length_eq_one_iff.1 h1
    exact ⟨x, by cases cs; simp_all⟩
  obtain ⟨fuel, hf⟩ := h
  obtain ⟨y0, n, _, _, h0⟩ := trod_struct1 Try.underlying26 hf
  simp [Value.cells, hD] at h0
  obtain ⟨a, c, l, rfl, h1, h2⟩ := open_places h0
  exact ⟨a, c, l, rfl, h1, h2⟩
end Go.Proofs.Ytdkncnfcgcfopab

/- Operations and steps that came in as arguments. -/
namespace Go.Proofs.Ytdkncnfcgcfopab
open Go.ChangeShapes Go.WideShapes Go.ChangeAt Go.RowKit
open Orangery (Pl Mv Stp)

theorem list7 {cs : List Value} (h : cs.length = 7) : ∃ a b c d e f g, cs = [a, b, c, d, e, f, g] := by
  match cs, h with
  | [a, b, c, d, e, f, g], _ => exact ⟨a, b, c, d, e, f, g, rfl⟩
theorem list11 {cs : List Value} (h : cs.length = 11) : ∃ a b c d e f g i j k l, cs = [a, b, c, d, e, f, g, i, j, k, l] := by
  match cs, h with
  | [a, b, c, d, e, f, g, i, j, k, l], _ => exact ⟨a, b, c, d, e, f, g, i, j, k, l, rfl⟩

set_option maxRecDepth 100000 in
theorem open_opC {H : Type} {enc : TypeId × Value → H} {w : World} {base fuel : Nat} {spare : Nat → Bool} {held : Bool} {cs : List Value} {x : DataW H × List MemPlace}
    (h : DataW.trod enc Try.prog w base spare held fuel 38 cs = some x) : ∃ o : Mv, cs = opC o := by
  obtain ⟨xs, n, _, _, hl, hlen, hf⟩ := DataW.trod_struct Try.underlying38 h
  have hC : Try.prog.cellsOf 38 = 7 := by kernel_rfl
  have hI : Try.prog.cellsOf 3 = 1 := by kernel_rfl
  have hT : Try.prog.cellsOf 36 = 2 := by kernel_rfl
  rw [hC] at hl
  obtain ⟨c0, c1, c2, c3, c4, c5, c6, rfl⟩ := list7 hl
  have hx : xs.length = 6 := hlen
  have g0 := hf 0 _ rfl
  have g1 := hf 1 _ rfl
  have g2 := hf 2 _ rfl
  have g3 := hf 3 _ rfl
  have g4 := hf 4 _ rfl
  have g5 := hf 5 _ rfl
  simp [hI, hT] at g0 g1 g2 g3 g4 g5
  rw [List.getElem?_eq_getElem (by omega)] at g0 g1 g2 g3 g4 g5
  obtain ⟨o3, e3, _, _⟩ := DataW.trod_int Try.underlying3 g1
  obtain ⟨o4, e4, _, _⟩ := DataW.trod_int Try.underlying3 g2
  obtain ⟨o5, e5, _, _⟩ := DataW.trod_int Try.underlying3 g3
  obtain ⟨o6, e6, _, _⟩ := DataW.trod_int Try.underlying3 g4
  obtain ⟨o7, e7, _, _⟩ := DataW.trod_int Try.underlying3 g5
  obtain ⟨y0, y1, n', _, _, t0, t1⟩ := trod_struct2 Try.underlying36 g0
  simp [hI] at t0 t1
  obtain ⟨o1, e1, _, _⟩ := DataW.trod_int Try.underlying3 t0
  obtain ⟨o2, e2, _, _⟩ := DataW.trod_int Try.underlying3 t1
  simp at e1 e2 e3 e4 e5 e6 e7
  subst e1 e2 e3 e4 e5 e6 e7
  exact ⟨(o1, o2, (o3, o4, o5), o6, o7), rfl⟩

set_option maxRecDepth 100000 in
/-- an operation that came in -/
theorem open_op {H : Type} {enc : TypeId × Value → H} {w : World} {r : Reach} {b0 base : Nat} {spare : Nat → Bool} {held : Bool} {v : Value} {d : DataW H} {p : List MemPlace}
    (hv : Value.okWide Try.prog w r b0 38 v) (h : DataW.Trod enc Try.prog w base spare held 38 v d p) : ∃ o : Mv, v = opV o := by
  obtain ⟨cs, rfl, hsz⟩ := okWide_struct Try.underlying38 hv
  obtain ⟨fuel, hf⟩ := h
  obtain ⟨o, ho⟩ := open_opC hf
  refine ⟨o, ?_⟩
  have : cs = (opC o).toArray := by rw [← ho]; simp [Value.cells]
  rw [this]
  rfl

set_option maxRecDepth 100000 in
theorem open_stC {H : Type} {enc : TypeId × Value → H} {w : World} {base fuel : Nat} {spare : Nat → Bool} {held : Bool} {cs : List Value} {x : DataW H × List MemPlace}
    (h : DataW.trod enc Try.prog w base spare held fuel 47 cs = some x) : ∃ s : Stp, cs = stC s := by
  obtain ⟨y0, y1, y2, n, _, hl, t0, t1, t2⟩ := Go.Deep.trod_struct3 Try.underlying47 h
  have hC : Try.prog.cellsOf 47 = 11 := by kernel_rfl
  have hO : Try.prog.cellsOf 38 = 7 := by kernel_rfl
  have hB : Try.prog.cellsOf 4 = 1 := by kernel_rfl
  have hP : Try.prog.cellsOf 45 = 3 := by kernel_rfl
  have hI : Try.prog.cellsOf 3 = 1 := by kernel_rfl
  rw [hC] at hl
  obtain ⟨c0, c1, c2, c3, c4, c5, c6, c7, c8, c9, c10, rfl⟩ := list11 hl
  simp [hO, hB, hP] at t0 t1 t2
  obtain ⟨o, ho⟩ := open_opC t0
  obtain ⟨b, hb, _⟩ := DataW.trod_bool Try.underlying4 t1
  obtain ⟨z0, z1, z2, n', _, _, q0, q1, q2⟩ := Go.Deep.trod_struct3 Try.underlying45 t2
  simp [hI] at q0 q1 q2
  obtain ⟨p1, e1, _, _⟩ := DataW.trod_int Try.underlying3 q0
  obtain ⟨p2, e2, _, _⟩ := DataW.trod_int Try.underlying3 q1
  obtain ⟨p3, e3, _, _⟩ := DataW.trod_int Try.underlying3 q2
  simp at e1 e2 e3 hb
  subst e1 e2 e3 hb
  simp [opC] at ho
  obtain ⟨rfl, rfl, rfl, rfl, rfl, rfl, rfl⟩ := ho
  exact ⟨(o, b, (p1, p2, p3)), rfl⟩

set_option maxRecDepth 100000 in
/-- a step that came in -/
theorem open_step {H : Type} {enc : TypeId × Value → H} {w : World} {r : Reach} {b0 base : Nat} {spare : Nat → Bool} {held : Bool} {v : Value} {d : DataW H} {p : List MemPlace}
    (hv : Value.okWide Try.prog w r b0 47 v) (h : DataW.Trod enc Try.prog w base spare held 47 v d p) : ∃ s : Stp, v = stV s := by
  obtain ⟨cs, rfl, hsz⟩ := okWide_struct Try.underlying47 hv
  obtain ⟨fuel, hf⟩ := h
  obtain ⟨o, ho⟩ := open_stC hf
  refine ⟨o, ?_⟩
  have : cs = (stC o).toArray := by rw [← ho]; simp [Value.cells]
  rw [this]
  rfl
end Go.Proofs.Ytdkncnfcgcfopab

/- Slices of operations and histories that came in as arguments, and what they weigh. -/
namespace Go.Proofs.Ytdkncnfcgcfopab
open Go.ChangeShapes Go.WideShapes Go.ChangeAt Go.RowKit
open Orangery (Pl Mv Stp)

/-- a slice of such elements that came in, with what it weighs -/
theorem open_slW {α : Type} [Inhabited α] {enc : α → List Value} {k : Nat} {H : Type} {en : TypeId × Value → H} {w : World} {base fuel : Nat} {spare : Nat → Bool} {held : Bool} {v : Value} {x : DataW H × List MemPlace} {t e : TypeId}
    (hk : ∀ x, (enc x).length = k) (hpos : 0 < k) (ht : Try.prog.underlying t = some (.slice e)) (hC : Try.prog.cellsOf e = k)
    (hel : ∀ (n : Nat) (cs : List Value) (y : DataW H × List MemPlace), DataW.trod en Try.prog w base spare held n e cs = some y → ∃ z : α, cs = enc z)
    (h : DataW.trod en Try.prog w base spare held fuel t [v] = some x) : ∃ a c, ∃ l : List α, v = .slice a l.length c ∧ l.length ≤ maxLen ∧ l.length ≤ c ∧ (c ≤ maxLen ∧ (a = none → c = 0)) ∧ SlE enc w a l ∧ (l = [] ∨ ∃ m, l.length ≤ m ∧ m * Try.prog.bytesOf e ∈ x.1.weights Try.prog t) := by
  rcases Go.Deep.open_slice ht h with ⟨hcs, _⟩ | ⟨a, len, cap, m, n, D, Pq, hcs, _, hle, hm, hmm, hxx, hx⟩
  · simp at hcs
    subst hcs
    exact ⟨none, 0, [], rfl, by simp, by simp, ⟨by simp, fun _ => rfl⟩, Or.inl rfl, Or.inl rfl⟩
  · simp at hcs
    subst hcs
    have hlm : len ≤ m := by rw [hmm]; split <;> omega
    have key : ∀ i, i < len → ∃ z : α, ∀ (j : Nat) (v : Value), (enc z)[j]? = some v → w.cell? ((a.add (i * k)).add j) = some v := by
      intro i hi
      obtain ⟨cs', h1, h2⟩ := hx i (by omega)
      rw [hC] at h1
      obtain ⟨z, rfl⟩ := hel _ _ _ h2
      exact ⟨z, (cells_range h1).2⟩
    obtain ⟨f, hf⟩ := Go.Deep.choose_lt key
    refine ⟨some a, cap, (List.range len).map f, by simp, by simp; omega, by simp; omega, ⟨hm, fun e => by simp at e⟩, ?_, Or.inr ⟨m, by simpa using hlm, ?_⟩⟩
    · by_cases hz : len = 0
      · exact Or.inl (by simp [hz])
      · right
        obtain ⟨u, hu⟩ : ∃ u, (enc (f 0))[0]? = some u := ⟨_, List.getElem?_eq_getElem (by rw [hk]; exact hpos)⟩
        have h0 := hf 0 (by omega) 0 u hu
        obtain ⟨b, off, spot⟩ := a
        have hspot : spot = none := by simpa [Addr.add] using World.cell?_spot h0
        subst hspot
        have hb : b < w.heap.size := by
          have := World.block_lt_of_cell? w _ h0
          rw [Addr.add_mid, Addr.add_mid] at this
          exact this
        refine ⟨b, off, rfl, hb, fun j v hv => ?_⟩
        have hj : j < len * k := by
          have := (List.getElem?_eq_some_iff.1 hv).1
          rw [flatE_len hk] at this
          simpa using this
        have hi : j / k < len := (Nat.div_lt_iff_lt_mul hpos).2 hj
        have hc : j % k < k := Nat.mod_lt _ hpos
        have e1 : j / k * k + j % k = j := by rw [Nat.mul_comm]; exact Nat.div_add_mod j k
        have e2 := flatE_get hk ((List.range len).map f) (j / k) (by simpa using hi) (j % k) hc
        rw [e1, hv] at e2
        have e3 := hf (j / k) hi (j % k) v (by simpa using e2.symm)
        rw [Addr.add_mid, Addr.add_mid] at e3
        rw [show off + j = off + j / k * k + j % k by omega]
        exact e3
    · subst hxx
      simp only [DataW.weights, ht]
      have e : ((List.range len).map D).length + ((List.range (m - len)).map fun j => D (len + j)).length = m := by simp; omega
      rw [e]
      exact List.mem_cons_self

set_option maxRecDepth 100000 in
/-- operations that came in -/
theorem open_ops {H : Type} {enc : TypeId × Value → H} {w : World} {r : Reach} {b0 base : Nat} {spare : Nat → Bool} {held : Bool} {v : Value} {d : DataW H} {p : List MemPlace}
    (hv : Value.okWide Try.prog w r b0 22 v) (h : DataW.Trod enc Try.prog w base spare held 22 v d p) : ∃ a c, ∃ l : List Mv, v = .slice a l.length c ∧ l.length ≤ maxLen ∧ l.length ≤ c ∧ SlE opC w a l := by
  obtain ⟨a', n', c', rfl⟩ := okWide_slice Try.underlying22 hv
  obtain ⟨fuel, hf⟩ := h
  obtain ⟨a, c, l, e, h1, h2, _, h3, _⟩ := open_slW opC_len (by omega) Try.underlying22 (by kernel_rfl) (fun n cs y hy => open_opC hy) hf
  exact ⟨a, c, l, e, h1, h2, h3⟩

set_option maxRecDepth 100000 in
/-- operations that came in, and the room behind them -/
theorem open_opsN {H : Type} {enc : TypeId × Value → H} {w : World} {r : Reach} {b0 base : Nat} {spare : Nat → Bool} {held : Bool} {v : Value} {d : DataW H} {p : List MemPlace}
    (hv : Value.okWide Try.prog w r b0 22 v) (h : DataW.Trod enc Try.prog w base spare held 22 v d p) : ∃ a c, ∃ l : List Mv, v = .slice a l.length c ∧ l.length ≤ maxLen ∧ l.length ≤ c ∧ c ≤ maxLen ∧ (a = none → c = 0) ∧ SlE opC w a l := by
  obtain ⟨a', n', c', rfl⟩ := okWide_slice Try.underlying22 hv
  obtain ⟨fuel, hf⟩ := h
  obtain ⟨a, c, l, e, h1, h2, ⟨h4, h5⟩, h3, _⟩ := open_slW opC_len (by omega) Try.underlying22 (by kernel_rfl) (fun n cs y hy => open_opC hy) hf
  exact ⟨a, c, l, e, h1, h2, h4, h5, h3⟩

set_option maxRecDepth 100000 in
/-- a history that came in -/
theorem open_hist {H : Type} {enc : TypeId × Value → H} {w : World} {r : Reach} {b0 base : Nat} {spare : Nat → Bool} {held : Bool} {v : Value} {d : DataW H} {p : List MemPlace}
    (hv : Value.okWide Try.prog w r b0 28 v) (h : DataW.Trod enc Try.prog w base spare held 28 v d p) :
    ∃ aL aT cL cT, ∃ (L : List Stp) (T : List Pl), v = hiV (.slice aL L.length cL) (.slice aT T.length cT) ∧ T.length ≤ maxLen ∧ SlE stC w aL L ∧ SlP w aT T ∧ (L = [] ∨ ∃ m, L.length ≤ m ∧ m * 88 ∈ d.weights Try.prog 28) := by
  obtain ⟨cs, rfl, hsz⟩ := okWide_struct Try.underlying28 hv
  have hC : Try.prog.cellsOf 28 = 2 := by kernel_rfl
  have hD : Try.prog.cellsOf 23 = 1 := by kernel_rfl
  have hE : Try.prog.cellsOf 26 = 1 := by kernel_rfl
  have hF : Try.prog.cellsOf 24 = 1 := by kernel_rfl
  have hby : Try.prog.bytesOf 47 = 88 := by kernel_rfl
  rw [hC] at hsz
  obtain ⟨c0, c1, rfl⟩ : ∃ c0 c1, cs = #[c0, c1] := by
    have h1 : cs.toList.length = 2 := by simpa using hsz
    cases cs with
    | mk l =>
      match l, h1 with
      | [x, y], _ => exact ⟨x, y, rfl⟩
  obtain ⟨fuel, hf⟩ := h
  obtain ⟨y0, y1, n, hd, _, h0, h1⟩ := trod_struct2 Try.underlying28 hf
  simp [Value.cells, hD, hE] at h0 h1
  obtain ⟨aL, cL, L, rfl, _, _, _, hL, hw⟩ := open_slW stC_len (by omega) Try.underlying23 (by kernel_rfl) (fun n cs y hy => open_stC hy) h0
  obtain ⟨z0, n', _, _, h2⟩ := trod_struct1 Try.underlying26 h1
  simp [hF] at h2
  obtain ⟨aT, cT, T, rfl, hT1, hT2⟩ := open_places h2
  refine ⟨aL, aT, cL, cT, L, T, rfl, hT1, hL, hT2, ?_⟩
  rcases hw with hw | ⟨m, hm, hw⟩
  · exact Or.inl hw
  · right
    refine ⟨m, hm, ?_⟩
    have e : d = .agg [y0.1, y1.1] := congrArg Prod.fst hd
    rw [e]
    rw [hby] at hw
    simp only [DataW.weights, Try.underlying28]
    exact DataW.weights_mem_each (j := 0) rfl rfl _ hw

theorem sized_hist {H : Type} {ts : List TypeId} {ds : List (DataW H)} (h : (DataW.weightsEach Try.prog ts ds).all (· ≤ reachBytes) = true) {j : Nat} {d : DataW H} (ht : ts[j]? = some 28) (hd : ds[j]? = some d) {L : List Stp}
    (hw : L = [] ∨ ∃ m, L.length ≤ m ∧ m * 88 ∈ d.weights Try.prog 28) : L.length * 88 ≤ 140737488351232 := by
  rcases hw with rfl | ⟨m, hm, hw⟩
  · simp
  · have := List.all_eq_true.1 h _ (DataW.weights_mem_each ht hd _ hw)
    have h2 : m * 88 ≤ reachBytes := by simpa using this
    unfold reachBytes at h2
    omega
end Go.Proofs.Ytdkncnfcgcfopab

/- Ints, places with the room behind them, and views that came in as arguments. -/
namespace Go.Proofs.Ytdkncnfcgcfopab
open Go.ChangeShapes Go.WideShapes Go.ChangeAt Go.RowKit
open Orangery (Pl)

def intC (x : Int) : List Value := [.int .i64 x]
theorem intC_len (x : Int) : (intC x).length = 1 := rfl

theorem sli_of {w : World} {a : Option Addr} {l : List Int} (h : SlE intC w a l) : SlI w a l := by
  rcases h with h | ⟨b, off, ha, hlt, hp⟩
  · exact Or.inl h
  · refine Or.inr ⟨b, off, ha, hlt, fun i hi => ?_⟩
    have := elemE intC_len hp i hi 0 (.int .i64 l[i]) rfl
    rw [Nat.mul_one, Nat.add_zero] at this
    exact this
theorem slp_of {w : World} {a : Option Addr} {l : List Pl} (h : SlE encPl w a l) : SlP w a l := by
  rcases h with h | ⟨b, off, ha, hlt, hp⟩
  · exact Or.inl h
  · refine Or.inr ⟨b, off, ha, hlt, fun i hi => ?_⟩
    have hr := elemE encPl_len hp i hi
    exact ⟨hr 0 _ rfl, hr 1 _ rfl, hr 2 _ rfl⟩

theorem open_intC {H : Type} {enc : TypeId × Value → H} {w : World} {base fuel : Nat} {spare : Nat → Bool} {held : Bool} {cs : List Value} {x : DataW H × List MemPlace}
    (h : DataW.trod enc Try.prog w base spare held fuel 3 cs = some x) : ∃ z : Int, cs = intC z := by
  obtain ⟨q, e, _, _⟩ := DataW.trod_int Try.underlying3 h
  exact ⟨q, e⟩
set_option maxRecDepth 100000 in
theorem open_plC {H : Type} {enc : TypeId × Value → H} {w : World} {base fuel : Nat} {spare : Nat → Bool} {held : Bool} {cs : List Value} {x : DataW H × List MemPlace}
    (h : DataW.trod enc Try.prog w base spare held fuel 45 cs = some x) : ∃ z : Pl, cs = encPl z := by
  obtain ⟨y0, y1, y2, n', _, hl, t0, t1, t2⟩ := Go.Deep.trod_struct3 Try.underlying45 h
  have hC : Try.prog.cellsOf 45 = 3 := by kernel_rfl
  have hI : Try.prog.cellsOf 3 = 1 := by kernel_rfl
  rw [hC] at hl
  obtain ⟨c0, c1, c2, rfl⟩ : ∃ c0 c1 c2, cs = [c0, c1, c2] := by
    match cs, hl with
    | [x, y, z], _ => exact ⟨x, y, z, rfl⟩
  simp [hI] at t0 t1 t2
  obtain ⟨q0, e0, _, _⟩ := DataW.trod_int Try.underlying3 t0
  obtain ⟨q1, e1, _, _⟩ := DataW.trod_int Try.underlying3 t1
  obtain ⟨q2, e2, _, _⟩ := DataW.trod_int Try.underlying3 t2
  simp at e0 e1 e2
  subst e0 e1 e2
  exact ⟨(q0, q1, q2), rfl⟩

set_option maxRecDepth 100000 in
/-- ints that came in -/
theorem open_ints {H : Type} {enc : TypeId × Value → H} {w : World} {r : Reach} {b0 base : Nat} {spare : Nat → Bool} {held : Bool} {v : Value} {d : DataW H} {p : List MemPlace}
    (hv : Value.okWide Try.prog w r b0 53 v) (h : DataW.Trod enc Try.prog w base spare held 53 v d p) : ∃ a c, ∃ l : List Int, v = .slice a l.length c ∧ l.length ≤ maxLen ∧ (l.length ≤ c ∧ c ≤ maxLen) ∧ SlI w a l := by
  obtain ⟨a', n', c', rfl⟩ := okWide_slice Try.underlying53 hv
  obtain ⟨fuel, hf⟩ := h
  obtain ⟨a, c, l, e, h1, h2, ⟨h4, _⟩, h3, _⟩ := open_slW intC_len (by omega) Try.underlying53 (by kernel_rfl) (fun n cs y hy => open_intC hy) hf
  exact ⟨a, c, l, e, h1, ⟨h2, h4⟩, sli_of h3⟩

set_option maxRecDepth 100000 in
theorem open_view {H : Type} {enc : TypeId × Value → H} {w : World} {r : Reach} {b0 base : Nat} {spare : Nat → Bool} {held : Bool} {v : Value} {d : DataW H} {p : List MemPlace}
    (hv : Value.okWide Try.prog w r b0 55 v) (h : DataW.Trod enc Try.prog w base spare held 55 v d p) :
    ∃ aR aK aW cR cK cW, ∃ (R : List Int) (K W : List Pl), v = .agg #[.slice aR R.length cR, .slice aK K.length cK, .slice aW W.length cW] ∧ (R.length ≤ maxLen ∧ K.length ≤ maxLen ∧ W.length ≤ maxLen) ∧ ((aK = none → cK = 0) ∧ (aW = none → cW = 0)) ∧ SlI w aR R ∧ SlP w aK K ∧ SlP w aW W := by
  obtain ⟨cs, rfl, hsz⟩ := okWide_struct Try.underlying55 hv
  have hC : Try.prog.cellsOf 55 = 3 := by kernel_rfl
  have hD : Try.prog.cellsOf 53 = 1 := by kernel_rfl
  have hF : Try.prog.cellsOf 24 = 1 := by kernel_rfl
  rw [hC] at hsz
  obtain ⟨c0, c1, c2, rfl⟩ : ∃ c0 c1 c2, cs = #[c0, c1, c2] := by
    have h1 : cs.toList.length = 3 := by simpa using hsz
    cases cs with
    | mk l =>
      match l, h1 with
      | [x, y, z], _ => exact ⟨x, y, z, rfl⟩
  obtain ⟨fuel, hf⟩ := h
  obtain ⟨y0, y1, y2, n, _, _, h0, h1, h2⟩ := Go.Deep.trod_struct3 Try.underlying55 hf
  simp [Value.cells, hD, hF] at h0 h1 h2
  obtain ⟨aR, cR, R, rfl, m0, _, _, hR, _⟩ := open_slW intC_len (by omega) Try.underlying53 (by kernel_rfl) (fun n cs y hy => open_intC hy) h0
  obtain ⟨aK, cK, K, rfl, m1, _, ⟨_, n1⟩, hK, _⟩ := open_slW encPl_len (by omega) Try.underlying24 (by kernel_rfl) (fun n cs y hy => open_plC hy) h1
  obtain ⟨aW, cW, W, rfl, m2, _, ⟨_, n2⟩, hW, _⟩ := open_slW encPl_len (by omega) Try.underlying24 (by kernel_rfl) (fun n cs y hy => open_plC hy) h2
  exact ⟨aR, aK, aW, cR, cK, cW, R, K, W, rfl, ⟨m0, m1, m2⟩, ⟨n1, n2⟩, sli_of hR, slp_of hK, slp_of hW⟩
end Go.Proofs.Ytdkncnfcgcfopab

/- ViewAgain returns true for every tree and every list of roots: a view of a view is the same, it is one, what is known and what is the way are apart, and who is known has all their kids known. No condition. -/
namespace Go.Proofs.Ytdkncnfcgcfopab.viewAgain
open Go.ChangeShapes Go.WideShapes Go.ChangeAt Go.RowKit
set_option linter.unusedVariables false

theorem own : ownKnob Try.prog.godebug = none := by kernel_rfl
theorem laidOut : laidOutB Try.prog = true := by kernel_rfl

set_option maxRecDepth 100000 in
theorem lifted (os : Os) (started : os.Started) (H : Type) (enc : TypeId × Value → H) :
    ReturnsInHanded {} Try.checked os 7 .any (Rows.viewAgainSpec.pre6 enc Try.prog Try.f7 Rows.viewAgainRow.domain false) (Rows.viewAgainSpec.post enc Try.prog Try.f7 false true false false) := by
  refine returnsInHanded_of_change (C := Try.checked) own started (by kernel_rfl) Try.func7
    (ChangeSpec.witness6 (enc := enc) (C := Try.checked) false ⟨#[], #[.agg #[.slice none 0 0], .slice none 0 0], []⟩ 8 (by kernel_rfl) (by kernel_rfl) (by kernel_rfl) (by kernel_rfl)) ?_
  intro W base args ds gs before hval0 hW hcnd _
  have hval : ∀ (j : Nat) t v, Try.f7.params[j]? = some t → args[j]? = some v → Value.okWide Try.prog W .any base t v := hval0
  have hW' := hW
  obtain ⟨p, q, hA0, hV, rfl, hfz, hnd⟩ := hW
  have hA : DataW.TrodAll enc Try.prog W 0 (fun _ => true) true Try.f7.params.toList args.toList ds p := hA0
  rw [Try.params7] at hA hval
  obtain ⟨v0, vs0, d0, ds0, p0, q0, hargs, rfl, rfl, h0, r0⟩ := trodAll_cons hA
  obtain ⟨v1, vs1, d1, ds1, p1, q1, rfl, rfl, rfl, h1, r1⟩ := trodAll_cons r0
  obtain ⟨rfl, rfl, rfl⟩ := trodAll_nil r1
  obtain rfl : args = #[v0, v1] := by cases args; simp_all
  obtain ⟨rfl, rfl⟩ := trodVars_none hV
  have k0 := h0
  have lt0 : ∀ x ∈ p0, x.block < W.heap.size := by obtain ⟨m, hm⟩ := k0; exact DataW.trod_lt m _ _ _ hm
  obtain ⟨a0, c0, l0, rfl, m0, P0⟩ := open_tree (hval 0 26 v0 rfl rfl) h0
  have k1 := h1
  have lt1 : ∀ x ∈ p1, x.block < W.heap.size := by obtain ⟨m, hm⟩ := k1; exact DataW.trod_lt m _ _ _ hm
  obtain ⟨a1, c1, l1, rfl, m1, b1, P1⟩ := open_ints (hval 1 53 v1 rfl rfl) h1
  clear hA0 hval0
  refine (viewAgain_any W a0 c0 l0 a1 c1 l1 m0 P0 m1 P1).mono fun e W' ⟨he, bel⟩ => ?_
  subst he
  exact ⟨_, rfl, _, _, _, [], _, [], hW', trodAll_mk1 (shut_bool Try.underlying4 _), (trodAll_cons_mk (Below.trod laidOut (by kernel_rfl) (of_decide_eq_true (by kernel_rfl)) k0 bel lt0) (trodAll_cons_mk (Below.trod laidOut (by kernel_rfl) (of_decide_eq_true (by kernel_rfl)) k1 bel lt1) trodAll_mk0)), rfl, bel.frame _, fun h => by cases h⟩

theorem over : Rows.viewAgainRow.holds Try.pinned (OpenSpec.ofChange Rows.viewAgainSpec) :=
  OpenClaim.holds_of_wide 7 Try.f7 rfl rfl rfl rfl rfl rfl rfl ⟨rfl, rfl, rfl, rfl, rfl⟩ rfl rfl rfl rfl rfl (by kernel_rfl) Try.func7 (by kernel_rfl)
    (of_decide_eq_true (by kernel_rfl)) (by unfold Func.isWrapper; first | (rw [if_pos (by decide +kernel)]; kernel_rfl) | (rw [if_neg (by decide +kernel)]; exact ⟨rfl, rfl⟩))
    (fun os started H enc _ => lifted os started H enc)

/-- The statement. -/
theorem proved : Rows.ViewAgainSaid :=
  over
#print axioms proved
end Go.Proofs.Ytdkncnfcgcfopab.viewAgain

