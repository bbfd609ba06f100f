/- 6 texts of the proof: orangerylaw.DiskKeeps: the walk. A tree that came in as an argument: which places it holds. Operations and steps that came in as arguments. Slices of operations and histories that came in as arguments, and what they weigh. slices.Grow of nothing, slices.Concat at places. Ints, places with the room behind them, and views that came in as arguments. -/
import Derived.Deep.Slices
import Derived.Deep.Strs
import Derived.ChangeOld
import Derived.SizedLaws
import Derived.Lib.AppendZerosOnto
import Derived.Laws.AppendOwnNone
import Derived.Test.YtmlodnamknielacDoorP11
import Derived.Test.YtmlodnamknielacDoorP09
import Derived.Test.YtmlodnamknielacDoorP03
import Derived.Test.YtmlodnamknielacDoorP04
/- orangerylaw.DiskKeeps: the walk. -/
namespace Go.Proofs.YtmlodnamknielacDoor
open Go.ChangeShapes Go.WideShapes Go.ChangeAt Go.RowKit
open Orangery (Mv Rc noRec noOp diskE encR okL checkRec recT atI)

theorem okL_few (l : List Rc) : (okL (l.take 20)).length ≤ 20 := by
  have h1 := Orangery.okL_len (l.take 20)
  rw [List.length_take] at h1
  omega
theorem at_within (n : Int) (k : Nat) : ∃ m : Nat, atI n ((k : Int) + 1) = m ∧ m ≤ k := by
  have h1 := Int.emod_nonneg n (show ((k : Int) + 1) ≠ 0 by omega)
  have h2 := Int.emod_lt_of_pos n (show (0 : Int) < (k : Int) + 1 by omega)
  refine ⟨(n % ((k : Int) + 1)).toNat, ?_, by omega⟩
  unfold atI
  omega
theorem eqB_self (l : List UInt8) : eqB l l = true := eqB_yes rfl

set_option maxHeartbeats 16000000 in
set_option maxRecDepth 100000 in
theorem diskKeeps_any (w : World) (p0 p1 : Option Addr) (q0 q1 : Nat) (X0 X1 : List Rm) (n : Int) (m0 : X0.length ≤ maxLen) (r0 : X0.length ≤ q0) (s0 : q0 ≤ maxLen) (h0 : SlR w p0 w.heap.size X0) (m1 : X1.length ≤ maxLen) (r1 : X1.length ≤ q1) (s1 : q1 ≤ maxLen) (h1 : SlR w p1 w.heap.size X1) (hv : Vars w) :
    Calls Tryd.prog 5 #[.slice p0 X0.length q0, .slice p1 X1.length q1, .int .i64 n] w
      fun e w' => e = .returned (.bool true) ∧ Below w.heap.size w w' := by
  have HV := Lib.hid hv
  have H0 := Lib.hid h0
  have H1 := Lib.hid h1
  have M0 : Hid (X0.length ≤ maxLen ∧ X0.length ≤ q0 ∧ q0 ≤ maxLen) := ⟨m0, r0, s0⟩
  have M1 : Hid (X1.length ≤ maxLen ∧ X1.length ≤ q1 ∧ q1 ≤ maxLen) := ⟨m1, r1, s1⟩
  clear hv h0 h1 m0 r0 s0 m1 r1 s1
  go_enter Tryd.func5, Tryd.ntmps5
  go_wp2_with fail
  refine (filed_any w HV.out).mono ?_
  rintro e w1 ⟨rfl, hb⟩
  go_wp2_with fail
  obtain ⟨W1, hW, hQ1, hB1, -⟩ := laid1 w1 [.slice none 0 0, .slice none 0 0] 41
  rw [hW]
  clear hW
  have HB1 := Lib.hid (hb.trans (hB1.mono hb.size))
  have hg : w.heap.size ≤ w1.heap.size := hb.size
  have hgW : w1.heap.size < W1.heap.size := hQ1.lt
  generalize w1.heap.size = g at *
  clear hb hB1
  refine (kputs_any w W1 g p0 q0 X0 [] none 0 none 0 (fun r hr => by simp at hr) (by simp) M0.out.1 M0.out.2.1 M0.out.2.2 H0.out HB1.out hg hQ1 (dkIs_none _) HV.out).mono ?_
  rintro e w2 ⟨⟨va, YA, a2, c2, b2, d2, rfl, ⟨hOA, hRA⟩, hYA, hQ2, hD2⟩, hO2⟩
  have HAok := Lib.hid (Orangery.okL_all ((X0.map (·.1)).take 20))
  have HAl := Lib.hid (okL_few (X0.map (·.1)))
  generalize okL ((X0.map (·.1)).take 20) = A at *
  have HK1 := Lib.hid (keeps1 A HAok.out HAl.out)
  obtain ⟨EA, hEA⟩ : ∃ z, encR A = z := ⟨_, rfl⟩
  have HEA : Hid (encR A = EA) := hEA
  have e0 : encR [] = [] := rfl
  rw [hEA, e0] at hQ2 hD2
  rw [hEA, e0] at HK1
  have HEl : Hid (EA.length ≤ 7080) := by show _ ≤ _; rw [← hEA]; exact enc_small A HAok.out (by have := HAl.out; omega)
  clear hEA e0
  have hQ2' : Blk w2 g [.slice a2 0 c2, .slice b2 EA.length d2] := hQ2
  have HB2 := Lib.hid (HB1.out.trans ((hO2.below (by omega)).mono hg))
  have hgw2 : g < w2.heap.size := hQ2.lt
  obtain ⟨aA, cA, rfl, -, hcA⟩ := OwnE.val hOA
  have HOA2 := Lib.hid hOA
  have HRA : Hid (∀ y ∈ YA, RootsIn w.heap.size w y) := hRA
  have HYA : Hid (YA.map (·.1) = A) := hYA
  have HNA : Hid (aA = none → cA = 0) := ownE_cap hOA
  clear hOA hYA hQ2 hO2 hQ1 hRA
  have x0 := hQ2'.at 0 rfl
  have x1 := hQ2'.at 1 rfl
  go_wp2_with fail
  clear x0 x1
  have hp := ksync_any w2 _ [] EA hD2 (HV.out.on HB2.out)
  rw [HK1.out.1, HK1.out.2] at hp
  refine hp.mono ?_
  rintro e w3 ⟨⟨v3, rfl, hN⟩, hb⟩
  clear hp hD2
  have hN' := hN
  obtain ⟨a3, c3, b3, d3, rfl, -⟩ := hN'
  have hQ3 := hQ2'.keep hb
  have hQ3s := hQ3.sets [.slice a3 EA.length c3, .slice b3 0 d3] rfl
  have hD3 := hN.sets hgw2 [.slice a3 EA.length c3, .slice b3 0 d3] 0
  have HOA3 := Lib.hid (OwnE.others g hgW [.slice a3 EA.length c3, .slice b3 0 d3] 0 _ (OwnE.keep HOA2.out hb))
  have HB3 := Lib.hid (below_sets (HB2.out.trans (hb.mono HB2.out.size)) g hg [.slice a3 EA.length c3, .slice b3 0 d3] 0)
  have x0 := hQ3.at 0 rfl
  have x1 := hQ3.at 1 rfl
  have xf := hQ3.frz
  clear hN hb hQ2' HB2 HOA2
  go_wp2_with fail
  rw [two_cells]
  clear x0 x1 xf hQ3
  generalize w3.setCells g 0 [.slice a3 EA.length c3, .slice b3 0 d3] = W3 at *
  rw [← HEA.out] at hQ3s hD3
  have hgW3 : g < W3.heap.size := hQ3s.lt
  have hW13 : W1.heap.size ≤ W1.heap.size := Nat.le_refl _
  refine (kputs_any w W3 g p1 q1 X1 A a3 c3 b3 d3 HAok.out HAl.out M1.out.1 M1.out.2.1 M1.out.2.2 H1.out HB3.out hg hQ3s hD3 HV.out).mono ?_
  rintro e w4 ⟨⟨vb, YB, a4, c4, b4, d4, rfl, ⟨hOB, hRB⟩, hYB, hQ4, hD4⟩, hO4⟩
  have HBok := Lib.hid (Orangery.okL_all ((X1.map (·.1)).take 20))
  have HBl := Lib.hid (okL_few (X1.map (·.1)))
  generalize okL ((X1.map (·.1)).take 20) = B at *
  obtain ⟨EB, hEB⟩ : ∃ z, encR B = z := ⟨_, rfl⟩
  have HEB : Hid (encR B = EB) := hEB
  have hEBl : EB.length ≤ 7080 := by rw [← hEB]; exact enc_small B HBok.out (by have := HBl.out; omega)
  rw [hEB, HEA.out] at hQ4 hD4
  clear hEB
  have HB4 := Lib.hid (HB3.out.trans ((hO4.below (by omega)).mono hg))
  have HOA4 := Lib.hid (HOA3.out.grown hO4 (fun z ez => by simp at ez; omega))
  obtain ⟨aB, cB, rfl, -, hcB⟩ := OwnE.val hOB
  have HOB4 := Lib.hid hOB
  have HYB : Hid (YB.map (·.1) = B) := hYB
  have HNB : Hid (aB = none → cB = 0) := ownE_cap hOB
  have HRB : Hid (∀ y ∈ YB, RootsIn w.heap.size w y) := hRB
  clear hOB hYB hRB hO4 hQ3s hD3 HB3 HOA3
  obtain ⟨kk, hkk, hkl⟩ := at_within n EB.length
  have HAt : Hid (atI n ((EB.length : Int) + 1) = (kk : Int)) := hkk
  have HK2 := Lib.hid (keeps2 A B HAok.out HBok.out HAl.out HBl.out kk (by rw [HEB.out]; exact hkl))
  obtain ⟨j, hj, hv1, hv2, hv3⟩ := keeps3 A B HAok.out HBok.out HAl.out HBl.out kk
  obtain ⟨L, hL⟩ : ∃ z, A ++ B.take j = z := ⟨_, rfl⟩
  have hLl : L.length = A.length + j := by rw [← hL, List.length_append, List.length_take, Nat.min_eq_left hj]
  have HLT : Hid ((A ++ B).take L.length = L) := by show _ = _; rw [← hL]; exact keep_take A B j hj
  have hLok : ∀ r ∈ L, checkRec r = 0 := by rw [← hL]; exact keep_ok A B HAok.out HBok.out j
  have HAG := Lib.hid (keeps4 L hLok (by have := HAl.out; have := HBl.out; omega))
  rw [hL] at hv2 hv3
  obtain ⟨EL, hEL⟩ : ∃ z, encR L = z := ⟨_, rfl⟩
  have HELl : Hid (EL.length ≤ 7080) := by show _ ≤ _; rw [← hEL]; exact enc_small L hLok (by have := HAl.out; have := HBl.out; omega)
  rw [hEL] at hv2
  rw [hEL] at HAG
  rw [HEA.out, HEB.out] at hv1 hv2 hv3
  rw [HEA.out, HEB.out] at HK2
  obtain ⟨T5, hT5⟩ : ∃ z, EB.take kk = z := ⟨_, rfl⟩
  rw [hT5] at hv1 hv2 hv3
  rw [hT5] at HK2
  have HRV : Hid (diskE EA T5 = 0 ∧ rcvS EA T5 = EL ∧ rcvL EA T5 = L) := ⟨hv1, hv2, hv3⟩
  have hYAl : YA.length = A.length := by have := congrArg List.length HYA.out; simpa using this
  have hYBl : YB.length = B.length := by have := congrArg List.length HYB.out; simpa using this
  have hAl20 : A.length ≤ 20 := HAl.out
  have hBl20 : B.length ≤ 20 := HBl.out
  have HLN : Hid (L.length = YA.length + j ∧ j ≤ YB.length ∧ YA.length ≤ 20 ∧ YB.length ≤ 20) := ⟨by omega, by omega, by omega, by omega⟩
  clear hv1 hv2 hv3 hL hLl hLok hEL hT5 hkk hj hYAl hYBl hAl20 hBl20
  go_upto_region 10 with fail
  have hbd : Below w4.heap.size w4 w4.drew := (Below.refl _ w4).drew
  have hQ0 := hQ4.drew
  have hD0 := hD4.keep hbd
  have HOA0 := Lib.hid (OwnE.keep HOA4.out hbd)
  have HOB0 := Lib.hid (OwnE.keep HOB4.out hbd)
  have hS0 : Below w.heap.size w w4.drew := HB4.out.drew
  clear hbd hQ4 hD4 HOA4 HOB4 HB4
  refine wp_region_held_drew (S := fun w' => Below w.heap.size w w') (by kernel_rfl) hS0 (fun hHeld => ?_)
  generalize w4.drew = V0 at *
  have hgV : g < V0.heap.size := hQ0.lt
  have hwn : IntKind.i64.wrap ((EB.length : Int) + 1) = (EB.length : Int) + 1 := by rw [IntKind.wrap_i64]; omega
  refine take_yes 1 34 (v := ?_) rfl rfl (by kernel_rfl) (by kernel_rfl) (by kernel_rfl) (fun _ _ _ h => h) (by rfl) ?_ hHeld ?_
  rotate_left 1
  · (intro w hSw; go_simp; try with_reducible rfl)
  simp only [Act.put, List.setIfInBounds_toArray, List.set_cons_succ, List.set_cons_zero]
  refine take_yes 2 35 (v := ?_) rfl rfl (by kernel_rfl) (by kernel_rfl) (by kernel_rfl) (fun _ _ _ h => h) (by rfl) ?_ hHeld ?_
  rotate_left 1
  · (intro w hSw; go_simp; try with_reducible rfl)
  simp only [Act.put, List.setIfInBounds_toArray, List.set_cons_succ, List.set_cons_zero]
  refine wpAnyH_ready (rs := [0, 3]) (by kernel_rfl) (by simp) ?_
  refine AllReadyH.cons rfl (fun KK hKK => ?_) (AllReadyH.cons rfl (fun KK hKK => ?_) AllReadyH.nil)
  · skip
    have x0 := hQ0.at 0 rfl
    have x1 := hQ0.at 1 rfl
    go_simp
    refine hKK.out _ _ hS0 (fun hHeld => ?_)
    clear hKK KK
    clear x0 x1
    refine wpAnyH_ready (rs := [3]) (by kernel_rfl) (by simp) ?_
    refine AllReadyH.cons rfl (fun KK hKK => ?_) AllReadyH.nil
    have x0 := hQ0.at 0 rfl
    have x1 := hQ0.at 1 rfl
    go_simp
    refine hKK.out _ _ hS0 (fun hHeld => ?_)
    clear hKK KK
    clear x0 x1
    refine take_yes 4 37 (v := ?_) rfl rfl (by kernel_rfl) (by kernel_rfl) (by kernel_rfl) (fun _ _ _ h => h) (by rfl) ?_ hHeld ?_
    rotate_left 1
    · (intro w hSw; go_simp; try with_reducible rfl)
    simp only [Act.put, List.setIfInBounds_toArray, List.set_cons_succ, List.set_cons_zero]
    refine take_yes 5 38 (v := ?_) rfl rfl (by kernel_rfl) (by kernel_rfl) (by kernel_rfl) (fun _ _ _ h => h) (by rfl) ?_ hHeld ?_
    rotate_left 1
    · (intro w hSw; go_simp; try with_reducible rfl)
    simp only [Act.put, List.setIfInBounds_toArray, List.set_cons_succ, List.set_cons_zero]
    refine wpAnyH_ready (rs := [6]) (by kernel_rfl) (by simp) ?_
    refine AllReadyH.cons rfl (fun KK hKK => ?_) AllReadyH.nil
    go_simp
    refine (at_any V0 n ((EB.length : Int) + 1) (by omega) (by omega)).mono ?_
    rintro e V0 ⟨rfl, rfl⟩
    rw [HAt.out]
    go_wp2_with fail
    refine hKK.out _ _ hS0 (fun hHeld => ?_)
    clear hKK KK
    refine wpAnyH_ready (rs := [7]) (by kernel_rfl) (by simp) ?_
    refine AllReadyH.cons rfl (fun KK hKK => ?_) AllReadyH.nil
    go_simp
    have hp := kcrash_any V0 _ EA EB kk hD0 (HV.out.on hS0)
    rw [HK2.out.1, HK2.out.2.1, HK2.out.2.2] at hp
    refine hp.mono ?_
    rintro e w5 ⟨⟨v5, rfl, hN⟩, hb⟩
    clear hp
    have hN' := hN
    obtain ⟨a5, c5, b5, d5, rfl, -⟩ := hN'
    have hS5 : Below w.heap.size w w5 := hS0.trans (hb.mono hS0.size)
    have hQ5 := hQ0.keep hb
    have HOA5 := Lib.hid (OwnE.keep HOA0.out hb)
    have HOB5 := Lib.hid (OwnE.keep HOB0.out hb)
    go_wp2_with fail
    refine hKK.out _ _ hS5 (fun hHeld => ?_)
    clear hKK KK
    refine take_yes 8 32 (v := ?_) rfl rfl (by kernel_rfl) (by kernel_rfl) (by kernel_rfl) (fun _ _ _ h => h) (by rfl) ?_ hHeld ?_
    rotate_left 1
    · (intro w hSw; go_simp; try with_reducible rfl)
    simp only [Act.put, List.setIfInBounds_toArray, List.set_cons_succ, List.set_cons_zero]
    refine take_yes 9 41 (v := ?_) rfl rfl (by kernel_rfl) (by kernel_rfl) (by kernel_rfl) (fun _ _ _ h => h) (by rfl) ?_ hHeld ?_
    rotate_left 1
    · (intro w hSw; go_simp; try with_reducible rfl)
    simp only [Act.put, List.setIfInBounds_toArray, List.set_cons_succ, List.set_cons_zero]
    refine take_yes 10 42 (v := ?_) rfl rfl (by kernel_rfl) (by kernel_rfl) (by kernel_rfl) (fun _ _ _ h => h) (by rfl) ?_ hHeld ?_
    rotate_left 1
    · (intro w hSw; go_simp; try with_reducible rfl)
    simp only [Act.put, List.setIfInBounds_toArray, List.set_cons_succ, List.set_cons_zero]
    refine step_store 11 41 g [.slice a5 EA.length c5, .slice b5 T5.length d5] (by kernel_rfl) rfl rfl (by rfl) (by rfl) (by rfl) (by rfl) hQ5.there sizeDisk ?_ ?_ ?_
    · intro v hv; simp at hv; rcases hv with rfl | rfl <;> rfl
    · exact (show Below w.heap.size w (w5.setCells g 0 [.slice a5 EA.length c5, .slice b5 T5.length d5]) from below_sets hS5 g hg _ 0)
    have hHeld := (show Below w.heap.size w (w5.setCells g 0 [.slice a5 EA.length c5, .slice b5 T5.length d5]) from below_sets hS5 g hg _ 0)
    refine take_yes 12 10 (v := ?_) rfl rfl (by kernel_rfl) (by kernel_rfl) (by kernel_rfl) (fun _ _ _ h => h) (by rfl) ?_ hHeld ?_
    rotate_left 1
    · (intro w hSw; go_simp; try with_reducible rfl)
    simp only [Act.put, List.setIfInBounds_toArray, List.set_cons_succ, List.set_cons_zero]
    refine wpAnyH_done (by kernel_rfl) ?_ _
    have hD5 := hN.sets hgV [.slice a5 EA.length c5, .slice b5 T5.length d5] 0
    have hQ5s := hQ5.sets [.slice a5 EA.length c5, .slice b5 T5.length d5] rfl
    have HOA6 := Lib.hid (OwnE.others g hgW [.slice a5 EA.length c5, .slice b5 T5.length d5] 0 _ HOA5.out)
    have HOB6 := Lib.hid (OwnE.others g hgW3 [.slice a5 EA.length c5, .slice b5 T5.length d5] 0 _ HOB5.out)
    have HB6 : Hid (Below w.heap.size w (w5.setCells g 0 [.slice a5 EA.length c5, .slice b5 T5.length d5])) := below_sets hS5 g hg _ 0
    clear hHeld hN hQ5 HOA5 HOB5 hS5 hb hQ0 hD0 HOA0 HOB0 hS0
    generalize w5.setCells g 0 [.slice a5 EA.length c5, .slice b5 T5.length d5] = W5 at *
    have x0 := hQ5s.at 0 rfl
    have x1 := hQ5s.at 1 rfl
    go_wp2_with fail
    clear x0 x1
    have hp := krecover_any W5 _ EA T5 hD5 (HV.out.on HB6.out)
    rw [HRV.out.1, HRV.out.2.1, HRV.out.2.2] at hp
    refine hp.mono ?_
    rintro e w6 ⟨⟨v6, lv6, X6, rfl, hN6, hO6, hX6⟩, hb⟩
    clear hp hD5 hQ5s
    obtain ⟨a6, c6, b6, d6, rfl, hs6, ht6, -, -⟩ := hN6
    have HB7 := Lib.hid (HB6.out.trans (hb.mono HB6.out.size))
    have HOA7 := Lib.hid (OwnE.keep HOA6.out hb)
    have HOB7 := Lib.hid (OwnE.keep HOB6.out hb)
    obtain ⟨aL, cL, rfl, -, hcL, -⟩ := hO6.val
    have hX6l : X6.length = L.length := by have := congrArg List.length hX6; simpa using this
    have HX6 : Hid (X6.map (·.1) = L) := hX6
    have HL6 := Lib.hid hO6
    have hb2 := Go.Joins.below_alloc1 w6 (Obj.cells [.slice a6 EL.length c6, .slice b6 0 d6].toArray 41)
    have hK6 := Blk.new w6 [.slice a6 EL.length c6, .slice b6 0 d6] 41
    have HD6 : Hid (DkIs (w6.alloc (Obj.cells [.slice a6 EL.length c6, .slice b6 0 d6].toArray 41)) (dkV (.slice a6 EL.length c6) (.slice b6 0 d6)) EL []) := ⟨a6, c6, b6, d6, rfl, hs6.keep hb2, ht6.keep hb2⟩
    have HB8 := Lib.hid (HB7.out.trans (hb2.mono HB7.out.size))
    have HOA8 := Lib.hid (OwnE.keep HOA7.out hb2)
    have HOB8 := Lib.hid (OwnE.keep HOB7.out hb2)
    have HL8 := Lib.hid (HL6.out.keep hb2)
    have hln := HLN.out
    have d1 : decide ((X6.length : Int) < (YA.length : Int)) = false := by simp; omega
    have d2 : decide ((X6.length : Int) > (YA.length : Int) + (YB.length : Int)) = false := by simp; omega
    have HXL : Hid (X6.length = L.length) := hX6l
    have hXn : X6.length ≤ YA.length + YB.length := by omega
    have hXa : YA.length ≤ X6.length := by omega
    have d3 : ¬ X6.length < YA.length := by omega
    have d4 : ¬ YA.length + YB.length < X6.length := by omega
    have d5 : ¬ ((YA.length : Int) + (YB.length : Int) < (X6.length : Int)) := by omega
    have hX40 : X6.length ≤ 40 := by omega
    have hA20 : YA.length ≤ 20 := by omega
    have hB20 : YB.length ≤ 20 := by omega
    clear hb hs6 ht6 hO6 hX6 HB7 HOA7 HOB7 HL6 hb2 hX6l hln hcL HOA6 HOB6 HB6
    go_wp2_with fail
    obtain ⟨g12, hg12⟩ : ∃ z, w6.heap.size = z := ⟨_, rfl⟩
    have hsz6 : (w6.alloc (Obj.cells [.slice a6 EL.length c6, .slice b6 0 d6].toArray 41)).heap.size = g12 + 1 := by rw [World.size_alloc, hg12]
    rw [hg12] at hK6 ⊢
    have HSZ := Lib.hid hsz6
    clear hg12 hsz6
    generalize w6.alloc (Obj.cells [.slice a6 EL.length c6, .slice b6 0 d6].toArray 41) = V6 at *
    obtain ⟨W7, hW, hQ7, hB7, -⟩ := laid1 V6 [.slice aA YA.length cA, .slice aB YB.length cB] 38
    rw [hW]
    clear hW
    rw [HSZ.out] at hQ7
    have hK7 := hK6.keep hB7
    have HD7 := Lib.hid (HD6.out.keep hB7)
    have HB9 := Lib.hid (HB8.out.trans (hB7.mono HB8.out.size))
    have HL9 := Lib.hid (HL8.out.keep hB7)
    refine (concatRecs_any W7 (g12 + 1) aA aB cA cB YA YB (by omega) (by omega) HNA.out HNB.out (hQ7.at 0 rfl) (hQ7.at 1 rfl) (OwnE.keep HOA8.out hB7).read (OwnE.keep HOB8.out hB7).read).mono ?_
    rintro e w8 ⟨v8, rfl, hO8, hb⟩
    obtain ⟨Z, hZ⟩ : ∃ z, z = YA ++ YB := ⟨_, rfl⟩
    rw [← hZ] at hO8
    have hZl : Z.length = YA.length + YB.length := by rw [hZ]; simp
    have HZm : Hid ((Z.take X6.length).map (·.1) = L) := by
      show _ = _
      rw [List.map_take, hZ, List.map_append, HYA.out, HYB.out, HXL.out]
      exact HLT.out
    have HZr : Hid (∀ x ∈ Z.take X6.length, RootsIn w.heap.size w x) := by
      intro x hx
      have := List.mem_of_mem_take hx
      rw [hZ] at this
      rcases List.mem_append.1 this with h' | h'
      · exact HRA.out x h'
      · exact HRB.out x h'
    obtain ⟨a8, c8, rfl, -, hc8⟩ := OwnE.val hO8
    have hK8 := hK7.keep hb
    have HD8 := Lib.hid (HD7.out.keep hb)
    have HB10 := Lib.hid (HB9.out.trans (hb.mono HB9.out.size))
    have HL10 := Lib.hid (HL9.out.keep hb)
    have HZs := Lib.hid (OwnE.read hO8)
    have hcap8 : c8 ≤ 9223372036854775807 := ownE_max hO8
    have hX8 : X6.length ≤ c8 := by omega
    have hX8l : X6.length ≤ Z.length := by omega
    have HTk : Hid ((Z.take X6.length).length = X6.length) := by show _ = _; simp; omega
    clear hb hO8 hZ hQ7 hB7 hK6 hK7 HD6 HD7 HB8 HB9 HL8 HL9 HOA8 HOB8
    have HEQ := Lib.hid (eqFuncR_any w8 aL a8 cL c8 X6 (Z.take X6.length) 0 w.heap.size 11 (by omega) ⟨HL10.out.own.read, HL10.out.roots⟩ ⟨SlE.take HZs.out X6.length, fun x hx => (HZr.out x hx).keep HB10.out⟩ nsame_enters (fun W x y hx hy => nsameRm 0 w.heap.size W x y hx hy))
    rw [eqRs_yes (HX6.out.trans HZm.out.symm), HTk.out] at HEQ
    clear hZl
    go_wp2_with fail
    refine HEQ.out.mono ?_
    rintro e w9 ⟨rfl, hb⟩
    have hK9 := hK8.keep hb
    have HD9 := Lib.hid (HD8.out.keep hb)
    have HB11 := Lib.hid (HB10.out.trans (hb.mono HB10.out.size))
    have HL11 := Lib.hid (HL10.out.keep hb)
    clear hb hK8 HD8 HB10 HL10 HEQ HZs
    have x0 := hK9.at 0 rfl
    have x1 := hK9.at 1 rfl
    go_wp2_with fail
    clear x0 x1
    have hp := krecover_any w9 _ EL [] HD9.out (HV.out.on HB11.out)
    rw [HAG.out.1, HAG.out.2.1, HAG.out.2.2] at hp
    refine hp.mono ?_
    rintro e w10 ⟨⟨v10, lv10, X10, rfl, hN10, hO10, hX10⟩, hb⟩
    clear hp
    obtain ⟨a9, c9, b9, d9, rfl, hs9, ht9, -, -⟩ := hN10
    obtain ⟨aM, cM, rfl, -, -, -⟩ := hO10.val
    have HX10 : Hid (X10.map (·.1) = L) := hX10
    have hX10l : X10.length ≤ 1000 := by
      have e1 := congrArg List.length hX10
      rw [List.length_map] at e1
      have := HXL.out
      omega
    have hb2 := Go.Joins.below_alloc1 w10 (Obj.cells [.slice a9 EL.length c9, .slice b9 0 d9].toArray 41)
    have hb3 := hb.trans (hb2.mono hb.size)
    have hK10 := hK9.keep hb3
    have HD10 := Lib.hid (HD9.out.keep hb3)
    have HB12 := Lib.hid (HB11.out.trans (hb3.mono HB11.out.size))
    have HL12 := Lib.hid (HL11.out.keep hb3)
    have HM12 := Lib.hid (hO10.keep hb2)
    have hK14 := Blk.new w10 [.slice a9 EL.length c9, .slice b9 0 d9] 41
    have HD14 : Hid (DkIs (w10.alloc (Obj.cells [.slice a9 EL.length c9, .slice b9 0 d9].toArray 41)) (dkV (.slice a9 EL.length c9) (.slice b9 0 d9)) EL []) := ⟨a9, c9, b9, d9, rfl, hs9.keep hb2, ht9.keep hb2⟩
    clear hb hb2 hb3 hK9 HD9 HB11 HL11 hO10 hX10 hs9 ht9
    have x0 := hK10.at 0 rfl
    have x1 := hK10.at 1 rfl
    go_wp2_with fail
    clear x0 x1
    obtain ⟨g14, hg14⟩ : ∃ z, w10.heap.size = z := ⟨_, rfl⟩
    rw [hg14] at hK14 ⊢
    clear hg14
    generalize w10.alloc (Obj.cells [.slice a9 EL.length c9, .slice b9 0 d9].toArray 41) = V10 at *
    have hp := ksame_any V10 _ _ EL [] EL [] HD14.out HD10.out
    rw [eqB_self, eqB_self] at hp
    refine hp.mono ?_
    rintro e w11 ⟨rfl, hb⟩
    have hK11 := hK10.keep hb
    have HB13 := Lib.hid (HB12.out.trans (hb.mono HB12.out.size))
    have HL13 := Lib.hid (HL12.out.keep hb)
    have HM13 := Lib.hid (HM12.out.keep hb)
    clear hp hb hK10 hK14 HD10 HD14 HB12 HL12 HM12
    have HEQ := Lib.hid (eqFuncR_any w11 aM aL cM cL X10 X6 0 0 11 hX10l ⟨HM13.out.own.read, HM13.out.roots⟩ ⟨HL13.out.own.read, HL13.out.roots⟩ nsame_enters (fun W x y hx hy => nsameRm 0 0 W x y hx hy))
    rw [eqRs_yes (HX10.out.trans HX6.out.symm)] at HEQ
    go_wp2_with fail
    refine HEQ.out.mono ?_
    rintro e w12 ⟨rfl, hb⟩
    have hK12 := hK11.keep hb
    have HB14 := Lib.hid (HB13.out.trans (hb.mono HB13.out.size))
    clear hb hK11 HB13 HL13 HM13 HEQ
    have x1 := hK12.at 1 rfl
    go_wp2
    go_ret
    exact ⟨rfl, HB14.out⟩
  · skip
    have x0 := hQ0.at 0 rfl
    have x1 := hQ0.at 1 rfl
    go_simp
    refine hKK.out _ _ hS0 (fun hHeld => ?_)
    clear hKK KK
    clear x0 x1
    refine take_yes 4 37 (v := ?_) rfl rfl (by kernel_rfl) (by kernel_rfl) (by kernel_rfl) (fun _ _ _ h => h) (by rfl) ?_ hHeld ?_
    rotate_left 1
    · (intro w hSw; go_simp; try with_reducible rfl)
    simp only [Act.put, List.setIfInBounds_toArray, List.set_cons_succ, List.set_cons_zero]
    refine take_yes 5 38 (v := ?_) rfl rfl (by kernel_rfl) (by kernel_rfl) (by kernel_rfl) (fun _ _ _ h => h) (by rfl) ?_ hHeld ?_
    rotate_left 1
    · (intro w hSw; go_simp; try with_reducible rfl)
    simp only [Act.put, List.setIfInBounds_toArray, List.set_cons_succ, List.set_cons_zero]
    refine wpAnyH_ready (rs := [0, 6]) (by kernel_rfl) (by simp) ?_
    refine AllReadyH.cons rfl (fun KK hKK => ?_) (AllReadyH.cons rfl (fun KK hKK => ?_) AllReadyH.nil)
    · skip
      have x0 := hQ0.at 0 rfl
      have x1 := hQ0.at 1 rfl
      go_simp
      refine hKK.out _ _ hS0 (fun hHeld => ?_)
      clear hKK KK
      clear x0 x1
      refine wpAnyH_ready (rs := [6]) (by kernel_rfl) (by simp) ?_
      refine AllReadyH.cons rfl (fun KK hKK => ?_) AllReadyH.nil
      go_simp
      refine (at_any V0 n ((EB.length : Int) + 1) (by omega) (by omega)).mono ?_
      rintro e V0 ⟨rfl, rfl⟩
      rw [HAt.out]
      go_wp2_with fail
      refine hKK.out _ _ hS0 (fun hHeld => ?_)
      clear hKK KK
      refine wpAnyH_ready (rs := [7]) (by kernel_rfl) (by simp) ?_
      refine AllReadyH.cons rfl (fun KK hKK => ?_) AllReadyH.nil
      go_simp
      have hp := kcrash_any V0 _ EA EB kk hD0 (HV.out.on hS0)
      rw [HK2.out.1, HK2.out.2.1, HK2.out.2.2] at hp
      refine hp.mono ?_
      rintro e w5 ⟨⟨v5, rfl, hN⟩, hb⟩
      clear hp
      have hN' := hN
      obtain ⟨a5, c5, b5, d5, rfl, -⟩ := hN'
      have hS5 : Below w.heap.size w w5 := hS0.trans (hb.mono hS0.size)
      have hQ5 := hQ0.keep hb
      have HOA5 := Lib.hid (OwnE.keep HOA0.out hb)
      have HOB5 := Lib.hid (OwnE.keep HOB0.out hb)
      go_wp2_with fail
      refine hKK.out _ _ hS5 (fun hHeld => ?_)
      clear hKK KK
      refine take_yes 8 32 (v := ?_) rfl rfl (by kernel_rfl) (by kernel_rfl) (by kernel_rfl) (fun _ _ _ h => h) (by rfl) ?_ hHeld ?_
      rotate_left 1
      · (intro w hSw; go_simp; try with_reducible rfl)
      simp only [Act.put, List.setIfInBounds_toArray, List.set_cons_succ, List.set_cons_zero]
      refine take_yes 9 41 (v := ?_) rfl rfl (by kernel_rfl) (by kernel_rfl) (by kernel_rfl) (fun _ _ _ h => h) (by rfl) ?_ hHeld ?_
      rotate_left 1
      · (intro w hSw; go_simp; try with_reducible rfl)
      simp only [Act.put, List.setIfInBounds_toArray, List.set_cons_succ, List.set_cons_zero]
      refine take_yes 10 42 (v := ?_) rfl rfl (by kernel_rfl) (by kernel_rfl) (by kernel_rfl) (fun _ _ _ h => h) (by rfl) ?_ hHeld ?_
      rotate_left 1
      · (intro w hSw; go_simp; try with_reducible rfl)
      simp only [Act.put, List.setIfInBounds_toArray, List.set_cons_succ, List.set_cons_zero]
      refine step_store 11 41 g [.slice a5 EA.length c5, .slice b5 T5.length d5] (by kernel_rfl) rfl rfl (by rfl) (by rfl) (by rfl) (by rfl) hQ5.there sizeDisk ?_ ?_ ?_
      · intro v hv; simp at hv; rcases hv with rfl | rfl <;> rfl
      · exact (show Below w.heap.size w (w5.setCells g 0 [.slice a5 EA.length c5, .slice b5 T5.length d5]) from below_sets hS5 g hg _ 0)
      have hHeld := (show Below w.heap.size w (w5.setCells g 0 [.slice a5 EA.length c5, .slice b5 T5.length d5]) from below_sets hS5 g hg _ 0)
      refine take_yes 12 10 (v := ?_) rfl rfl (by kernel_rfl) (by kernel_rfl) (by kernel_rfl) (fun _ _ _ h => h) (by rfl) ?_ hHeld ?_
      rotate_left 1
      · (intro w hSw; go_simp; try with_reducible rfl)
      simp only [Act.put, List.setIfInBounds_toArray, List.set_cons_succ, List.set_cons_zero]
      refine wpAnyH_done (by kernel_rfl) ?_ _
      have hD5 := hN.sets hgV [.slice a5 EA.length c5, .slice b5 T5.length d5] 0
      have hQ5s := hQ5.sets [.slice a5 EA.length c5, .slice b5 T5.length d5] rfl
      have HOA6 := Lib.hid (OwnE.others g hgW [.slice a5 EA.length c5, .slice b5 T5.length d5] 0 _ HOA5.out)
      have HOB6 := Lib.hid (OwnE.others g hgW3 [.slice a5 EA.length c5, .slice b5 T5.length d5] 0 _ HOB5.out)
      have HB6 : Hid (Below w.heap.size w (w5.setCells g 0 [.slice a5 EA.length c5, .slice b5 T5.length d5])) := below_sets hS5 g hg _ 0
      clear hHeld hN hQ5 HOA5 HOB5 hS5 hb hQ0 hD0 HOA0 HOB0 hS0
      generalize w5.setCells g 0 [.slice a5 EA.length c5, .slice b5 T5.length d5] = W5 at *
      have x0 := hQ5s.at 0 rfl
      have x1 := hQ5s.at 1 rfl
      go_wp2_with fail
      clear x0 x1
      have hp := krecover_any W5 _ EA T5 hD5 (HV.out.on HB6.out)
      rw [HRV.out.1, HRV.out.2.1, HRV.out.2.2] at hp
      refine hp.mono ?_
      rintro e w6 ⟨⟨v6, lv6, X6, rfl, hN6, hO6, hX6⟩, hb⟩
      clear hp hD5 hQ5s
      obtain ⟨a6, c6, b6, d6, rfl, hs6, ht6, -, -⟩ := hN6
      have HB7 := Lib.hid (HB6.out.trans (hb.mono HB6.out.size))
      have HOA7 := Lib.hid (OwnE.keep HOA6.out hb)
      have HOB7 := Lib.hid (OwnE.keep HOB6.out hb)
      obtain ⟨aL, cL, rfl, -, hcL, -⟩ := hO6.val
      have hX6l : X6.length = L.length := by have := congrArg List.length hX6; simpa using this
      have HX6 : Hid (X6.map (·.1) = L) := hX6
      have HL6 := Lib.hid hO6
      have hb2 := Go.Joins.below_alloc1 w6 (Obj.cells [.slice a6 EL.length c6, .slice b6 0 d6].toArray 41)
      have hK6 := Blk.new w6 [.slice a6 EL.length c6, .slice b6 0 d6] 41
      have HD6 : Hid (DkIs (w6.alloc (Obj.cells [.slice a6 EL.length c6, .slice b6 0 d6].toArray 41)) (dkV (.slice a6 EL.length c6) (.slice b6 0 d6)) EL []) := ⟨a6, c6, b6, d6, rfl, hs6.keep hb2, ht6.keep hb2⟩
      have HB8 := Lib.hid (HB7.out.trans (hb2.mono HB7.out.size))
      have HOA8 := Lib.hid (OwnE.keep HOA7.out hb2)
      have HOB8 := Lib.hid (OwnE.keep HOB7.out hb2)
      have HL8 := Lib.hid (HL6.out.keep hb2)
      have hln := HLN.out
      have d1 : decide ((X6.length : Int) < (YA.length : Int)) = false := by simp; omega
      have d2 : decide ((X6.length : Int) > (YA.length : Int) + (YB.length : Int)) = false := by simp; omega
      have HXL : Hid (X6.length = L.length) := hX6l
      have hXn : X6.length ≤ YA.length + YB.length := by omega
      have hXa : YA.length ≤ X6.length := by omega
      have d3 : ¬ X6.length < YA.length := by omega
      have d4 : ¬ YA.length + YB.length < X6.length := by omega
      have d5 : ¬ ((YA.length : Int) + (YB.length : Int) < (X6.length : Int)) := by omega
      have hX40 : X6.length ≤ 40 := by omega
      have hA20 : YA.length ≤ 20 := by omega
      have hB20 : YB.length ≤ 20 := by omega
      clear hb hs6 ht6 hO6 hX6 HB7 HOA7 HOB7 HL6 hb2 hX6l hln hcL HOA6 HOB6 HB6
      go_wp2_with fail
      obtain ⟨g12, hg12⟩ : ∃ z, w6.heap.size = z := ⟨_, rfl⟩
      have hsz6 : (w6.alloc (Obj.cells [.slice a6 EL.length c6, .slice b6 0 d6].toArray 41)).heap.size = g12 + 1 := by rw [World.size_alloc, hg12]
      rw [hg12] at hK6 ⊢
      have HSZ := Lib.hid hsz6
      clear hg12 hsz6
      generalize w6.alloc (Obj.cells [.slice a6 EL.length c6, .slice b6 0 d6].toArray 41) = V6 at *
      obtain ⟨W7, hW, hQ7, hB7, -⟩ := laid1 V6 [.slice aA YA.length cA, .slice aB YB.length cB] 38
      rw [hW]
      clear hW
      rw [HSZ.out] at hQ7
      have hK7 := hK6.keep hB7
      have HD7 := Lib.hid (HD6.out.keep hB7)
      have HB9 := Lib.hid (HB8.out.trans (hB7.mono HB8.out.size))
      have HL9 := Lib.hid (HL8.out.keep hB7)
      refine (concatRecs_any W7 (g12 + 1) aA aB cA cB YA YB (by omega) (by omega) HNA.out HNB.out (hQ7.at 0 rfl) (hQ7.at 1 rfl) (OwnE.keep HOA8.out hB7).read (OwnE.keep HOB8.out hB7).read).mono ?_
      rintro e w8 ⟨v8, rfl, hO8, hb⟩
      obtain ⟨Z, hZ⟩ : ∃ z, z = YA ++ YB := ⟨_, rfl⟩
      rw [← hZ] at hO8
      have hZl : Z.length = YA.length + YB.length := by rw [hZ]; simp
      have HZm : Hid ((Z.take X6.length).map (·.1) = L) := by
        show _ = _
        rw [List.map_take, hZ, List.map_append, HYA.out, HYB.out, HXL.out]
        exact HLT.out
      have HZr : Hid (∀ x ∈ Z.take X6.length, RootsIn w.heap.size w x) := by
        intro x hx
        have := List.mem_of_mem_take hx
        rw [hZ] at this
        rcases List.mem_append.1 this with h' | h'
        · exact HRA.out x h'
        · exact HRB.out x h'
      obtain ⟨a8, c8, rfl, -, hc8⟩ := OwnE.val hO8
      have hK8 := hK7.keep hb
      have HD8 := Lib.hid (HD7.out.keep hb)
      have HB10 := Lib.hid (HB9.out.trans (hb.mono HB9.out.size))
      have HL10 := Lib.hid (HL9.out.keep hb)
      have HZs := Lib.hid (OwnE.read hO8)
      have hcap8 : c8 ≤ 9223372036854775807 := ownE_max hO8
      have hX8 : X6.length ≤ c8 := by omega
      have hX8l : X6.length ≤ Z.length := by omega
      have HTk : Hid ((Z.take X6.length).length = X6.length) := by show _ = _; simp; omega
      clear hb hO8 hZ hQ7 hB7 hK6 hK7 HD6 HD7 HB8 HB9 HL8 HL9 HOA8 HOB8
      have HEQ := Lib.hid (eqFuncR_any w8 aL a8 cL c8 X6 (Z.take X6.length) 0 w.heap.size 11 (by omega) ⟨HL10.out.own.read, HL10.out.roots⟩ ⟨SlE.take HZs.out X6.length, fun x hx => (HZr.out x hx).keep HB10.out⟩ nsame_enters (fun W x y hx hy => nsameRm 0 w.heap.size W x y hx hy))
      rw [eqRs_yes (HX6.out.trans HZm.out.symm), HTk.out] at HEQ
      clear hZl
      go_wp2_with fail
      refine HEQ.out.mono ?_
      rintro e w9 ⟨rfl, hb⟩
      have hK9 := hK8.keep hb
      have HD9 := Lib.hid (HD8.out.keep hb)
      have HB11 := Lib.hid (HB10.out.trans (hb.mono HB10.out.size))
      have HL11 := Lib.hid (HL10.out.keep hb)
      clear hb hK8 HD8 HB10 HL10 HEQ HZs
      have x0 := hK9.at 0 rfl
      have x1 := hK9.at 1 rfl
      go_wp2_with fail
      clear x0 x1
      have hp := krecover_any w9 _ EL [] HD9.out (HV.out.on HB11.out)
      rw [HAG.out.1, HAG.out.2.1, HAG.out.2.2] at hp
      refine hp.mono ?_
      rintro e w10 ⟨⟨v10, lv10, X10, rfl, hN10, hO10, hX10⟩, hb⟩
      clear hp
      obtain ⟨a9, c9, b9, d9, rfl, hs9, ht9, -, -⟩ := hN10
      obtain ⟨aM, cM, rfl, -, -, -⟩ := hO10.val
      have HX10 : Hid (X10.map (·.1) = L) := hX10
      have hX10l : X10.length ≤ 1000 := by
        have e1 := congrArg List.length hX10
        rw [List.length_map] at e1
        have := HXL.out
        omega
      have hb2 := Go.Joins.below_alloc1 w10 (Obj.cells [.slice a9 EL.length c9, .slice b9 0 d9].toArray 41)
      have hb3 := hb.trans (hb2.mono hb.size)
      have hK10 := hK9.keep hb3
      have HD10 := Lib.hid (HD9.out.keep hb3)
      have HB12 := Lib.hid (HB11.out.trans (hb3.mono HB11.out.size))
      have HL12 := Lib.hid (HL11.out.keep hb3)
      have HM12 := Lib.hid (hO10.keep hb2)
      have hK14 := Blk.new w10 [.slice a9 EL.length c9, .slice b9 0 d9] 41
      have HD14 : Hid (DkIs (w10.alloc (Obj.cells [.slice a9 EL.length c9, .slice b9 0 d9].toArray 41)) (dkV (.slice a9 EL.length c9) (.slice b9 0 d9)) EL []) := ⟨a9, c9, b9, d9, rfl, hs9.keep hb2, ht9.keep hb2⟩
      clear hb hb2 hb3 hK9 HD9 HB11 HL11 hO10 hX10 hs9 ht9
      have x0 := hK10.at 0 rfl
      have x1 := hK10.at 1 rfl
      go_wp2_with fail
      clear x0 x1
      obtain ⟨g14, hg14⟩ : ∃ z, w10.heap.size = z := ⟨_, rfl⟩
      rw [hg14] at hK14 ⊢
      clear hg14
      generalize w10.alloc (Obj.cells [.slice a9 EL.length c9, .slice b9 0 d9].toArray 41) = V10 at *
      have hp := ksame_any V10 _ _ EL [] EL [] HD14.out HD10.out
      rw [eqB_self, eqB_self] at hp
      refine hp.mono ?_
      rintro e w11 ⟨rfl, hb⟩
      have hK11 := hK10.keep hb
      have HB13 := Lib.hid (HB12.out.trans (hb.mono HB12.out.size))
      have HL13 := Lib.hid (HL12.out.keep hb)
      have HM13 := Lib.hid (HM12.out.keep hb)
      clear hp hb hK10 hK14 HD10 HD14 HB12 HL12 HM12
      have HEQ := Lib.hid (eqFuncR_any w11 aM aL cM cL X10 X6 0 0 11 hX10l ⟨HM13.out.own.read, HM13.out.roots⟩ ⟨HL13.out.own.read, HL13.out.roots⟩ nsame_enters (fun W x y hx hy => nsameRm 0 0 W x y hx hy))
      rw [eqRs_yes (HX10.out.trans HX6.out.symm)] at HEQ
      go_wp2_with fail
      refine HEQ.out.mono ?_
      rintro e w12 ⟨rfl, hb⟩
      have hK12 := hK11.keep hb
      have HB14 := Lib.hid (HB13.out.trans (hb.mono HB13.out.size))
      clear hb hK11 HB13 HL13 HM13 HEQ
      have x1 := hK12.at 1 rfl
      go_wp2
      go_ret
      exact ⟨rfl, HB14.out⟩
    · skip
      go_simp
      refine (at_any V0 n ((EB.length : Int) + 1) (by omega) (by omega)).mono ?_
      rintro e V0 ⟨rfl, rfl⟩
      rw [HAt.out]
      go_wp2_with fail
      refine hKK.out _ _ hS0 (fun hHeld => ?_)
      clear hKK KK
      refine wpAnyH_ready (rs := [0]) (by kernel_rfl) (by simp) ?_
      refine AllReadyH.cons rfl (fun KK hKK => ?_) AllReadyH.nil
      have x0 := hQ0.at 0 rfl
      have x1 := hQ0.at 1 rfl
      go_simp
      refine hKK.out _ _ hS0 (fun hHeld => ?_)
      clear hKK KK
      clear x0 x1
      refine wpAnyH_ready (rs := [7]) (by kernel_rfl) (by simp) ?_
      refine AllReadyH.cons rfl (fun KK hKK => ?_) AllReadyH.nil
      go_simp
      have hp := kcrash_any V0 _ EA EB kk hD0 (HV.out.on hS0)
      rw [HK2.out.1, HK2.out.2.1, HK2.out.2.2] at hp
      refine hp.mono ?_
      rintro e w5 ⟨⟨v5, rfl, hN⟩, hb⟩
      clear hp
      have hN' := hN
      obtain ⟨a5, c5, b5, d5, rfl, -⟩ := hN'
      have hS5 : Below w.heap.size w w5 := hS0.trans (hb.mono hS0.size)
      have hQ5 := hQ0.keep hb
      have HOA5 := Lib.hid (OwnE.keep HOA0.out hb)
      have HOB5 := Lib.hid (OwnE.keep HOB0.out hb)
      go_wp2_with fail
      refine hKK.out _ _ hS5 (fun hHeld => ?_)
      clear hKK KK
      refine take_yes 8 32 (v := ?_) rfl rfl (by kernel_rfl) (by kernel_rfl) (by kernel_rfl) (fun _ _ _ h => h) (by rfl) ?_ hHeld ?_
      rotate_left 1
      · (intro w hSw; go_simp; try with_reducible rfl)
      simp only [Act.put, List.setIfInBounds_toArray, List.set_cons_succ, List.set_cons_zero]
      refine take_yes 9 41 (v := ?_) rfl rfl (by kernel_rfl) (by kernel_rfl) (by kernel_rfl) (fun _ _ _ h => h) (by rfl) ?_ hHeld ?_
      rotate_left 1
      · (intro w hSw; go_simp; try with_reducible rfl)
      simp only [Act.put, List.setIfInBounds_toArray, List.set_cons_succ, List.set_cons_zero]
      refine take_yes 10 42 (v := ?_) rfl rfl (by kernel_rfl) (by kernel_rfl) (by kernel_rfl) (fun _ _ _ h => h) (by rfl) ?_ hHeld ?_
      rotate_left 1
      · (intro w hSw; go_simp; try with_reducible rfl)
      simp only [Act.put, List.setIfInBounds_toArray, List.set_cons_succ, List.set_cons_zero]
      refine step_store 11 41 g [.slice a5 EA.length c5, .slice b5 T5.length d5] (by kernel_rfl) rfl rfl (by rfl) (by rfl) (by rfl) (by rfl) hQ5.there sizeDisk ?_ ?_ ?_
      · intro v hv; simp at hv; rcases hv with rfl | rfl <;> rfl
      · exact (show Below w.heap.size w (w5.setCells g 0 [.slice a5 EA.length c5, .slice b5 T5.length d5]) from below_sets hS5 g hg _ 0)
      have hHeld := (show Below w.heap.size w (w5.setCells g 0 [.slice a5 EA.length c5, .slice b5 T5.length d5]) from below_sets hS5 g hg _ 0)
      refine take_yes 12 10 (v := ?_) rfl rfl (by kernel_rfl) (by kernel_rfl) (by kernel_rfl) (fun _ _ _ h => h) (by rfl) ?_ hHeld ?_
      rotate_left 1
      · (intro w hSw; go_simp; try with_reducible rfl)
      simp only [Act.put, List.setIfInBounds_toArray, List.set_cons_succ, List.set_cons_zero]
      refine wpAnyH_done (by kernel_rfl) ?_ _
      have hD5 := hN.sets hgV [.slice a5 EA.length c5, .slice b5 T5.length d5] 0
      have hQ5s := hQ5.sets [.slice a5 EA.length c5, .slice b5 T5.length d5] rfl
      have HOA6 := Lib.hid (OwnE.others g hgW [.slice a5 EA.length c5, .slice b5 T5.length d5] 0 _ HOA5.out)
      have HOB6 := Lib.hid (OwnE.others g hgW3 [.slice a5 EA.length c5, .slice b5 T5.length d5] 0 _ HOB5.out)
      have HB6 : Hid (Below w.heap.size w (w5.setCells g 0 [.slice a5 EA.length c5, .slice b5 T5.length d5])) := below_sets hS5 g hg _ 0
      clear hHeld hN hQ5 HOA5 HOB5 hS5 hb hQ0 hD0 HOA0 HOB0 hS0
      generalize w5.setCells g 0 [.slice a5 EA.length c5, .slice b5 T5.length d5] = W5 at *
      have x0 := hQ5s.at 0 rfl
      have x1 := hQ5s.at 1 rfl
      go_wp2_with fail
      clear x0 x1
      have hp := krecover_any W5 _ EA T5 hD5 (HV.out.on HB6.out)
      rw [HRV.out.1, HRV.out.2.1, HRV.out.2.2] at hp
      refine hp.mono ?_
      rintro e w6 ⟨⟨v6, lv6, X6, rfl, hN6, hO6, hX6⟩, hb⟩
      clear hp hD5 hQ5s
      obtain ⟨a6, c6, b6, d6, rfl, hs6, ht6, -, -⟩ := hN6
      have HB7 := Lib.hid (HB6.out.trans (hb.mono HB6.out.size))
      have HOA7 := Lib.hid (OwnE.keep HOA6.out hb)
      have HOB7 := Lib.hid (OwnE.keep HOB6.out hb)
      obtain ⟨aL, cL, rfl, -, hcL, -⟩ := hO6.val
      have hX6l : X6.length = L.length := by have := congrArg List.length hX6; simpa using this
      have HX6 : Hid (X6.map (·.1) = L) := hX6
      have HL6 := Lib.hid hO6
      have hb2 := Go.Joins.below_alloc1 w6 (Obj.cells [.slice a6 EL.length c6, .slice b6 0 d6].toArray 41)
      have hK6 := Blk.new w6 [.slice a6 EL.length c6, .slice b6 0 d6] 41
      have HD6 : Hid (DkIs (w6.alloc (Obj.cells [.slice a6 EL.length c6, .slice b6 0 d6].toArray 41)) (dkV (.slice a6 EL.length c6) (.slice b6 0 d6)) EL []) := ⟨a6, c6, b6, d6, rfl, hs6.keep hb2, ht6.keep hb2⟩
      have HB8 := Lib.hid (HB7.out.trans (hb2.mono HB7.out.size))
      have HOA8 := Lib.hid (OwnE.keep HOA7.out hb2)
      have HOB8 := Lib.hid (OwnE.keep HOB7.out hb2)
      have HL8 := Lib.hid (HL6.out.keep hb2)
      have hln := HLN.out
      have d1 : decide ((X6.length : Int) < (YA.length : Int)) = false := by simp; omega
      have d2 : decide ((X6.length : Int) > (YA.length : Int) + (YB.length : Int)) = false := by simp; omega
      have HXL : Hid (X6.length = L.length) := hX6l
      have hXn : X6.length ≤ YA.length + YB.length := by omega
      have hXa : YA.length ≤ X6.length := by omega
      have d3 : ¬ X6.length < YA.length := by omega
      have d4 : ¬ YA.length + YB.length < X6.length := by omega
      have d5 : ¬ ((YA.length : Int) + (YB.length : Int) < (X6.length : Int)) := by omega
      have hX40 : X6.length ≤ 40 := by omega
      have hA20 : YA.length ≤ 20 := by omega
      have hB20 : YB.length ≤ 20 := by omega
      clear hb hs6 ht6 hO6 hX6 HB7 HOA7 HOB7 HL6 hb2 hX6l hln hcL HOA6 HOB6 HB6
      go_wp2_with fail
      obtain ⟨g12, hg12⟩ : ∃ z, w6.heap.size = z := ⟨_, rfl⟩
      have hsz6 : (w6.alloc (Obj.cells [.slice a6 EL.length c6, .slice b6 0 d6].toArray 41)).heap.size = g12 + 1 := by rw [World.size_alloc, hg12]
      rw [hg12] at hK6 ⊢
      have HSZ := Lib.hid hsz6
      clear hg12 hsz6
      generalize w6.alloc (Obj.cells [.slice a6 EL.length c6, .slice b6 0 d6].toArray 41) = V6 at *
      obtain ⟨W7, hW, hQ7, hB7, -⟩ := laid1 V6 [.slice aA YA.length cA, .slice aB YB.length cB] 38
      rw [hW]
      clear hW
      rw [HSZ.out] at hQ7
      have hK7 := hK6.keep hB7
      have HD7 := Lib.hid (HD6.out.keep hB7)
      have HB9 := Lib.hid (HB8.out.trans (hB7.mono HB8.out.size))
      have HL9 := Lib.hid (HL8.out.keep hB7)
      refine (concatRecs_any W7 (g12 + 1) aA aB cA cB YA YB (by omega) (by omega) HNA.out HNB.out (hQ7.at 0 rfl) (hQ7.at 1 rfl) (OwnE.keep HOA8.out hB7).read (OwnE.keep HOB8.out hB7).read).mono ?_
      rintro e w8 ⟨v8, rfl, hO8, hb⟩
      obtain ⟨Z, hZ⟩ : ∃ z, z = YA ++ YB := ⟨_, rfl⟩
      rw [← hZ] at hO8
      have hZl : Z.length = YA.length + YB.length := by rw [hZ]; simp
      have HZm : Hid ((Z.take X6.length).map (·.1) = L) := by
        show _ = _
        rw [List.map_take, hZ, List.map_append, HYA.out, HYB.out, HXL.out]
        exact HLT.out
      have HZr : Hid (∀ x ∈ Z.take X6.length, RootsIn w.heap.size w x) := by
        intro x hx
        have := List.mem_of_mem_take hx
        rw [hZ] at this
        rcases List.mem_append.1 this with h' | h'
        · exact HRA.out x h'
        · exact HRB.out x h'
      obtain ⟨a8, c8, rfl, -, hc8⟩ := OwnE.val hO8
      have hK8 := hK7.keep hb
      have HD8 := Lib.hid (HD7.out.keep hb)
      have HB10 := Lib.hid (HB9.out.trans (hb.mono HB9.out.size))
      have HL10 := Lib.hid (HL9.out.keep hb)
      have HZs := Lib.hid (OwnE.read hO8)
      have hcap8 : c8 ≤ 9223372036854775807 := ownE_max hO8
      have hX8 : X6.length ≤ c8 := by omega
      have hX8l : X6.length ≤ Z.length := by omega
      have HTk : Hid ((Z.take X6.length).length = X6.length) := by show _ = _; simp; omega
      clear hb hO8 hZ hQ7 hB7 hK6 hK7 HD6 HD7 HB8 HB9 HL8 HL9 HOA8 HOB8
      have HEQ := Lib.hid (eqFuncR_any w8 aL a8 cL c8 X6 (Z.take X6.length) 0 w.heap.size 11 (by omega) ⟨HL10.out.own.read, HL10.out.roots⟩ ⟨SlE.take HZs.out X6.length, fun x hx => (HZr.out x hx).keep HB10.out⟩ nsame_enters (fun W x y hx hy => nsameRm 0 w.heap.size W x y hx hy))
      rw [eqRs_yes (HX6.out.trans HZm.out.symm), HTk.out] at HEQ
      clear hZl
      go_wp2_with fail
      refine HEQ.out.mono ?_
      rintro e w9 ⟨rfl, hb⟩
      have hK9 := hK8.keep hb
      have HD9 := Lib.hid (HD8.out.keep hb)
      have HB11 := Lib.hid (HB10.out.trans (hb.mono HB10.out.size))
      have HL11 := Lib.hid (HL10.out.keep hb)
      clear hb hK8 HD8 HB10 HL10 HEQ HZs
      have x0 := hK9.at 0 rfl
      have x1 := hK9.at 1 rfl
      go_wp2_with fail
      clear x0 x1
      have hp := krecover_any w9 _ EL [] HD9.out (HV.out.on HB11.out)
      rw [HAG.out.1, HAG.out.2.1, HAG.out.2.2] at hp
      refine hp.mono ?_
      rintro e w10 ⟨⟨v10, lv10, X10, rfl, hN10, hO10, hX10⟩, hb⟩
      clear hp
      obtain ⟨a9, c9, b9, d9, rfl, hs9, ht9, -, -⟩ := hN10
      obtain ⟨aM, cM, rfl, -, -, -⟩ := hO10.val
      have HX10 : Hid (X10.map (·.1) = L) := hX10
      have hX10l : X10.length ≤ 1000 := by
        have e1 := congrArg List.length hX10
        rw [List.length_map] at e1
        have := HXL.out
        omega
      have hb2 := Go.Joins.below_alloc1 w10 (Obj.cells [.slice a9 EL.length c9, .slice b9 0 d9].toArray 41)
      have hb3 := hb.trans (hb2.mono hb.size)
      have hK10 := hK9.keep hb3
      have HD10 := Lib.hid (HD9.out.keep hb3)
      have HB12 := Lib.hid (HB11.out.trans (hb3.mono HB11.out.size))
      have HL12 := Lib.hid (HL11.out.keep hb3)
      have HM12 := Lib.hid (hO10.keep hb2)
      have hK14 := Blk.new w10 [.slice a9 EL.length c9, .slice b9 0 d9] 41
      have HD14 : Hid (DkIs (w10.alloc (Obj.cells [.slice a9 EL.length c9, .slice b9 0 d9].toArray 41)) (dkV (.slice a9 EL.length c9) (.slice b9 0 d9)) EL []) := ⟨a9, c9, b9, d9, rfl, hs9.keep hb2, ht9.keep hb2⟩
      clear hb hb2 hb3 hK9 HD9 HB11 HL11 hO10 hX10 hs9 ht9
      have x0 := hK10.at 0 rfl
      have x1 := hK10.at 1 rfl
      go_wp2_with fail
      clear x0 x1
      obtain ⟨g14, hg14⟩ : ∃ z, w10.heap.size = z := ⟨_, rfl⟩
      rw [hg14] at hK14 ⊢
      clear hg14
      generalize w10.alloc (Obj.cells [.slice a9 EL.length c9, .slice b9 0 d9].toArray 41) = V10 at *
      have hp := ksame_any V10 _ _ EL [] EL [] HD14.out HD10.out
      rw [eqB_self, eqB_self] at hp
      refine hp.mono ?_
      rintro e w11 ⟨rfl, hb⟩
      have hK11 := hK10.keep hb
      have HB13 := Lib.hid (HB12.out.trans (hb.mono HB12.out.size))
      have HL13 := Lib.hid (HL12.out.keep hb)
      have HM13 := Lib.hid (HM12.out.keep hb)
      clear hp hb hK10 hK14 HD10 HD14 HB12 HL12 HM12
      have HEQ := Lib.hid (eqFuncR_any w11 aM aL cM cL X10 X6 0 0 11 hX10l ⟨HM13.out.own.read, HM13.out.roots⟩ ⟨HL13.out.own.read, HL13.out.roots⟩ nsame_enters (fun W x y hx hy => nsameRm 0 0 W x y hx hy))
      rw [eqRs_yes (HX10.out.trans HX6.out.symm)] at HEQ
      go_wp2_with fail
      refine HEQ.out.mono ?_
      rintro e w12 ⟨rfl, hb⟩
      have hK12 := hK11.keep hb
      have HB14 := Lib.hid (HB13.out.trans (hb.mono HB13.out.size))
      clear hb hK11 HB13 HL13 HM13 HEQ
      have x1 := hK12.at 1 rfl
      go_wp2
      go_ret
      exact ⟨rfl, HB14.out⟩
end Go.Proofs.YtmlodnamknielacDoor

/- A tree that came in as an argument: which places it holds. -/
namespace Go.Proofs.YtmlodnamknielacDoor
open Go.ChangeShapes Go.WideShapes Go.ChangeAt Go.RowKit
open Orangery (Pl)

theorem cells3_of {w : World} {base : Nat} {a : Addr} {cs : List Value} (h : w.cells? base a 3 = some cs) :
    ∃ x y z, cs = [x, y, z] ∧ w.cell? (a.add 0) = some x ∧ w.cell? (a.add 1) = some y ∧ w.cell? (a.add 2) = some z := by
  unfold World.cells? at h
  split at h
  · simp only [show List.range 3 = [0, 1, 2] from rfl, List.mapM_cons, List.mapM_nil] at h
    cases h0 : w.cell? (a.add 0) with
    | none => simp [h0] at h
    | some x =>
      cases h1 : w.cell? (a.add 1) with
      | none => simp [h0, h1] at h
      | some y =>
        cases h2 : w.cell? (a.add 2) with
        | none => simp [h0, h1, h2] at h
        | some z =>
          simp [h0, h1, h2] at h
          exact ⟨x, y, z, h.symm, rfl, rfl, rfl⟩
  · simp at h

theorem add_at (b off i : Nat) : (⟨b, off, none⟩ : Addr).add i = ⟨b, off + i, none⟩ := by
  unfold Addr.add
  by_cases hz : i = 0 <;> simp [hz]

end Go.Proofs.YtmlodnamknielacDoor

/- Operations and steps that came in as arguments. -/
namespace Go.Proofs.YtmlodnamknielacDoor
open Go.ChangeShapes Go.WideShapes Go.ChangeAt Go.RowKit
open Orangery (Pl Mv Stp)

theorem list7 {cs : List Value} (h : cs.length = 7) : ∃ a b c d e f g, cs = [a, b, c, d, e, f, g] := by
  match cs, h with
  | [a, b, c, d, e, f, g], _ => exact ⟨a, b, c, d, e, f, g, rfl⟩
theorem list11 {cs : List Value} (h : cs.length = 11) : ∃ a b c d e f g i j k l, cs = [a, b, c, d, e, f, g, i, j, k, l] := by
  match cs, h with
  | [a, b, c, d, e, f, g, i, j, k, l], _ => exact ⟨a, b, c, d, e, f, g, i, j, k, l, rfl⟩

set_option maxRecDepth 100000 in
theorem open_opC {H : Type} {enc : TypeId × Value → H} {w : World} {base fuel : Nat} {spare : Nat → Bool} {held : Bool} {cs : List Value} {x : DataW H × List MemPlace}
    (h : DataW.trod enc Tryd.prog w base spare held fuel 26 cs = some x) : ∃ o : Mv, cs = opC o := by
  obtain ⟨xs, n, _, _, hl, hlen, hf⟩ := DataW.trod_struct Tryd.underlying26 h
  have hC : Tryd.prog.cellsOf 26 = 7 := by kernel_rfl
  have hI : Tryd.prog.cellsOf 3 = 1 := by kernel_rfl
  have hT : Tryd.prog.cellsOf 24 = 2 := by kernel_rfl
  rw [hC] at hl
  obtain ⟨c0, c1, c2, c3, c4, c5, c6, rfl⟩ := list7 hl
  have hx : xs.length = 6 := hlen
  have g0 := hf 0 _ rfl
  have g1 := hf 1 _ rfl
  have g2 := hf 2 _ rfl
  have g3 := hf 3 _ rfl
  have g4 := hf 4 _ rfl
  have g5 := hf 5 _ rfl
  simp [hI, hT] at g0 g1 g2 g3 g4 g5
  rw [List.getElem?_eq_getElem (by omega)] at g0 g1 g2 g3 g4 g5
  obtain ⟨o3, e3, _, _⟩ := DataW.trod_int Tryd.underlying3 g1
  obtain ⟨o4, e4, _, _⟩ := DataW.trod_int Tryd.underlying3 g2
  obtain ⟨o5, e5, _, _⟩ := DataW.trod_int Tryd.underlying3 g3
  obtain ⟨o6, e6, _, _⟩ := DataW.trod_int Tryd.underlying3 g4
  obtain ⟨o7, e7, _, _⟩ := DataW.trod_int Tryd.underlying3 g5
  obtain ⟨y0, y1, n', _, _, t0, t1⟩ := trod_struct2 Tryd.underlying24 g0
  simp [hI] at t0 t1
  obtain ⟨o1, e1, _, _⟩ := DataW.trod_int Tryd.underlying3 t0
  obtain ⟨o2, e2, _, _⟩ := DataW.trod_int Tryd.underlying3 t1
  simp at e1 e2 e3 e4 e5 e6 e7
  subst e1 e2 e3 e4 e5 e6 e7
  exact ⟨(o1, o2, (o3, o4, o5), o6, o7), rfl⟩

set_option maxRecDepth 100000 in
/-- an operation that came in -/
theorem open_op {H : Type} {enc : TypeId × Value → H} {w : World} {r : Reach} {b0 base : Nat} {spare : Nat → Bool} {held : Bool} {v : Value} {d : DataW H} {p : List MemPlace}
    (hv : Value.okWide Tryd.prog w r b0 26 v) (h : DataW.Trod enc Tryd.prog w base spare held 26 v d p) : ∃ o : Mv, v = opV o := by
  obtain ⟨cs, rfl, hsz⟩ := okWide_struct Tryd.underlying26 hv
  obtain ⟨fuel, hf⟩ := h
  obtain ⟨o, ho⟩ := open_opC hf
  refine ⟨o, ?_⟩
  have : cs = (opC o).toArray := by rw [← ho]; simp [Value.cells]
  rw [this]
  rfl

end Go.Proofs.YtmlodnamknielacDoor

/- Slices of operations and histories that came in as arguments, and what they weigh. -/
namespace Go.Proofs.YtmlodnamknielacDoor
open Go.ChangeShapes Go.WideShapes Go.ChangeAt Go.RowKit
open Orangery (Pl Mv Stp)

/-- a slice of such elements that came in, with what it weighs -/
theorem open_slW {α : Type} [Inhabited α] {enc : α → List Value} {k : Nat} {H : Type} {en : TypeId × Value → H} {w : World} {base fuel : Nat} {spare : Nat → Bool} {held : Bool} {v : Value} {x : DataW H × List MemPlace} {t e : TypeId}
    (hk : ∀ x, (enc x).length = k) (hpos : 0 < k) (ht : Tryd.prog.underlying t = some (.slice e)) (hC : Tryd.prog.cellsOf e = k)
    (hel : ∀ (n : Nat) (cs : List Value) (y : DataW H × List MemPlace), DataW.trod en Tryd.prog w base spare held n e cs = some y → ∃ z : α, cs = enc z)
    (h : DataW.trod en Tryd.prog w base spare held fuel t [v] = some x) : ∃ a c, ∃ l : List α, v = .slice a l.length c ∧ l.length ≤ maxLen ∧ l.length ≤ c ∧ (c ≤ maxLen ∧ (a = none → c = 0)) ∧ SlE enc w a l ∧ (l = [] ∨ ∃ m, l.length ≤ m ∧ m * Tryd.prog.bytesOf e ∈ x.1.weights Tryd.prog t) := by
  rcases Go.Deep.open_slice ht h with ⟨hcs, _⟩ | ⟨a, len, cap, m, n, D, Pq, hcs, _, hle, hm, hmm, hxx, hx⟩
  · simp at hcs
    subst hcs
    exact ⟨none, 0, [], rfl, by simp, by simp, ⟨by simp, fun _ => rfl⟩, Or.inl rfl, Or.inl rfl⟩
  · simp at hcs
    subst hcs
    have hlm : len ≤ m := by rw [hmm]; split <;> omega
    have key : ∀ i, i < len → ∃ z : α, ∀ (j : Nat) (v : Value), (enc z)[j]? = some v → w.cell? ((a.add (i * k)).add j) = some v := by
      intro i hi
      obtain ⟨cs', h1, h2⟩ := hx i (by omega)
      rw [hC] at h1
      obtain ⟨z, rfl⟩ := hel _ _ _ h2
      exact ⟨z, (cells_range h1).2⟩
    obtain ⟨f, hf⟩ := Go.Deep.choose_lt key
    refine ⟨some a, cap, (List.range len).map f, by simp, by simp; omega, by simp; omega, ⟨hm, fun e => by simp at e⟩, ?_, Or.inr ⟨m, by simpa using hlm, ?_⟩⟩
    · by_cases hz : len = 0
      · exact Or.inl (by simp [hz])
      · right
        obtain ⟨u, hu⟩ : ∃ u, (enc (f 0))[0]? = some u := ⟨_, List.getElem?_eq_getElem (by rw [hk]; exact hpos)⟩
        have h0 := hf 0 (by omega) 0 u hu
        obtain ⟨b, off, spot⟩ := a
        have hspot : spot = none := by simpa [Addr.add] using World.cell?_spot h0
        subst hspot
        have hb : b < w.heap.size := by
          have := World.block_lt_of_cell? w _ h0
          rw [Addr.add_mid, Addr.add_mid] at this
          exact this
        refine ⟨b, off, rfl, hb, fun j v hv => ?_⟩
        have hj : j < len * k := by
          have := (List.getElem?_eq_some_iff.1 hv).1
          rw [flatE_len hk] at this
          simpa using this
        have hi : j / k < len := (Nat.div_lt_iff_lt_mul hpos).2 hj
        have hc : j % k < k := Nat.mod_lt _ hpos
        have e1 : j / k * k + j % k = j := by rw [Nat.mul_comm]; exact Nat.div_add_mod j k
        have e2 := flatE_get hk ((List.range len).map f) (j / k) (by simpa using hi) (j % k) hc
        rw [e1, hv] at e2
        have e3 := hf (j / k) hi (j % k) v (by simpa using e2.symm)
        rw [Addr.add_mid, Addr.add_mid] at e3
        rw [show off + j = off + j / k * k + j % k by omega]
        exact e3
    · subst hxx
      simp only [DataW.weights, ht]
      have e : ((List.range len).map D).length + ((List.range (m - len)).map fun j => D (len + j)).length = m := by simp; omega
      rw [e]
      exact List.mem_cons_self

end Go.Proofs.YtmlodnamknielacDoor

/- slices.Grow of nothing, slices.Concat at places. -/
namespace Go.Proofs.YtmlodnamknielacDoor
open Go.ChangeShapes Go.WideShapes Go.ChangeAt Go.RowKit
open Orangery (Pl)

theorem encPl_one (p : Pl) : ∀ v ∈ encPl p, v.oneCell' = true := by
  intro v hv
  simp [encPl] at hv
  rcases hv with rfl | rfl | rfl <;> rfl
theorem encPl_len (x : Pl) : (encPl x).length = 3 := rfl
/-- one slice behind another one of the call's own -/
theorem SlP.news {w : World} {ad : Addr} {l : List Pl} (h : SlP w (some ad) l) : ∀ j u, (l.flatMap encPl)[j]? = some u → w.cell? (ad.add j) = some u := by
  intro j u hj
  rcases h with rfl | ⟨b, off, ha, _, hp⟩
  · simp at hj
  · simp at ha
    subst ha
    exact pls_flat hp j u hj
theorem SlP.none_nil {w : World} {l : List Pl} (h : SlP w none l) : l = [] := by
  rcases h with rfl | ⟨b, off, h, _⟩
  · rfl
  · simp at h

end Go.Proofs.YtmlodnamknielacDoor

/- Ints, places with the room behind them, and views that came in as arguments. -/
namespace Go.Proofs.YtmlodnamknielacDoor
open Go.ChangeShapes Go.WideShapes Go.ChangeAt Go.RowKit
open Orangery (Pl)

def intC (x : Int) : List Value := [.int .i64 x]
theorem intC_len (x : Int) : (intC x).length = 1 := rfl

theorem sli_of {w : World} {a : Option Addr} {l : List Int} (h : SlE intC w a l) : SlI w a l := by
  rcases h with h | ⟨b, off, ha, hlt, hp⟩
  · exact Or.inl h
  · refine Or.inr ⟨b, off, ha, hlt, fun i hi => ?_⟩
    have := elemE intC_len hp i hi 0 (.int .i64 l[i]) rfl
    rw [Nat.mul_one, Nat.add_zero] at this
    exact this
theorem slp_of {w : World} {a : Option Addr} {l : List Pl} (h : SlE encPl w a l) : SlP w a l := by
  rcases h with h | ⟨b, off, ha, hlt, hp⟩
  · exact Or.inl h
  · refine Or.inr ⟨b, off, ha, hlt, fun i hi => ?_⟩
    have hr := elemE encPl_len hp i hi
    exact ⟨hr 0 _ rfl, hr 1 _ rfl, hr 2 _ rfl⟩

theorem open_intC {H : Type} {enc : TypeId × Value → H} {w : World} {base fuel : Nat} {spare : Nat → Bool} {held : Bool} {cs : List Value} {x : DataW H × List MemPlace}
    (h : DataW.trod enc Tryd.prog w base spare held fuel 3 cs = some x) : ∃ z : Int, cs = intC z := by
  obtain ⟨q, e, _, _⟩ := DataW.trod_int Tryd.underlying3 h
  exact ⟨q, e⟩
set_option maxRecDepth 100000 in
theorem open_plC {H : Type} {enc : TypeId × Value → H} {w : World} {base fuel : Nat} {spare : Nat → Bool} {held : Bool} {cs : List Value} {x : DataW H × List MemPlace}
    (h : DataW.trod enc Tryd.prog w base spare held fuel 106 cs = some x) : ∃ z : Pl, cs = encPl z := by
  obtain ⟨y0, y1, y2, n', _, hl, t0, t1, t2⟩ := Go.Deep.trod_struct3 Tryd.underlying106 h
  have hC : Tryd.prog.cellsOf 106 = 3 := by kernel_rfl
  have hI : Tryd.prog.cellsOf 3 = 1 := by kernel_rfl
  rw [hC] at hl
  obtain ⟨c0, c1, c2, rfl⟩ : ∃ c0 c1 c2, cs = [c0, c1, c2] := by
    match cs, hl with
    | [x, y, z], _ => exact ⟨x, y, z, rfl⟩
  simp [hI] at t0 t1 t2
  obtain ⟨q0, e0, _, _⟩ := DataW.trod_int Tryd.underlying3 t0
  obtain ⟨q1, e1, _, _⟩ := DataW.trod_int Tryd.underlying3 t1
  obtain ⟨q2, e2, _, _⟩ := DataW.trod_int Tryd.underlying3 t2
  simp at e0 e1 e2
  subst e0 e1 e2
  exact ⟨(q0, q1, q2), rfl⟩

set_option maxRecDepth 100000 in
/-- ints that came in -/
theorem open_ints {H : Type} {enc : TypeId × Value → H} {w : World} {r : Reach} {b0 base : Nat} {spare : Nat → Bool} {held : Bool} {v : Value} {d : DataW H} {p : List MemPlace}
    (hv : Value.okWide Tryd.prog w r b0 22 v) (h : DataW.Trod enc Tryd.prog w base spare held 22 v d p) : ∃ a c, ∃ l : List Int, v = .slice a l.length c ∧ l.length ≤ maxLen ∧ (l.length ≤ c ∧ c ≤ maxLen) ∧ SlI w a l := by
  obtain ⟨a', n', c', rfl⟩ := okWide_slice Tryd.underlying22 hv
  obtain ⟨fuel, hf⟩ := h
  obtain ⟨a, c, l, e, h1, h2, ⟨h4, _⟩, h3, _⟩ := open_slW intC_len (by omega) Tryd.underlying22 (by kernel_rfl) (fun n cs y hy => open_intC hy) hf
  exact ⟨a, c, l, e, h1, ⟨h2, h4⟩, sli_of h3⟩

end Go.Proofs.YtmlodnamknielacDoor

