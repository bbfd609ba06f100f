/- 5 texts of the proof: orangerylaw.WaySays: the walk. A tree that came in as an argument: which places it holds. Operations and steps that came in as arguments. Slices of operations and histories that came in as arguments, and what they weigh. Ints, places with the room behind them, and views that came in as arguments. -/
import Derived.Deep.Slices
import Derived.Deep.Strs
import Derived.ChangeOld
import Derived.SizedLaws
import Derived.Test.YtljbchkmoekpmadGreatP14
import Derived.Test.YtljbchkmoekpmadGreatP15
import Derived.Test.YtljbchkmoekpmadGreatP17
import Derived.Test.YtljbchkmoekpmadGreatP03
import Derived.Test.YtljbchkmoekpmadGreatP05
import Derived.Test.YtljbchkmoekpmadGreatP06
/- orangerylaw.WaySays: the walk. -/
namespace Go.Proofs.YtljbchkmoekpmadGreat
open Go.ChangeShapes Go.WideShapes Go.ChangeAt Go.RowKit
open Orangery (Pl Mv Vw Dl Ml noVw noDl noMl noOp ml1E mlsE mlE sendE sendL takeE takeL takeM)

/-- a slice of mail that holds this list, at whatever place -/
def Lst (w : World) (v : Value) (l : List Ml) : Prop := ∃ a c X, v = .slice a (List.length X) c ∧ SlM w a X ∧ X.map (·.1) = l ∧ X.length ≤ 1000
theorem Lst.keep {w w' : World} {v : Value} {l : List Ml} (h : Lst w v l) (hb : Below w.heap.size w w') : Lst w' v l := by
  obtain ⟨a, c, X, e, h1, h2, h3⟩ := h
  exact ⟨a, c, X, e, h1.keep hb, h2, h3⟩

set_option maxHeartbeats 8000000 in
set_option maxRecDepth 100000 in
theorem waySays_any (w : World) (a : Option Addr) (c : Nat) (X : List Mm) (x : Mm) (k : Int) (tw : Bool) (aO : Option Addr) (cO : Nat) (O : List Mm) (hm : X.length ≤ maxLen) (hcap : X.length ≤ c) (hX : SlM w a X) (hx : MlIn w x) (hO : SlM w aO O) :
    Calls Tryz.prog 7 #[.slice a X.length c, x.val, .int .i64 k, .bool tw, .slice aO O.length cO] w fun e w' => e = .returned (.bool true) ∧ Below w.heap.size w w' := by
  obtain ⟨cx, hcx⟩ : ∃ c, c = mlC x := ⟨_, rfl⟩
  show Calls Tryz.prog _ #[_, .agg (mlC x).toArray, _, _, _] w _
  rw [← hcx]
  obtain ⟨W0, hW, hA, hB, -⟩ := laid1 w cx 74
  have HXW := Lib.hid hX
  have HXI := Lib.hid hx
  have HOW := Lib.hid hO
  have HB0 := Lib.hid hB
  have HA0 := Lib.hid hA
  have HR0 := Lib.hid hA.range
  have HCX := Lib.hid hcx
  have HI1 : Hid ((Tryz.prog.info? 74).map (·.size) = some cx.length) := by show _ = _; rw [hcx]; exact sizeMailC x
  have HLC : Hid (cx.length = 21) := by show _ = _; rw [hcx]; rfl
  obtain ⟨M, hM⟩ : ∃ M, M = X.map (·.1) := ⟨_, rfl⟩
  have HM := Lib.hid hM
  have HML : Hid (M.length = X.length) := by show _ = _; rw [hM]; simp
  have HSND : Hid (Calls Tryz.prog 29 #[.slice a X.length c, .agg cx.toArray] W0 (SentM W0 (sendL M x.1) (sendE M x.1))) := by rw [hcx, hM]; exact wSend_any W0 a c X x hm (hX.keep hB) (hx.keep hB)
  have HTKE : Hid (∀ W, Below w.heap.size w W → Calls Tryz.prog 30 #[.slice a X.length c, .int .i64 k, .bool tw] W (TookM W (takeL M k tw) (takeM M k) (takeE M k))) := fun W hb => by rw [hM]; exact wTake_any W a c X k tw hm (hX.keep hb)
  have HCK1 : Hid (∀ W, Below w.heap.size w W → Calls Tryz.prog 31 #[.slice a X.length c] W fun e w' => e = .returned (.int .i64 (mlE M)) ∧ Below W.heap.size W w') := fun W hb => rcheckMail_any W a c X M hM.symm hm (hX.keep hb)
  have HCK2 : Hid (∀ W, Below w.heap.size w W → Calls Tryz.prog 33 #[.slice a X.length c] W fun e w' => e = .returned (.int .i64 (mlE M)) ∧ Below W.heap.size W w') := fun W hb => wCheck_any W a c X M hM.symm hm (hX.keep hb)
  have HSM1 : Hid (∀ W, Below w.heap.size w W → Calls Tryz.prog 34 #[.slice a X.length c, .slice aO O.length cO] W fun e w' => e = .returned (.bool (eqMs X O)) ∧ Below W.heap.size W w') := fun W hb => wSame_any W a aO c cO X O hm (hX.keep hb) (hO.keep hb)
  have HSM2 : Hid (∀ W, Below w.heap.size w W → Calls Tryz.prog 35 #[.slice a X.length c, .slice aO O.length cO] W fun e w' => e = .returned (.bool (eqMs X O)) ∧ Below W.heap.size W w') := fun W hb => rsameMail_any W a aO c cO X O hm (hX.keep hb) (hO.keep hb)
  have HLEN : Hid (X.length ≤ maxLen) := hm
  have HCAP := Lib.hid hcap
  have hm' : X.length ≤ 9223372036854775807 := hm
  clear hX hx hO hB hA hcx hm hM hcap
  generalize eqMs X O = so at *
  go_enter Tryz.func7, Tryz.ntmps7
  go_wp2_with (first | (refine wpList_load_mid rfl 74 _ rfl w.heap.size 0 rfl cx _ HR0.out Tryz.underlying74 rfl HI1.out ?_) | fail)
  clear hW
  refine HSND.out.mono ?_
  rintro e w1 ⟨v, Y, rfl, hO, hYM, hb⟩
  obtain ⟨aY, cY, rfl, hY⟩ := hO.val
  have HYM := Lib.hid hYM
  have HY1 := Lib.hid hY
  have HA1 := Lib.hid (HA0.out.keep hb)
  have HB1 := Lib.hid (HB0.out.trans (hb.mono HB0.out.size))
  clear hO hY hYM hb HSND HA0 HB0 HR0
  go_wp2_with fail
  refine (HTKE.out w1 HB1.out).mono ?_
  rintro e w2 ⟨vz, Z, y, rfl, hO, hZM, hy, hyI, -, hb2⟩
  obtain ⟨aZ, cZ, rfl, hZ⟩ := hO.val
  obtain ⟨V3, W3, hV3, hT3, hW3, hN3, hb3⟩ := boxed w2 y
  have hb23 := hb2.trans (hb3.mono hb2.size)
  have HB3 := Lib.hid (HB1.out.trans (hb23.mono HB1.out.size))
  have HA3 := Lib.hid (HA1.out.keep hb23)
  have HY3 := Lib.hid (HY1.out.keep hb23)
  have HZ3 := Lib.hid (hZ.keep hb3)
  have HN3 := Lib.hid hN3
  have HYI3 := Lib.hid (hyI.keep hb3)
  have HT3 := Lib.hid hT3
  have HW3 := Lib.hid hW3
  have HZM := Lib.hid hZM
  have HYX := Lib.hid hy
  clear hO hZ hZM hy hyI hb2 hb3 hb23 hN3 hT3 hW3 HTKE HA1 HB1 HY1
  go_wp2_with (first | (with_reducible refine at_store 74 ?_; refine wpList_store_mid rfl 74 _ _ rfl w2.heap.size 0 (mlC y).toArray rfl rfl HT3.out (sizeMm y) (oneMm y) ?_; rw [HW3.out]) | fail)
  clear hV3 HT3 HW3
  refine (HCK1.out W3 HB3.out).mono ?_
  rintro e w4 ⟨rfl, hb4⟩
  have HB4 := Lib.hid (HB3.out.trans (hb4.mono HB3.out.size))
  go_wp2_with fail
  refine (posted_any w4).mono ?_
  rintro e w5 ⟨rfl, hb5⟩
  have HB5 := Lib.hid (HB4.out.trans (hb5.mono HB4.out.size))
  go_wp2_with fail
  refine (HCK2.out w5 HB5.out).mono ?_
  rintro e w6 ⟨rfl, hb6⟩
  have HB6 := Lib.hid (HB5.out.trans (hb6.mono HB5.out.size))
  have dself : (mlE M != mlE M) = false := by simp
  go_wp2_with fail
  refine (HSM1.out w6 HB6.out).mono ?_
  rintro e w7 ⟨rfl, hb7⟩
  have HB7 := Lib.hid (HB6.out.trans (hb7.mono HB6.out.size))
  go_wp2_with fail
  refine (HSM2.out w7 HB7.out).mono ?_
  rintro e w8 ⟨rfl, hb8⟩
  have HB8 := Lib.hid (HB7.out.trans (hb8.mono HB7.out.size))
  have hb38 : Below W3.heap.size W3 w8 := hb4.trans ((hb5.trans ((hb6.trans ((hb7.trans (hb8.mono hb7.size)).mono hb6.size)).mono hb5.size)).mono hb4.size)
  have HA8 := Lib.hid (HA3.out.keep hb38)
  have HY8 := Lib.hid (HY3.out.keep hb38)
  have HZ8 := Lib.hid (HZ3.out.keep hb38)
  have HN8 := Lib.hid (HN3.out.keep hb38)
  have HYI8 := Lib.hid (HYI3.out.keep hb38)
  have dso : (so != so) = false := by cases so <;> rfl
  clear hb4 hb5 hb6 hb7 hb8 hb38 HB3 HB4 HB5 HB6 HB7 HA3 HY3 HZ3 HN3 HYI3 HCK2 HSM1 HSM2
  go_upto_if 55 with fail
  obtain ⟨sE, hsE⟩ : ∃ s, s = sendE M x.1 := ⟨_, rfl⟩
  have HS1 : Hid (mlE M ≠ 0 → sE = mlE M) := fun h => by rw [hsE]; unfold sendE; rw [if_pos h]
  have HS2 : Hid (mlE M = 0 → sE = ml1E x.1) := fun h => by rw [hsE]; unfold sendE; rw [if_neg (by simp [h])]
  have HS3 : Hid (sE ≠ 0 → sendL M x.1 = []) := fun h => by unfold sendL; rw [if_pos (by rw [← hsE]; exact h)]
  have HS4 : Hid (sE = 0 → mlE M = 0 ∧ X.length ≤ 30 ∧ (X.length = 30 → sendL M x.1 = M) ∧ (X.length ≠ 30 → sendL M x.1 = M ++ [x.1])) := fun h => by
    have h0 : sendE M x.1 = 0 := by rw [← hsE]; exact h
    have h1 := Orangery.send_zero h0
    have h2 := (Orangery.mlE_zero h1.1).1
    have h3 := HML.out
    exact ⟨h1.1, by omega, fun h4 => Orangery.send_full h0 (by omega), fun h4 => (Orangery.send_room h0 (by omega)).1⟩
  rw [← hsE]
  clear hsE
  go_cut [17] from 55 to 58 (fun v wc => v = .int .i64 sE ∧ Below w8.heap.size w8 wc)
  case first =>
    by_cases hz : mlE M = 0
    · have dz : (mlE M == 0) = true := by simpa using hz
      have HE := Lib.hid (HS2.out hz)
      clear hz HS1 HS2 HS3 HS4
      obtain ⟨W9, hW9, hN9, hb9, -⟩ := laid1 w8 cx 74
      have HR8 := Lib.hid HA8.out.range
      have HCK := rcheckMail_any W9 (some ⟨w8.heap.size, 0, none⟩) 1 [x] [x.1] rfl (by unfold maxLen; simp) (one_row (by rw [← HCX.out]; exact hN9) (HXI.out.keep (HB8.out.trans (hb9.mono HB8.out.size))))
      rw [Orangery.mlE_one] at HCK
      have HCK := Lib.hid HCK
      have HB9 := Lib.hid hb9
      clear hN9 hb9
      go_wp2_with (first | (refine wpList_load_mid rfl 74 _ rfl w.heap.size 0 rfl cx _ HR8.out Tryz.underlying74 rfl HI1.out ?_) | (with_reducible refine at_slice ?_; refine build_one rfl rfl cx HLC.out rfl ?_; rw [hW9]) | fail)
      clear hW9 HR8
      refine HCK.out.mono ?_
      rintro e w10 ⟨rfl, hb10⟩
      have HB10 := Lib.hid (HB9.out.trans (hb10.mono HB9.out.size))
      clear hb10 HCK HB9
      rw [← HE.out]
      go_wp2
      go_meet
      case rel => exact ⟨rfl, HB10.out⟩
    · have dz : (mlE M == 0) = false := by simpa using hz
      have HE := Lib.hid (HS1.out hz)
      clear hz HS1 HS2 HS3 HS4
      go_wp2
      go_meet
      case rel => exact ⟨by rw [HE.out], Below.refl _ _⟩
  case rest =>
  obtain ⟨rfl, hb9⟩ := hcut
  rename World => w9
  have HB9 := Lib.hid (HB8.out.trans (hb9.mono HB8.out.size))
  have HA9 := Lib.hid (HA8.out.keep hb9)
  have HY9 := Lib.hid (HY8.out.keep hb9)
  have HZ9 := Lib.hid (HZ8.out.keep hb9)
  have HN9 := Lib.hid (HN8.out.keep hb9)
  have HYI9 := Lib.hid (HYI8.out.keep hb9)
  clear hb9 HB8 HA8 HY8 HZ8 HN8 HYI8 HS2
  go_upto_if 62 with fail
  go_cut [18] from 62 to 67 (fun v wc => (∃ aV nV cV, v = .slice aV nV cV) ∧ (sE = 0 → Lst wc v (sendL M x.1)) ∧ Below w9.heap.size w9 wc)
  case first =>
    by_cases h30 : X.length < 30
    case neg =>
      have d30 : decide ((X.length : Int) < 30) = false := by simp; omega
      have HREL : Hid (sE = 0 → Lst w9 (.slice a X.length c) (sendL M x.1)) := by
        intro h
        obtain ⟨-, h2, h3, -⟩ := HS4.out h
        refine ⟨a, c, X, rfl, HXW.out.keep HB9.out, ?_, by omega⟩
        rw [h3 (by omega)]
        exact HM.out.symm
      have d31 : decide (X.length < 30) = false := by simp; omega
      have d32 : ¬ ((X.length : Int) < 30) := by omega
      go_wp2
      go_meet
      case rel => exact ⟨⟨_, _, _, rfl⟩, HREL.out, Below.refl _ _⟩
    have d30 : decide ((X.length : Int) < 30) = true := by simp; omega
    have hx29 : X.length ≤ 29 := by omega
    have HSL : Hid (sE = 0 → sendL M x.1 = M ++ [x.1]) := fun h => (HS4.out h).2.2.2 (by omega)
    clear h30
    go_wp2_with fail
    have HXA := Lib.hid (HXW.out.keep HB9.out)
    have HCLN : Hid (∀ W, Below w9.heap.size w9 W → Calls Tryz.prog 36 #[.slice a X.length c] W fun e w' => ∃ v, e = .returned v ∧ OwnE mlC 21 74 w' W.heap.size v X ∧ Below W.heap.size W w') := fun W hb => cloneMails_any W a c X (by omega) (HXA.out.keep hb).reads
    have HREL : Hid (∀ (W0 W W' : World) (v v' : Value) (b : Nat), Below w9.heap.size w9 W → b = W0.heap.size → Below w9.heap.size w9 W0 → OwnE mlC 21 74 W b v X → W'.ownsRow b 74 21 v' (X.length + 1) (X.flatMap mlC ++ cx) → W.grownBy W' v.ownBlock → W0.heap.size ≤ W.heap.size → (∃ aV nV cV, v' = .slice aV nV cV) ∧ (sE = 0 → Lst W' v' (sendL M x.1)) ∧ Below w9.heap.size w9 W') := by
      intro V0 W W' v v' b hbW hb hb0 hown hrow hgrow hle
      have hlow : ∀ g, v.ownBlock = some g → w9.heap.size ≤ g := fun g hg => by have := (hown.row.lt g hg).1; have := hb0.size; omega
      have hE : OwnE mlC 21 74 W' b v' (X ++ [x]) := by
        unfold OwnE
        have e1 : (X ++ [x]).length = X.length + 1 := by simp
        have e2 : (X ++ [x]).flatMap mlC = X.flatMap mlC ++ cx := by rw [HCX.out]; simp
        rw [e1, e2]
        exact hrow
      obtain ⟨aV, cV, e, hr, -⟩ := hE.val
      have hBW : Below w9.heap.size w9 W' := ⟨hgrow.os.trans hbW.os, hgrow.tape.trans hbW.tape, hgrow.output.trans hbW.output, Nat.le_trans hbW.size hgrow.size, fun j hj => (hgrow.block j (Nat.lt_of_lt_of_le hj hbW.size) (fun e => by have := hlow j e.symm; omega)).trans (hbW.block j hj)⟩
      refine ⟨⟨aV, _, cV, e⟩, fun h => ⟨aV, cV, X ++ [x], e, ⟨hr, fun z hz => ?_⟩, ?_, by simp; omega⟩, hBW⟩
      · rcases List.mem_append.1 hz with hz | hz
        · exact (HXA.out.each z hz).keep hBW
        · simp at hz; subst hz; exact (HXI.out.keep HB9.out).keep hBW
      · rw [HSL.out h, List.map_append, ← HM.out]; rfl
    have HAr : Hid (∀ W, Below w9.heap.size w9 W → W.rangeAt w.heap.size 0 cx) := fun W hb => (HA9.out.keep hb).range
    have HCO : Hid (∀ v ∈ cx, v.oneCell' = true) := by show ∀ v ∈ cx, _; rw [HCX.out]; exact mlC_one x
    obtain ⟨i0, hi, hz0, hz1, hz2⟩ := info_parts infoMail
    refine wp_region_held_drew (S := fun w' => Below w9.heap.size w9 w') (by kernel_rfl) ((Below.refl _ w9).drew) (fun hHeld => ?_)
    refine take_yes 0 63 (v := ?_) rfl rfl (by kernel_rfl) (by kernel_rfl) (by kernel_rfl) (fun _ _ _ h => h) (by rfl) ?_ hHeld ?_
    rotate_left 1
    · (intro w9 hSw; skip; go_simp; try with_reducible rfl)
    simp only [Act.put, List.setIfInBounds_toArray, List.set_cons_succ, List.set_cons_zero]
    refine take_load 2 65 74 w.heap.size cx rfl rfl (by kernel_rfl) (by kernel_rfl) (by kernel_rfl) (fun _ _ _ h => h) (by rfl) (by rfl) (by rfl) (fun w hw => HAr.out w hw) Tryz.underlying74 rfl HI1.out hHeld ?_
    simp only [Act.put, List.setIfInBounds_toArray, List.set_cons_succ, List.set_cons_zero]
    refine wpAnyH_ready (rs := [1, 3]) (by kernel_rfl) (by simp) ?_
    refine AllReadyH.cons rfl (fun KK hKK => ?_) (AllReadyH.cons rfl (fun KK hKK => ?_) AllReadyH.nil)
    · skip
      go_simp
      refine (HCLN.out w9.drew hHeld).mono ?_
      rintro e w10 ⟨v, rfl, hO, hb⟩
      have hHeld2 := hHeld
      refine hKK.out _ _ (hHeld2.trans (hb.mono hHeld2.size)) (fun hHeld => ?_)
      clear hKK KK hHeld2
      refine wpAnyH_ready (rs := [3]) (by kernel_rfl) (by simp) ?_
      refine AllReadyH.cons rfl (fun KK hKK => ?_) AllReadyH.nil
      rw [if_pos (by rfl)]
      refine build_wp rfl cx HLC.out rfl ?_
      show KK (Act.put _ (some 66) _) _
      have hHeld2 := hHeld
      have hN := Blk.new w10 cx 74
      have hO2 := hO.keep (Go.Joins.below_alloc1 w10 (Obj.cells cx.toArray 74))
      have hle : w9.drew.heap.size ≤ (w10.alloc (Obj.cells cx.toArray 74)).heap.size := by have := hb.size; simp at this ⊢; omega
      refine hKK.out _ _ (hHeld2.trans ((Go.Joins.below_alloc1 w10 (Obj.cells cx.toArray 74)).mono hHeld2.size)) (fun hHeld => ?_)
      clear hKK KK hHeld2 hb hO
      simp only [Act.put, List.setIfInBounds_toArray, List.set_cons_succ, List.set_cons_zero]
      refine step_append 4 67 70 (by kernel_rfl) rfl rfl (by rfl) rfl w9.drew.heap.size 74 i0 _ 21 280 Tryz.underlying70 hi hz0 hz1 hz2 rfl (by decide) v X.length (X.flatMap mlC) rfl hO2 ⟨w10.heap.size, 0, none⟩ 1 1 cx rfl HLC.out ?_ HCO.out ?_ ?_ hle ?_
      · intro j u hj
        rw [Addr.add_mid, Nat.zero_add]
        exact hN.at j hj
      · unfold maxLen; omega
      · omega
      intro v' w11 hrow hgrow
      have HR := Lib.hid (HREL.out w9.drew _ w11 v v' w9.drew.heap.size hHeld rfl (Below.refl _ w9).drew hO2 hrow hgrow hle)
      refine ⟨HR.out.2.2, ?_⟩
      have hHeld := HR.out.2.2
      clear hN hO2 hle hrow hgrow
      simp only [Act.put, List.setIfInBounds_toArray, List.set_cons_succ, List.set_cons_zero]
      refine take_yes 5 18 (v := ?_) rfl rfl (by kernel_rfl) (by kernel_rfl) (by kernel_rfl) (fun _ _ _ h => h) (by rfl) ?_ hHeld ?_
      rotate_left 1
      · (intro w9 hSw; skip; go_simp; try with_reducible rfl)
      simp only [Act.put, List.setIfInBounds_toArray, List.set_cons_succ, List.set_cons_zero]
      refine wpAnyH_done (by kernel_rfl) ?_ _
      clear hHeld
      go_wp2
      go_meet
      case rel => exact HR.out
    · skip
      rw [if_pos (by rfl)]
      refine build_wp rfl cx HLC.out rfl ?_
      show KK (Act.put _ (some 66) _) _
      have hHeld2 := hHeld
      have hN := Blk.new w9.drew cx 74
      refine hKK.out _ _ (hHeld2.trans ((Go.Joins.below_alloc1 w9.drew (Obj.cells cx.toArray 74)).mono hHeld2.size)) (fun hHeld => ?_)
      clear hKK KK hHeld2
      simp only [Act.put, List.setIfInBounds_toArray, List.set_cons_succ, List.set_cons_zero]
      refine wpAnyH_ready (rs := [1]) (by kernel_rfl) (by simp) ?_
      refine AllReadyH.cons rfl (fun KK hKK => ?_) AllReadyH.nil
      go_simp
      have hdr : w9.drew.alloc (Obj.cells cx.toArray 74) = (w9.alloc (Obj.cells cx.toArray 74)).drew := rfl
      rw [hdr] at hHeld hN
      clear hdr
      obtain ⟨V9, hV9⟩ : ∃ V, V = (w9.alloc (Obj.cells cx.toArray 74)).drew := ⟨_, rfl⟩
      rw [← hV9] at hHeld hN ⊢
      clear hV9
      refine (HCLN.out V9 hHeld).mono ?_
      rintro e w10 ⟨v, rfl, hO2, hb⟩
      have hHeld2 := hHeld
      have hN := hN.keep hb
      have hle : V9.heap.size ≤ w10.heap.size := hb.size
      refine hKK.out _ _ (hHeld2.trans (hb.mono hHeld2.size)) (fun hHeld => ?_)
      clear hKK KK hb
      refine step_append 4 67 70 (by kernel_rfl) rfl rfl (by rfl) rfl V9.heap.size 74 i0 _ 21 280 Tryz.underlying70 hi hz0 hz1 hz2 rfl (by decide) v X.length (X.flatMap mlC) rfl hO2 ⟨w9.drew.heap.size, 0, none⟩ 1 1 cx rfl HLC.out ?_ HCO.out ?_ ?_ hle ?_
      · intro j u hj
        rw [Addr.add_mid, Nat.zero_add]
        exact hN.at j hj
      · unfold maxLen; omega
      · omega
      intro v' w11 hrow hgrow
      have HR := Lib.hid (HREL.out V9 _ w11 v v' V9.heap.size hHeld rfl hHeld2 hO2 hrow hgrow hle)
      refine ⟨HR.out.2.2, ?_⟩
      have hHeld := HR.out.2.2
      clear hN hO2 hle hrow hgrow hHeld2
      simp only [Act.put, List.setIfInBounds_toArray, List.set_cons_succ, List.set_cons_zero]
      refine take_yes 5 18 (v := ?_) rfl rfl (by kernel_rfl) (by kernel_rfl) (by kernel_rfl) (fun _ _ _ h => h) (by rfl) ?_ hHeld ?_
      rotate_left 1
      · (intro w9 hSw; skip; go_simp; try with_reducible rfl)
      simp only [Act.put, List.setIfInBounds_toArray, List.set_cons_succ, List.set_cons_zero]
      refine wpAnyH_done (by kernel_rfl) ?_ _
      clear hHeld
      go_wp2
      go_meet
      case rel => exact HR.out
  case rest =>
  obtain ⟨⟨aV, nV, cV, rfl⟩, hL, hb10⟩ := hcut
  rename World => w10
  have HB10 := Lib.hid (HB9.out.trans (hb10.mono HB9.out.size))
  have HLW := Lib.hid hL
  have HY10 := Lib.hid (HY9.out.keep hb10)
  have HZ10 := Lib.hid (HZ9.out.keep hb10)
  have HN10 := Lib.hid (HN9.out.keep hb10)
  have HYI10 := Lib.hid (HYI9.out.keep hb10)
  clear hL hb10 HB9 HA9 HY9 HZ9 HN9 HYI9 HCK1
  go_upto_region 12 with fail
  go_cut [89] from 68 to 88 (fun v wc => v = .bool false ∧ Below w10.heap.size w10 wc)
  case first =>
    have dss : (sE != sE) = false := by simp
    by_cases hz : sE = 0
    case neg =>
      have dz : (sE != 0) = true := by simpa using hz
      have dz2 : (sE == 0) = false := by simpa using hz
      have hY0 : Y.length = 0 := by have := congrArg List.length (HYM.out.trans (HS3.out hz)); simpa using this
      have dl : decide ((Y.length : Int) > 0) = false := by rw [hY0]; rfl
      have dl2 : decide (0 < Y.length) = false := by rw [hY0]; rfl
      have dl3 : ¬ (0 < Y.length) := by omega
      clear hz hY0 HS1 HS3 HS4
      go_wp2
      go_meet
      case rel => exact ⟨rfl, Below.refl _ _⟩
    have dz : (sE != 0) = false := by simpa using hz
    have dz2 : (sE == 0) = true := by simpa using hz
    obtain ⟨aQ, cQ, Q, hQ, hQ2, hQ3, hQ4⟩ := HLW.out hz
    obtain ⟨rfl, rfl, rfl⟩ : aV = aQ ∧ nV = Q.length ∧ cV = cQ := by simpa using hQ
    have HEQ : Hid (eqMs Y Q = true) := eqMs_yes (HYM.out.trans hQ3.symm)
    have HYL : Hid (Y.length = Q.length) := by show _ = _; have := congrArg List.length (HYM.out.trans hQ3.symm); simpa using this
    have HCS := Lib.hid (rsameMail_any w10 aY aV cY cV Y Q (by rw [HYL.out]; unfold maxLen; omega) HY10.out hQ2)
    rw [HEQ.out] at HCS
    clear hz hQ hQ2 hQ3 HS1 HS3 HS4 HYL HEQ hQ4
    go_wp2_with fail
    refine HCS.out.mono ?_
    rintro e w11 ⟨rfl, hb11⟩
    have HB11 := Lib.hid hb11
    clear hb11 HCS
    go_wp2
    go_meet
    case rel => exact ⟨rfl, HB11.out⟩
  case rest =>
  obtain ⟨rfl, hb11⟩ := hcut
  rename World => w11
  have HB11 := Lib.hid (HB10.out.trans (hb11.mono HB10.out.size))
  have HZ11 := Lib.hid (HZ10.out.keep hb11)
  have HN11 := Lib.hid (HN10.out.keep hb11)
  have HYI11 := Lib.hid (HYI10.out.keep hb11)
  clear hb11 HB10 HY10 HZ10 HN10 HYI10 HLW HS1 HS3 HS4 HYM
  obtain ⟨tE, htE⟩ : ∃ t, t = takeE M k := ⟨_, rfl⟩
  have HT1 : Hid (mlE M ≠ 0 → tE = mlE M) := fun h => by rw [htE]; unfold takeE; rw [if_pos h]
  have HT2 : Hid (mlE M = 0 → ¬ (0 ≤ k ∧ k < X.length) → tE = 5) := fun h h2 => by rw [htE]; unfold takeE; rw [if_neg (by simp [h]), if_pos (by rw [HML.out]; exact h2)]
  have HT3 : Hid (mlE M = 0 → (0 ≤ k ∧ k < X.length) → tE = 0) := fun h h2 => by rw [htE]; unfold takeE; rw [if_neg (by simp [h]), if_neg (by rw [HML.out]; simpa using h2)]
  have HT4 : Hid (tE = 0 → mlE M = 0 ∧ X.length ≤ 30 ∧ 0 ≤ k ∧ k < X.length) := fun h => by
    have h0 : mlE M = 0 := by
      by_cases hh : mlE M = 0
      · exact hh
      · rw [HT1.out hh] at h; exact absurd h hh
    have h2 := (Orangery.mlE_zero h0).1
    have h3 := HML.out
    by_cases hr : 0 ≤ k ∧ k < X.length
    · exact ⟨h0, by omega, hr⟩
    · rw [HT2.out h0 hr] at h; omega
  have HTL : Hid (tE ≠ 0 → takeL M k tw = [] ∧ takeM M k = noMl) := fun h => by rw [htE] at h; exact ⟨by unfold takeL; rw [if_pos h], by unfold takeM; rw [if_pos h]⟩
  have HTO : Hid (tE = 0 → ∀ n : Nat, k = n → (tw = true → takeL M k tw = M) ∧ (tw = false → takeL M k tw = M.take n ++ M.drop (n + 1)) ∧ takeM M k = M.getD n noMl) := fun h n hn => by
    rw [htE] at h
    refine ⟨fun h2 => by unfold takeL; rw [if_neg (by simp [h]), h2, if_pos rfl], fun h2 => by unfold takeL; rw [if_neg (by simp [h]), h2, if_neg (by decide), hn]; rfl, by unfold takeM; rw [if_neg (by simp [h]), hn]; rfl⟩
  rw [← htE]
  clear htE
  go_upto_region 14 with fail
  obtain ⟨bk, hbk⟩ : ∃ b : Bool, b = (decide (mlE M = 0) && !decide (0 ≤ k ∧ k < X.length)) := ⟨_, rfl⟩
  have HBK := Lib.hid hbk
  clear hbk
  go_cut [101] from 90 to 100 (fun v wc => v = .bool bk ∧ wc = w11)
  case first =>
    by_cases hz : mlE M = 0
    case neg =>
      have dz : (mlE M == 0) = false := by simpa using hz
      have HE : Hid (bk = false) := by show _ = _; rw [HBK.out]; simp [hz]
      clear hz HT1 HT2 HT3 HT4
      go_wp2
      go_meet
      case rel => exact ⟨by rw [HE.out], rfl⟩
    have dz : (mlE M == 0) = true := by simpa using hz
    by_cases hk0 : k < 0
    · have dk : decide (k < 0) = true := by simpa using hk0
      have HE : Hid (bk = true) := by show _ = _; rw [HBK.out]; simp [hz]; omega
      clear hz HT1 HT2 HT3 HT4
      go_wp2
      go_meet
      case rel => exact ⟨by rw [HE.out], rfl⟩
    have dk : decide (k < 0) = false := by simpa using hk0
    by_cases hk1 : k < X.length
    · have dk1 : decide (k ≥ (X.length : Int)) = false := by simp; omega
      have dk2 : ¬ ((X.length : Int) ≤ k) := by omega
      have HE : Hid (bk = false) := by show _ = _; rw [HBK.out]; simp; omega
      clear hz HT1 HT2 HT3 HT4
      go_wp2
      go_meet
      case rel => exact ⟨by rw [HE.out], rfl⟩
    · have dk1 : decide (k ≥ (X.length : Int)) = true := by simp; omega
      have dk2 : (X.length : Int) ≤ k := by omega
      have HE : Hid (bk = true) := by show _ = _; rw [HBK.out]; simp [hz]; omega
      clear hz HT1 HT2 HT3 HT4
      go_wp2
      go_meet
      case rel => exact ⟨by rw [HE.out], rfl⟩
  case rest =>
  obtain ⟨rfl, hwc⟩ := hcut
  subst hwc
  go_upto_if 101 with fail
  go_cut [16] from 101 to 101 (fun v w' => v = .int .i64 tE ∧ wc = w')
  case first =>
    have HE : Hid ((bk = true → tE = 5) ∧ (bk = false → tE = mlE M)) := by
      have h1 := HBK.out
      by_cases hz : mlE M = 0
      · by_cases hr : 0 ≤ k ∧ k < X.length
        · refine ⟨fun h => ?_, fun _ => (HT3.out hz hr).trans hz.symm⟩
          rw [h1] at h; simp [hr] at h
        · refine ⟨fun _ => HT2.out hz hr, fun h => ?_⟩
          rw [h1] at h; simp [hz] at h
          exact absurd h hr
      · refine ⟨fun h => ?_, fun _ => HT1.out hz⟩
        rw [h1] at h; simp [hz] at h
    clear HBK HT1 HT2 HT3 HT4
    cases hb : bk
    · have HE2 := Lib.hid (HE.out.2 hb)
      subst hb
      go_wp2
      go_meet
      case rel => exact ⟨by rw [HE2.out], rfl⟩
    · have HE2 := Lib.hid (HE.out.1 hb)
      subst hb
      go_wp2
      go_meet
      case rel => exact ⟨by rw [HE2.out], rfl⟩
  case rest =>
  obtain ⟨rfl, hwc⟩ := hcut
  subst hwc
  clear HBK HT1 HT2 HT3
  rename World => w11
  by_cases ht : tE = 0
  case neg =>
    have dt : (tE != 0) = true := by simpa using ht
    have dtt : (tE == tE) = true := by simp
    obtain ⟨hTLz, hTMz⟩ := HTL.out ht
    have hZ0 : Z.length = 0 := by have := congrArg List.length (HZM.out.trans hTLz); simpa using this
    have dz0 : ((Z.length : Int) == 0) = true := by rw [hZ0]; rfl
    have dz1 : (Z.length == 0) = true := by rw [hZ0]; rfl
    have HNM : Hid (y.1 = noMl) := by show _ = _; rw [HYX.out]; exact hTMz
    have HZ0 := Lib.hid hZ0
    clear ht hTLz hTMz hZ0 HTL HTO HT4
    obtain ⟨W12, hW12, hN12, hb12, -⟩ := laid1 w11 (mlC y) 74
    obtain ⟨W13, hW13, hN13, hb13, -⟩ := laid1 W12 (mlC noMm) 74
    have hb1113 := hb12.trans (hb13.mono hb12.size)
    have HB13 := Lib.hid (HB11.out.trans (hb1113.mono HB11.out.size))
    have HR11 := Lib.hid HN11.out.range
    have HSM := rsameMail_any W13 (some ⟨w11.heap.size, 0, none⟩) (some ⟨W12.heap.size, 0, none⟩) 1 1 [y] [noMm] (by unfold maxLen; simp) (one_row (hN12.keep hb13) (HYI11.out.keep hb1113)) (one_row hN13 (noMm_in _))
    rw [eqMs_yes (by simp [HNM.out, noMm])] at HSM
    have HSM := Lib.hid HSM
    clear hN12 hb12 hN13 hb13 hb1113
    go_wp2_with (first | (with_reducible refine at_loadG 74 ?_; refine Shut.out ?_) | fail)
    show wpList _ _ _ _ _ _
    refine load_want 74 _ rfl (by rfl) w2.heap.size 0 rfl (mlC y) _ HR11.out Tryz.underlying74 rfl (sizeMailC y) ?_
    refine build_want (by rfl) rfl (mlC y) rfl rfl ?_
    rw [hW12]
    go_wp2_with (first | (with_reducible refine at_sliceG ?_; refine Shut.out ?_) | fail)
    show wpList _ _ _ _ _ _
    refine build_want (by rfl) rfl (mlC noMm) rfl rfl ?_
    rw [hW13]
    clear hW12 hW13 HR11
    go_wp2_with fail
    refine HSM.out.mono ?_
    rintro e w14 ⟨rfl, hb14⟩
    have HB14 := Lib.hid (HB13.out.trans (hb14.mono HB13.out.size))
    clear hb14 HB13 HSM
    go_wp2
    go_ret
    exact ⟨rfl, HB14.out⟩
  have dt : (tE != 0) = false := by simpa using ht
  obtain ⟨-, hx30, hk0, hk1⟩ := HT4.out ht
  obtain ⟨n, rfl⟩ : ∃ n : Nat, k = n := ⟨k.toNat, by omega⟩
  have hnX : n < X.length := by omega
  obtain ⟨hTL1, hTL2, hTM⟩ := HTO.out ht n rfl
  have HTL1 := Lib.hid hTL1
  have HTL2 := Lib.hid hTL2
  have HTM : Hid (y.1 = X[n].1) := by
    show _ = _
    rw [HYX.out, hTM, HM.out]
    simp [List.getD_eq_getElem?_getD, hnX]
  subst ht
  clear hk0 hk1 hTL1 hTL2 hTM HTL HTO HT4 HYX
  have hn29 : n ≤ 29 := by omega
  have HXA := Lib.hid (HXW.out.keep HB11.out)
  have HCLN := Lib.hid (cloneMails_any w11 a c X (by omega) HXA.out.reads)
  go_wp2_with fail
  refine HCLN.out.mono ?_
  rintro e w12 ⟨vq, rfl, hO, hb12⟩
  have HB12 := Lib.hid (HB11.out.trans (hb12.mono HB11.out.size))
  have HX12 := Lib.hid (HXA.out.keep hb12)
  have HZ12 := Lib.hid (HZ11.out.keep hb12)
  have HN12 := Lib.hid (HN11.out.keep hb12)
  have HYI12 := Lib.hid (HYI11.out.keep hb12)
  have HRW : Hid (RowM w12 w11.heap.size vq X) := ⟨hO, fun z hz => HX12.out.each z hz, fun z hz => (HXA.out.each z hz).isin.imp (fun b hb e => by have := (hO.row.lt b e).1; omega)⟩
  have HLOW : Hid (w.heap.size ≤ w11.heap.size ∧ w2.heap.size < w11.heap.size) := ⟨HB11.out.size, HN11.out.lt⟩
  have HBX : Hid (∀ (w' : World), Below w11.heap.size w12 w' → Below w11.heap.size w11 w') := fun w' h => ⟨h.os.trans hb12.os, h.tape.trans hb12.tape, h.output.trans hb12.output, Nat.le_trans hb12.size h.size, fun j hj => (h.block j hj).trans (hb12.block j hj)⟩
  obtain ⟨aq, cq, rfl, -, -⟩ := hO.val
  clear hO hb12 HCLN HXA
  go_upto_if 122 with fail
  go_cut [19] from 122 to 127 (fun v wc => Lst wc v (takeL M (n : Int) tw) ∧ Below w11.heap.size w11 wc)
  case first =>
    cases tw
    case true =>
      have HREL : Hid (Lst w12 (.slice aq X.length cq) (takeL M (n : Int) true)) := ⟨aq, cq, X, rfl, ⟨HRW.out.row.read, HRW.out.each⟩, by rw [HTL1.out rfl]; exact HM.out.symm, by omega⟩
      have HBB := Lib.hid (HBX.out w12 (Below.refl _ _))
      clear HTL1 HTL2
      go_wp2
      go_meet
      case rel => exact ⟨HREL.out, HBB.out⟩
    case false =>
      have HDEL := Lib.hid (deleteMailsD_any w12 w11.heap.size (.slice aq X.length cq) X n hnX (by omega) HRW.out)
      have hnw : IntKind.i64.wrap ((n : Int) + 1) = (n : Int) + 1 := by rw [IntKind.wrap_i64]; omega
      have hnw2 : wrap64 ((n : Int) + 1) = (n : Int) + 1 := by unfold wrap64; omega
      have HTLE : Hid (takeL M (n : Int) false = M.take n ++ M.drop (n + 1)) := by
        first | exact HTL2.out rfl | exact HTL2.out trivial
      clear HTL1 HTL2
      go_wp2_with fail
      refine HDEL.out.mono ?_
      rintro e w13 ⟨v', rfl, hR, hb13⟩
      obtain ⟨a', c', e', hr', -⟩ := hR.row.val
      have HREL : Hid (Lst w13 v' (takeL M (n : Int) false)) := ⟨a', c', _, e', ⟨hr', hR.each⟩, by rw [HTLE.out, List.map_append, List.map_take, List.map_drop, HM.out], by simp; omega⟩
      have HBB := Lib.hid (HBX.out w13 hb13)
      clear hR hb13 e' hr' hnw hnw2 HDEL
      go_wp2
      go_meet
      case rel => exact ⟨HREL.out, HBB.out⟩
  case rest =>
  obtain ⟨⟨aL, cL, Q, rfl, hQ, hQM, hQ1⟩, hb13⟩ := hcut
  rename World => w13
  have HB13 := Lib.hid (HB11.out.trans (hb13.mono HB11.out.size))
  have HQ13 := Lib.hid hQ
  have HZ13 := Lib.hid (HZ11.out.keep hb13)
  have HN13 := Lib.hid (HN11.out.keep hb13)
  have HYI13 := Lib.hid (HYI11.out.keep hb13)
  have HX13 := Lib.hid (HXW.out.keep HB13.out)
  have HEQ : Hid (eqMs Z Q = true) := eqMs_yes (HZM.out.trans hQM.symm)
  have HZL : Hid (Z.length ≤ maxLen) := by show _ ≤ _; have := congrArg List.length (HZM.out.trans hQM.symm); simp at this; unfold maxLen; omega
  clear hQ hQM hQ1 hb13 HB11 HZ11 HN11 HYI11 HB12 HX12 HZ12 HN12 HYI12 HRW HBX HTL1 HTL2 HZM
  go_upto_region 21 with fail
  have HXcap : Hid (a ≠ none) := by
    intro e
    subst e
    rcases HXW.out.reads with h | ⟨b, off, h, _⟩
    · rw [h] at hnX; simp at hnX
    · simp at h
  obtain ⟨bY, oY, eY, -⟩ := HX13.out.reads.at mlC_len n hnX
  subst eY
  have HONE := Lib.hid (HX13.out.one n hnX)
  refine wp_region_held_drew (S := fun w' => Below w13.heap.size w13 w') (by kernel_rfl) ((Below.refl _ w13).drew) (fun hHeld => ?_)
  refine take_yes 0 128 (v := ?_) rfl rfl (by kernel_rfl) (by kernel_rfl) (by kernel_rfl) (fun _ _ _ h => h) (by rfl) ?_ hHeld ?_
  rotate_left 1
  · (intro w9 hSw; skip; go_simp; try with_reducible rfl)
  simp only [Act.put, List.setIfInBounds_toArray, List.set_cons_succ, List.set_cons_zero]
  refine take_yes 1 129 (v := ?_) rfl rfl (by kernel_rfl) (by kernel_rfl) (by kernel_rfl) (fun _ _ _ h => h) (by rfl) ?_ hHeld ?_
  rotate_left 1
  · (intro w9 hSw; skip; go_simp; try with_reducible rfl)
  simp only [Act.put, List.setIfInBounds_toArray, List.set_cons_succ, List.set_cons_zero]
  refine take_yes 2 130 (v := ?_) rfl rfl (by kernel_rfl) (by kernel_rfl) (by kernel_rfl) (fun _ _ _ h => h) (by rfl) ?_ hHeld ?_
  rotate_left 1
  · (intro w9 hSw; skip; go_simp; try with_reducible rfl)
  simp only [Act.put, List.setIfInBounds_toArray, List.set_cons_succ, List.set_cons_zero]
  refine take_load 3 131 74 w2.heap.size (mlC y) rfl rfl (by kernel_rfl) (by kernel_rfl) (by kernel_rfl) (fun _ _ _ h => h) (by rfl) (by rfl) (by rfl) (fun w hw => (HN13.out.keep hw).range) Tryz.underlying74 rfl (sizeMailC y) hHeld ?_
  simp only [Act.put, List.setIfInBounds_toArray, List.set_cons_succ, List.set_cons_zero]
  have hnw : IntKind.i64.wrap ((n : Int) + 1) = (n : Int) + 1 := by rw [IntKind.wrap_i64]; omega
  have hnw2 : wrap64 ((n : Int) + 1) = (n : Int) + 1 := by unfold wrap64; omega
  have i1 : (n : Int) ≤ (n : Int) + 1 := by omega
  have i2 : (0 : Int) ≤ (n : Int) + 1 := by omega
  have i3 : (n : Int) + 1 ≤ (c : Int) := by have := HCAP.out; omega
  have i4 : ¬ (c = n) := by have := HCAP.out; omega
  have i5 : ¬ (c - n = 0) := by have := HCAP.out; omega
  have i6 : n ≤ c := by have := HCAP.out; omega
  have i7 : n + 1 ≤ c := by have := HCAP.out; omega
  refine take_yes 5 133 (v := ?_) rfl rfl (by kernel_rfl) (by kernel_rfl) (by kernel_rfl) (fun _ _ _ h => h) (by rfl) ?_ hHeld ?_
  rotate_left 1
  · (intro w9 hSw; skip; go_simp; try with_reducible rfl)
  simp only [Act.put, List.setIfInBounds_toArray, List.set_cons_succ, List.set_cons_zero]
  refine take_yes 6 134 (v := ?_) rfl rfl (by kernel_rfl) (by kernel_rfl) (by kernel_rfl) (fun _ _ _ h => h) (by rfl) ?_ hHeld ?_
  rotate_left 1
  · (intro w9 hSw; skip; go_simp; try with_reducible rfl)
  simp only [Act.put, List.setIfInBounds_toArray, List.set_cons_succ, List.set_cons_zero]
  refine take_yes 7 135 (v := ?_) rfl rfl (by kernel_rfl) (by kernel_rfl) (by kernel_rfl) (fun _ _ _ h => h) (by rfl) ?_ hHeld ?_
  rotate_left 1
  · (intro w9 hSw; skip; go_simp; try with_reducible rfl)
  simp only [Act.put, List.setIfInBounds_toArray, List.set_cons_succ, List.set_cons_zero]
  refine take_yes 8 136 (v := ?_) rfl rfl (by kernel_rfl) (by kernel_rfl) (by kernel_rfl) (fun _ _ _ h => h) (by rfl) ?_ hHeld ?_
  rotate_left 1
  · (intro w9 hSw; skip; go_simp; try with_reducible rfl)
  simp only [Act.put, List.setIfInBounds_toArray, List.set_cons_succ, List.set_cons_zero]
  refine take_yes 9 137 (v := ?_) rfl rfl (by kernel_rfl) (by kernel_rfl) (by kernel_rfl) (fun _ _ _ h => h) (by rfl) ?_ hHeld ?_
  rotate_left 1
  · (intro w9 hSw; skip; go_simp; try with_reducible rfl)
  simp only [Act.put, List.setIfInBounds_toArray, List.set_cons_succ, List.set_cons_zero]
  refine wpAnyH_ready (rs := [4]) (by kernel_rfl) (by simp) ?_
  refine AllReadyH.cons rfl (fun KK hKK => ?_) AllReadyH.nil
  rw [if_pos (by rfl)]
  refine build_wp rfl (mlC y) rfl rfl ?_
  show KK (Act.put _ (some 132) _) _
  have hHeld2 := hHeld
  have hB13 := Go.Joins.below_alloc1 w13.drew (Obj.cells (mlC y).toArray 74)
  have hHN : Hid (Blk (w13.drew.alloc (Obj.cells (mlC y).toArray 74)) w13.drew.heap.size (mlC y)) := Blk.new w13.drew (mlC y) 74
  refine hKK.out _ _ (hHeld2.trans (hB13.mono hHeld2.size)) (fun hHeld => ?_)
  clear hKK KK hHeld2 hB13
  simp only [Act.put, List.setIfInBounds_toArray, List.set_cons_succ, List.set_cons_zero]
  obtain ⟨V, hV⟩ : ∃ V, V = w13.drew.alloc (Obj.cells (mlC y).toArray 74) := ⟨_, rfl⟩
  rw [← hV] at hHeld hHN ⊢
  clear hV
  refine wpAnyH_ready (rs := [10]) (by kernel_rfl) (by simp) ?_
  refine AllReadyH.cons rfl (fun KK hKK => ?_) AllReadyH.nil
  go_simp
  refine (rsameMail_any V (some ⟨w13.drew.heap.size, 0, none⟩) (some ⟨bY, oY + n * 21, none⟩) 1 (c - n) [y] [X[n]] (by unfold maxLen; simp) (one_row hHN.out (HYI13.out.keep hHeld)) (HONE.out.keep hHeld)).mono ?_
  rintro e w14 ⟨rfl, hb⟩
  rw [eqMs_yes (show [y].map (·.1) = [X[n]].map (·.1) by simp [HTM.out])]
  have hHeld2 := hHeld
  refine hKK.out _ _ (hHeld2.trans (hb.mono hHeld2.size)) (fun hHeld => ?_)
  clear hKK KK hHeld2 hb hHN
  refine take_yes 11 139 (v := ?_) rfl rfl (by kernel_rfl) (by kernel_rfl) (by kernel_rfl) (fun _ _ _ h => h) (by rfl) ?_ hHeld ?_
  rotate_left 1
  · (intro w9 hSw; skip; go_simp; try with_reducible rfl)
  simp only [Act.put, List.setIfInBounds_toArray, List.set_cons_succ, List.set_cons_zero]
  refine take_yes 12 140 (v := ?_) rfl rfl (by kernel_rfl) (by kernel_rfl) (by kernel_rfl) (fun _ _ _ h => h) (by rfl) ?_ hHeld ?_
  rotate_left 1
  · (intro w9 hSw; skip; go_simp; try with_reducible rfl)
  simp only [Act.put, List.setIfInBounds_toArray, List.set_cons_succ, List.set_cons_zero]
  refine take_yes 13 141 (v := ?_) rfl rfl (by kernel_rfl) (by kernel_rfl) (by kernel_rfl) (fun _ _ _ h => h) (by rfl) ?_ hHeld ?_
  rotate_left 1
  · (intro w9 hSw; skip; go_simp; try with_reducible rfl)
  simp only [Act.put, List.setIfInBounds_toArray, List.set_cons_succ, List.set_cons_zero]
  refine take_yes 14 142 (v := ?_) rfl rfl (by kernel_rfl) (by kernel_rfl) (by kernel_rfl) (fun _ _ _ h => h) (by rfl) ?_ hHeld ?_
  rotate_left 1
  · (intro w9 hSw; skip; go_simp; try with_reducible rfl)
  simp only [Act.put, List.setIfInBounds_toArray, List.set_cons_succ, List.set_cons_zero]
  refine wpAnyH_ready (rs := [15]) (by kernel_rfl) (by simp) ?_
  refine AllReadyH.cons rfl (fun KK hKK => ?_) AllReadyH.nil
  go_simp
  refine (rsameMail_any w14 aZ aL cZ cL Z Q HZL.out (HZ13.out.keep hHeld) (HQ13.out.keep hHeld)).mono ?_
  rintro e w15 ⟨rfl, hb⟩
  rw [HEQ.out]
  have hHeld2 := hHeld
  refine hKK.out _ _ (hHeld2.trans (hb.mono hHeld2.size)) (fun hHeld => ?_)
  clear hKK KK hHeld2 hb
  refine take_yes 16 144 (v := ?_) rfl rfl (by kernel_rfl) (by kernel_rfl) (by kernel_rfl) (fun _ _ _ h => h) (by rfl) ?_ hHeld ?_
  rotate_left 1
  · (intro w9 hSw; skip; go_simp; try with_reducible rfl)
  simp only [Act.put, List.setIfInBounds_toArray, List.set_cons_succ, List.set_cons_zero]
  refine take_yes 17 10 (v := ?_) rfl rfl (by kernel_rfl) (by kernel_rfl) (by kernel_rfl) (fun _ _ _ h => h) (by rfl) ?_ hHeld ?_
  rotate_left 1
  · (intro w9 hSw; skip; go_simp; try with_reducible rfl)
  simp only [Act.put, List.setIfInBounds_toArray, List.set_cons_succ, List.set_cons_zero]
  refine wpAnyH_done (by kernel_rfl) ?_ _
  have HB15 := Lib.hid (HB13.out.trans (hHeld.mono HB13.out.size))
  clear hHeld
  go_wp2
  go_ret
  exact ⟨rfl, HB15.out⟩
end Go.Proofs.YtljbchkmoekpmadGreat

/- A tree that came in as an argument: which places it holds. -/
namespace Go.Proofs.YtljbchkmoekpmadGreat
open Go.ChangeShapes Go.WideShapes Go.ChangeAt Go.RowKit
open Orangery (Pl)

theorem cells3_of {w : World} {base : Nat} {a : Addr} {cs : List Value} (h : w.cells? base a 3 = some cs) :
    ∃ x y z, cs = [x, y, z] ∧ w.cell? (a.add 0) = some x ∧ w.cell? (a.add 1) = some y ∧ w.cell? (a.add 2) = some z := by
  unfold World.cells? at h
  split at h
  · simp only [show List.range 3 = [0, 1, 2] from rfl, List.mapM_cons, List.mapM_nil] at h
    cases h0 : w.cell? (a.add 0) with
    | none => simp [h0] at h
    | some x =>
      cases h1 : w.cell? (a.add 1) with
      | none => simp [h0, h1] at h
      | some y =>
        cases h2 : w.cell? (a.add 2) with
        | none => simp [h0, h1, h2] at h
        | some z =>
          simp [h0, h1, h2] at h
          exact ⟨x, y, z, h.symm, rfl, rfl, rfl⟩
  · simp at h

theorem add_at (b off i : Nat) : (⟨b, off, none⟩ : Addr).add i = ⟨b, off + i, none⟩ := by
  unfold Addr.add
  by_cases hz : i = 0 <;> simp [hz]

/-- a slice of places that is read -/
theorem open_places {H : Type} {enc : TypeId × Value → H} {w : World} {base fuel : Nat} {spare : Nat → Bool} {held : Bool} {v : Value} {x : DataW H × List MemPlace}
    (h : DataW.trod enc Tryz.prog w base spare held fuel 23 [v] = some x) : ∃ a c, ∃ l : List Pl, v = .slice a l.length c ∧ l.length ≤ maxLen ∧ SlP w a l := by
  rcases Go.Deep.open_slice Tryz.underlying23 h with ⟨hcs, _⟩ | ⟨a, len, cap, m, n, D, Pq, hcs, _, hle, hm, hmm, _, hel⟩
  · simp at hcs
    subst hcs
    exact ⟨none, 0, [], rfl, by simp, Or.inl rfl⟩
  · simp at hcs
    subst hcs
    have hlm : len ≤ m := by rw [hmm]; split <;> omega
    have hC : Tryz.prog.cellsOf 64 = 3 := by kernel_rfl
    have hI : Tryz.prog.cellsOf 3 = 1 := by kernel_rfl
    have key : ∀ i, i < len → ∃ q : Pl, w.cell? ((a.add (i * 3)).add 0) = some (.int .i64 q.1) ∧ w.cell? ((a.add (i * 3)).add 1) = some (.int .i64 q.2.1) ∧ w.cell? ((a.add (i * 3)).add 2) = some (.int .i64 q.2.2) := by
      intro i hi
      obtain ⟨cs', h1, h2⟩ := hel i (by omega)
      rw [hC] at h1
      obtain ⟨x, y, z, rfl, c0, c1, c2⟩ := cells3_of h1
      obtain ⟨y0, y1, y2, n', _, _, t0, t1, t2⟩ := Go.Deep.trod_struct3 Tryz.underlying64 h2
      simp [hI] at t0 t1 t2
      obtain ⟨q0, e0, _, _⟩ := DataW.trod_int Tryz.underlying3 t0
      obtain ⟨q1, e1, _, _⟩ := DataW.trod_int Tryz.underlying3 t1
      obtain ⟨q2, e2, _, _⟩ := DataW.trod_int Tryz.underlying3 t2
      simp at e0 e1 e2
      subst e0 e1 e2
      exact ⟨(q0, q1, q2), c0, c1, c2⟩
    obtain ⟨f, hf⟩ := Go.Deep.choose_lt key
    refine ⟨some a, cap, (List.range len).map f, by simp, by simp; omega, ?_⟩
    by_cases hz : len = 0
    · exact Or.inl (by simp [hz])
    · right
      have h0 := (hf 0 (by omega)).1
      obtain ⟨b, off, spot⟩ := a
      have hspot : spot = none := by simpa [Addr.add] using World.cell?_spot h0
      subst hspot
      have hb : b < w.heap.size := by
        have := World.block_lt_of_cell? w _ h0
        rw [add_at, add_at] at this
        exact this
      refine ⟨b, off, rfl, hb, fun i hi => ?_⟩
      have hi' : i < len := by simpa using hi
      have := hf i hi'
      rw [add_at, add_at, add_at, add_at] at this
      simpa using this

set_option maxRecDepth 100000 in
/-- a tree that came in -/
theorem open_tree {H : Type} {enc : TypeId × Value → H} {w : World} {r : Reach} {b0 base : Nat} {spare : Nat → Bool} {held : Bool} {v : Value} {d : DataW H} {p : List MemPlace}
    (hv : Value.okWide Tryz.prog w r b0 25 v) (h : DataW.Trod enc Tryz.prog w base spare held 25 v d p) : ∃ a c, ∃ l : List Pl, v = .agg #[.slice a l.length c] ∧ l.length ≤ maxLen ∧ SlP w a l := by
  obtain ⟨cs, rfl, hsz⟩ := okWide_struct Tryz.underlying25 hv
  have hC : Tryz.prog.cellsOf 25 = 1 := by kernel_rfl
  have hD : Tryz.prog.cellsOf 23 = 1 := by kernel_rfl
  rw [hC] at hsz
  obtain ⟨c0, rfl⟩ : ∃ c0, cs = #[c0] := by
    have h1 : cs.toList.length = 1 := by simpa using hsz
    obtain ⟨x, hx⟩ := List.length_eq_one_iff.1 h1
    exact ⟨x, by cases cs; simp_all⟩
  obtain ⟨fuel, hf⟩ := h
  obtain ⟨y0, n, _, _, h0⟩ := trod_struct1 Tryz.underlying25 hf
  simp [Value.cells, hD] at h0
  obtain ⟨a, c, l, rfl, h1, h2⟩ := open_places h0
  exact ⟨a, c, l, rfl, h1, h2⟩
end Go.Proofs.YtljbchkmoekpmadGreat

/- Operations and steps that came in as arguments. -/
namespace Go.Proofs.YtljbchkmoekpmadGreat
open Go.ChangeShapes Go.WideShapes Go.ChangeAt Go.RowKit
open Orangery (Pl Mv Stp)

theorem list7 {cs : List Value} (h : cs.length = 7) : ∃ a b c d e f g, cs = [a, b, c, d, e, f, g] := by
  match cs, h with
  | [a, b, c, d, e, f, g], _ => exact ⟨a, b, c, d, e, f, g, rfl⟩
theorem list11 {cs : List Value} (h : cs.length = 11) : ∃ a b c d e f g i j k l, cs = [a, b, c, d, e, f, g, i, j, k, l] := by
  match cs, h with
  | [a, b, c, d, e, f, g, i, j, k, l], _ => exact ⟨a, b, c, d, e, f, g, i, j, k, l, rfl⟩

set_option maxRecDepth 100000 in
theorem open_opC {H : Type} {enc : TypeId × Value → H} {w : World} {base fuel : Nat} {spare : Nat → Bool} {held : Bool} {cs : List Value} {x : DataW H × List MemPlace}
    (h : DataW.trod enc Tryz.prog w base spare held fuel 35 cs = some x) : ∃ o : Mv, cs = opC o := by
  obtain ⟨xs, n, _, _, hl, hlen, hf⟩ := DataW.trod_struct Tryz.underlying35 h
  have hC : Tryz.prog.cellsOf 35 = 7 := by kernel_rfl
  have hI : Tryz.prog.cellsOf 3 = 1 := by kernel_rfl
  have hT : Tryz.prog.cellsOf 33 = 2 := by kernel_rfl
  rw [hC] at hl
  obtain ⟨c0, c1, c2, c3, c4, c5, c6, rfl⟩ := list7 hl
  have hx : xs.length = 6 := hlen
  have g0 := hf 0 _ rfl
  have g1 := hf 1 _ rfl
  have g2 := hf 2 _ rfl
  have g3 := hf 3 _ rfl
  have g4 := hf 4 _ rfl
  have g5 := hf 5 _ rfl
  simp [hI, hT] at g0 g1 g2 g3 g4 g5
  rw [List.getElem?_eq_getElem (by omega)] at g0 g1 g2 g3 g4 g5
  obtain ⟨o3, e3, _, _⟩ := DataW.trod_int Tryz.underlying3 g1
  obtain ⟨o4, e4, _, _⟩ := DataW.trod_int Tryz.underlying3 g2
  obtain ⟨o5, e5, _, _⟩ := DataW.trod_int Tryz.underlying3 g3
  obtain ⟨o6, e6, _, _⟩ := DataW.trod_int Tryz.underlying3 g4
  obtain ⟨o7, e7, _, _⟩ := DataW.trod_int Tryz.underlying3 g5
  obtain ⟨y0, y1, n', _, _, t0, t1⟩ := trod_struct2 Tryz.underlying33 g0
  simp [hI] at t0 t1
  obtain ⟨o1, e1, _, _⟩ := DataW.trod_int Tryz.underlying3 t0
  obtain ⟨o2, e2, _, _⟩ := DataW.trod_int Tryz.underlying3 t1
  simp at e1 e2 e3 e4 e5 e6 e7
  subst e1 e2 e3 e4 e5 e6 e7
  exact ⟨(o1, o2, (o3, o4, o5), o6, o7), rfl⟩

set_option maxRecDepth 100000 in
/-- an operation that came in -/
theorem open_op {H : Type} {enc : TypeId × Value → H} {w : World} {r : Reach} {b0 base : Nat} {spare : Nat → Bool} {held : Bool} {v : Value} {d : DataW H} {p : List MemPlace}
    (hv : Value.okWide Tryz.prog w r b0 35 v) (h : DataW.Trod enc Tryz.prog w base spare held 35 v d p) : ∃ o : Mv, v = opV o := by
  obtain ⟨cs, rfl, hsz⟩ := okWide_struct Tryz.underlying35 hv
  obtain ⟨fuel, hf⟩ := h
  obtain ⟨o, ho⟩ := open_opC hf
  refine ⟨o, ?_⟩
  have : cs = (opC o).toArray := by rw [← ho]; simp [Value.cells]
  rw [this]
  rfl

set_option maxRecDepth 100000 in
theorem open_stC {H : Type} {enc : TypeId × Value → H} {w : World} {base fuel : Nat} {spare : Nat → Bool} {held : Bool} {cs : List Value} {x : DataW H × List MemPlace}
    (h : DataW.trod enc Tryz.prog w base spare held fuel 109 cs = some x) : ∃ s : Stp, cs = stC s := by
  obtain ⟨y0, y1, y2, n, _, hl, t0, t1, t2⟩ := Go.Deep.trod_struct3 Tryz.underlying109 h
  have hC : Tryz.prog.cellsOf 109 = 11 := by kernel_rfl
  have hO : Tryz.prog.cellsOf 35 = 7 := by kernel_rfl
  have hB : Tryz.prog.cellsOf 4 = 1 := by kernel_rfl
  have hP : Tryz.prog.cellsOf 64 = 3 := by kernel_rfl
  have hI : Tryz.prog.cellsOf 3 = 1 := by kernel_rfl
  rw [hC] at hl
  obtain ⟨c0, c1, c2, c3, c4, c5, c6, c7, c8, c9, c10, rfl⟩ := list11 hl
  simp [hO, hB, hP] at t0 t1 t2
  obtain ⟨o, ho⟩ := open_opC t0
  obtain ⟨b, hb, _⟩ := DataW.trod_bool Tryz.underlying4 t1
  obtain ⟨z0, z1, z2, n', _, _, q0, q1, q2⟩ := Go.Deep.trod_struct3 Tryz.underlying64 t2
  simp [hI] at q0 q1 q2
  obtain ⟨p1, e1, _, _⟩ := DataW.trod_int Tryz.underlying3 q0
  obtain ⟨p2, e2, _, _⟩ := DataW.trod_int Tryz.underlying3 q1
  obtain ⟨p3, e3, _, _⟩ := DataW.trod_int Tryz.underlying3 q2
  simp at e1 e2 e3 hb
  subst e1 e2 e3 hb
  simp [opC] at ho
  obtain ⟨rfl, rfl, rfl, rfl, rfl, rfl, rfl⟩ := ho
  exact ⟨(o, b, (p1, p2, p3)), rfl⟩

set_option maxRecDepth 100000 in
/-- a step that came in -/
theorem open_step {H : Type} {enc : TypeId × Value → H} {w : World} {r : Reach} {b0 base : Nat} {spare : Nat → Bool} {held : Bool} {v : Value} {d : DataW H} {p : List MemPlace}
    (hv : Value.okWide Tryz.prog w r b0 109 v) (h : DataW.Trod enc Tryz.prog w base spare held 109 v d p) : ∃ s : Stp, v = stV s := by
  obtain ⟨cs, rfl, hsz⟩ := okWide_struct Tryz.underlying109 hv
  obtain ⟨fuel, hf⟩ := h
  obtain ⟨o, ho⟩ := open_stC hf
  refine ⟨o, ?_⟩
  have : cs = (stC o).toArray := by rw [← ho]; simp [Value.cells]
  rw [this]
  rfl
end Go.Proofs.YtljbchkmoekpmadGreat

/- Slices of operations and histories that came in as arguments, and what they weigh. -/
namespace Go.Proofs.YtljbchkmoekpmadGreat
open Go.ChangeShapes Go.WideShapes Go.ChangeAt Go.RowKit
open Orangery (Pl Mv Stp)

/-- a slice of such elements that came in, with what it weighs -/
theorem open_slW {α : Type} [Inhabited α] {enc : α → List Value} {k : Nat} {H : Type} {en : TypeId × Value → H} {w : World} {base fuel : Nat} {spare : Nat → Bool} {held : Bool} {v : Value} {x : DataW H × List MemPlace} {t e : TypeId}
    (hk : ∀ x, (enc x).length = k) (hpos : 0 < k) (ht : Tryz.prog.underlying t = some (.slice e)) (hC : Tryz.prog.cellsOf e = k)
    (hel : ∀ (n : Nat) (cs : List Value) (y : DataW H × List MemPlace), DataW.trod en Tryz.prog w base spare held n e cs = some y → ∃ z : α, cs = enc z)
    (h : DataW.trod en Tryz.prog w base spare held fuel t [v] = some x) : ∃ a c, ∃ l : List α, v = .slice a l.length c ∧ l.length ≤ maxLen ∧ l.length ≤ c ∧ (c ≤ maxLen ∧ (a = none → c = 0)) ∧ SlE enc w a l ∧ (l = [] ∨ ∃ m, l.length ≤ m ∧ m * Tryz.prog.bytesOf e ∈ x.1.weights Tryz.prog t) := by
  rcases Go.Deep.open_slice ht h with ⟨hcs, _⟩ | ⟨a, len, cap, m, n, D, Pq, hcs, _, hle, hm, hmm, hxx, hx⟩
  · simp at hcs
    subst hcs
    exact ⟨none, 0, [], rfl, by simp, by simp, ⟨by simp, fun _ => rfl⟩, Or.inl rfl, Or.inl rfl⟩
  · simp at hcs
    subst hcs
    have hlm : len ≤ m := by rw [hmm]; split <;> omega
    have key : ∀ i, i < len → ∃ z : α, ∀ (j : Nat) (v : Value), (enc z)[j]? = some v → w.cell? ((a.add (i * k)).add j) = some v := by
      intro i hi
      obtain ⟨cs', h1, h2⟩ := hx i (by omega)
      rw [hC] at h1
      obtain ⟨z, rfl⟩ := hel _ _ _ h2
      exact ⟨z, (cells_range h1).2⟩
    obtain ⟨f, hf⟩ := Go.Deep.choose_lt key
    refine ⟨some a, cap, (List.range len).map f, by simp, by simp; omega, by simp; omega, ⟨hm, fun e => by simp at e⟩, ?_, Or.inr ⟨m, by simpa using hlm, ?_⟩⟩
    · by_cases hz : len = 0
      · exact Or.inl (by simp [hz])
      · right
        obtain ⟨u, hu⟩ : ∃ u, (enc (f 0))[0]? = some u := ⟨_, List.getElem?_eq_getElem (by rw [hk]; exact hpos)⟩
        have h0 := hf 0 (by omega) 0 u hu
        obtain ⟨b, off, spot⟩ := a
        have hspot : spot = none := by simpa [Addr.add] using World.cell?_spot h0
        subst hspot
        have hb : b < w.heap.size := by
          have := World.block_lt_of_cell? w _ h0
          rw [Addr.add_mid, Addr.add_mid] at this
          exact this
        refine ⟨b, off, rfl, hb, fun j v hv => ?_⟩
        have hj : j < len * k := by
          have := (List.getElem?_eq_some_iff.1 hv).1
          rw [flatE_len hk] at this
          simpa using this
        have hi : j / k < len := (Nat.div_lt_iff_lt_mul hpos).2 hj
        have hc : j % k < k := Nat.mod_lt _ hpos
        have e1 : j / k * k + j % k = j := by rw [Nat.mul_comm]; exact Nat.div_add_mod j k
        have e2 := flatE_get hk ((List.range len).map f) (j / k) (by simpa using hi) (j % k) hc
        rw [e1, hv] at e2
        have e3 := hf (j / k) hi (j % k) v (by simpa using e2.symm)
        rw [Addr.add_mid, Addr.add_mid] at e3
        rw [show off + j = off + j / k * k + j % k by omega]
        exact e3
    · subst hxx
      simp only [DataW.weights, ht]
      have e : ((List.range len).map D).length + ((List.range (m - len)).map fun j => D (len + j)).length = m := by simp; omega
      rw [e]
      exact List.mem_cons_self

set_option maxRecDepth 100000 in
/-- operations that came in -/
theorem open_ops {H : Type} {enc : TypeId × Value → H} {w : World} {r : Reach} {b0 base : Nat} {spare : Nat → Bool} {held : Bool} {v : Value} {d : DataW H} {p : List MemPlace}
    (hv : Value.okWide Tryz.prog w r b0 58 v) (h : DataW.Trod enc Tryz.prog w base spare held 58 v d p) : ∃ a c, ∃ l : List Mv, v = .slice a l.length c ∧ l.length ≤ maxLen ∧ l.length ≤ c ∧ SlE opC w a l := by
  obtain ⟨a', n', c', rfl⟩ := okWide_slice Tryz.underlying58 hv
  obtain ⟨fuel, hf⟩ := h
  obtain ⟨a, c, l, e, h1, h2, _, h3, _⟩ := open_slW opC_len (by omega) Tryz.underlying58 (by kernel_rfl) (fun n cs y hy => open_opC hy) hf
  exact ⟨a, c, l, e, h1, h2, h3⟩

set_option maxRecDepth 100000 in
/-- operations that came in, and the room behind them -/
theorem open_opsN {H : Type} {enc : TypeId × Value → H} {w : World} {r : Reach} {b0 base : Nat} {spare : Nat → Bool} {held : Bool} {v : Value} {d : DataW H} {p : List MemPlace}
    (hv : Value.okWide Tryz.prog w r b0 58 v) (h : DataW.Trod enc Tryz.prog w base spare held 58 v d p) : ∃ a c, ∃ l : List Mv, v = .slice a l.length c ∧ l.length ≤ maxLen ∧ l.length ≤ c ∧ c ≤ maxLen ∧ (a = none → c = 0) ∧ SlE opC w a l := by
  obtain ⟨a', n', c', rfl⟩ := okWide_slice Tryz.underlying58 hv
  obtain ⟨fuel, hf⟩ := h
  obtain ⟨a, c, l, e, h1, h2, ⟨h4, h5⟩, h3, _⟩ := open_slW opC_len (by omega) Tryz.underlying58 (by kernel_rfl) (fun n cs y hy => open_opC hy) hf
  exact ⟨a, c, l, e, h1, h2, h4, h5, h3⟩

set_option maxRecDepth 100000 in
/-- a history that came in -/
theorem open_hist {H : Type} {enc : TypeId × Value → H} {w : World} {r : Reach} {b0 base : Nat} {spare : Nat → Bool} {held : Bool} {v : Value} {d : DataW H} {p : List MemPlace}
    (hv : Value.okWide Tryz.prog w r b0 27 v) (h : DataW.Trod enc Tryz.prog w base spare held 27 v d p) :
    ∃ aL aT cL cT, ∃ (L : List Stp) (T : List Pl), v = hiV (.slice aL L.length cL) (.slice aT T.length cT) ∧ T.length ≤ maxLen ∧ SlE stC w aL L ∧ SlP w aT T ∧ (L = [] ∨ ∃ m, L.length ≤ m ∧ m * 88 ∈ d.weights Tryz.prog 27) := by
  obtain ⟨cs, rfl, hsz⟩ := okWide_struct Tryz.underlying27 hv
  have hC : Tryz.prog.cellsOf 27 = 2 := by kernel_rfl
  have hD : Tryz.prog.cellsOf 22 = 1 := by kernel_rfl
  have hE : Tryz.prog.cellsOf 25 = 1 := by kernel_rfl
  have hF : Tryz.prog.cellsOf 23 = 1 := by kernel_rfl
  have hby : Tryz.prog.bytesOf 109 = 88 := by kernel_rfl
  rw [hC] at hsz
  obtain ⟨c0, c1, rfl⟩ : ∃ c0 c1, cs = #[c0, c1] := by
    have h1 : cs.toList.length = 2 := by simpa using hsz
    cases cs with
    | mk l =>
      match l, h1 with
      | [x, y], _ => exact ⟨x, y, rfl⟩
  obtain ⟨fuel, hf⟩ := h
  obtain ⟨y0, y1, n, hd, _, h0, h1⟩ := trod_struct2 Tryz.underlying27 hf
  simp [Value.cells, hD, hE] at h0 h1
  obtain ⟨aL, cL, L, rfl, _, _, _, hL, hw⟩ := open_slW stC_len (by omega) Tryz.underlying22 (by kernel_rfl) (fun n cs y hy => open_stC hy) h0
  obtain ⟨z0, n', _, _, h2⟩ := trod_struct1 Tryz.underlying25 h1
  simp [hF] at h2
  obtain ⟨aT, cT, T, rfl, hT1, hT2⟩ := open_places h2
  refine ⟨aL, aT, cL, cT, L, T, rfl, hT1, hL, hT2, ?_⟩
  rcases hw with hw | ⟨m, hm, hw⟩
  · exact Or.inl hw
  · right
    refine ⟨m, hm, ?_⟩
    have e : d = .agg [y0.1, y1.1] := congrArg Prod.fst hd
    rw [e]
    rw [hby] at hw
    simp only [DataW.weights, Tryz.underlying27]
    exact DataW.weights_mem_each (j := 0) rfl rfl _ hw

theorem sized_hist {H : Type} {ts : List TypeId} {ds : List (DataW H)} (h : (DataW.weightsEach Tryz.prog ts ds).all (· ≤ reachBytes) = true) {j : Nat} {d : DataW H} (ht : ts[j]? = some 27) (hd : ds[j]? = some d) {L : List Stp}
    (hw : L = [] ∨ ∃ m, L.length ≤ m ∧ m * 88 ∈ d.weights Tryz.prog 27) : L.length * 88 ≤ 140737488351232 := by
  rcases hw with rfl | ⟨m, hm, hw⟩
  · simp
  · have := List.all_eq_true.1 h _ (DataW.weights_mem_each ht hd _ hw)
    have h2 : m * 88 ≤ reachBytes := by simpa using this
    unfold reachBytes at h2
    omega
end Go.Proofs.YtljbchkmoekpmadGreat

/- Ints, places with the room behind them, and views that came in as arguments. -/
namespace Go.Proofs.YtljbchkmoekpmadGreat
open Go.ChangeShapes Go.WideShapes Go.ChangeAt Go.RowKit
open Orangery (Pl)

def intC (x : Int) : List Value := [.int .i64 x]
theorem intC_len (x : Int) : (intC x).length = 1 := rfl

theorem sli_of {w : World} {a : Option Addr} {l : List Int} (h : SlE intC w a l) : SlI w a l := by
  rcases h with h | ⟨b, off, ha, hlt, hp⟩
  · exact Or.inl h
  · refine Or.inr ⟨b, off, ha, hlt, fun i hi => ?_⟩
    have := elemE intC_len hp i hi 0 (.int .i64 l[i]) rfl
    rw [Nat.mul_one, Nat.add_zero] at this
    exact this
theorem slp_of {w : World} {a : Option Addr} {l : List Pl} (h : SlE encPl w a l) : SlP w a l := by
  rcases h with h | ⟨b, off, ha, hlt, hp⟩
  · exact Or.inl h
  · refine Or.inr ⟨b, off, ha, hlt, fun i hi => ?_⟩
    have hr := elemE encPl_len hp i hi
    exact ⟨hr 0 _ rfl, hr 1 _ rfl, hr 2 _ rfl⟩

theorem open_intC {H : Type} {enc : TypeId × Value → H} {w : World} {base fuel : Nat} {spare : Nat → Bool} {held : Bool} {cs : List Value} {x : DataW H × List MemPlace}
    (h : DataW.trod enc Tryz.prog w base spare held fuel 3 cs = some x) : ∃ z : Int, cs = intC z := by
  obtain ⟨q, e, _, _⟩ := DataW.trod_int Tryz.underlying3 h
  exact ⟨q, e⟩
set_option maxRecDepth 100000 in
theorem open_plC {H : Type} {enc : TypeId × Value → H} {w : World} {base fuel : Nat} {spare : Nat → Bool} {held : Bool} {cs : List Value} {x : DataW H × List MemPlace}
    (h : DataW.trod enc Tryz.prog w base spare held fuel 64 cs = some x) : ∃ z : Pl, cs = encPl z := by
  obtain ⟨y0, y1, y2, n', _, hl, t0, t1, t2⟩ := Go.Deep.trod_struct3 Tryz.underlying64 h
  have hC : Tryz.prog.cellsOf 64 = 3 := by kernel_rfl
  have hI : Tryz.prog.cellsOf 3 = 1 := by kernel_rfl
  rw [hC] at hl
  obtain ⟨c0, c1, c2, rfl⟩ : ∃ c0 c1 c2, cs = [c0, c1, c2] := by
    match cs, hl with
    | [x, y, z], _ => exact ⟨x, y, z, rfl⟩
  simp [hI] at t0 t1 t2
  obtain ⟨q0, e0, _, _⟩ := DataW.trod_int Tryz.underlying3 t0
  obtain ⟨q1, e1, _, _⟩ := DataW.trod_int Tryz.underlying3 t1
  obtain ⟨q2, e2, _, _⟩ := DataW.trod_int Tryz.underlying3 t2
  simp at e0 e1 e2
  subst e0 e1 e2
  exact ⟨(q0, q1, q2), rfl⟩

set_option maxRecDepth 100000 in
/-- ints that came in -/
theorem open_ints {H : Type} {enc : TypeId × Value → H} {w : World} {r : Reach} {b0 base : Nat} {spare : Nat → Bool} {held : Bool} {v : Value} {d : DataW H} {p : List MemPlace}
    (hv : Value.okWide Tryz.prog w r b0 31 v) (h : DataW.Trod enc Tryz.prog w base spare held 31 v d p) : ∃ a c, ∃ l : List Int, v = .slice a l.length c ∧ l.length ≤ maxLen ∧ (l.length ≤ c ∧ c ≤ maxLen) ∧ SlI w a l := by
  obtain ⟨a', n', c', rfl⟩ := okWide_slice Tryz.underlying31 hv
  obtain ⟨fuel, hf⟩ := h
  obtain ⟨a, c, l, e, h1, h2, ⟨h4, _⟩, h3, _⟩ := open_slW intC_len (by omega) Tryz.underlying31 (by kernel_rfl) (fun n cs y hy => open_intC hy) hf
  exact ⟨a, c, l, e, h1, ⟨h2, h4⟩, sli_of h3⟩

set_option maxRecDepth 100000 in
theorem open_view {H : Type} {enc : TypeId × Value → H} {w : World} {r : Reach} {b0 base : Nat} {spare : Nat → Bool} {held : Bool} {v : Value} {d : DataW H} {p : List MemPlace}
    (hv : Value.okWide Tryz.prog w r b0 42 v) (h : DataW.Trod enc Tryz.prog w base spare held 42 v d p) :
    ∃ aR aK aW cR cK cW, ∃ (R : List Int) (K W : List Pl), v = .agg #[.slice aR R.length cR, .slice aK K.length cK, .slice aW W.length cW] ∧ (R.length ≤ maxLen ∧ K.length ≤ maxLen ∧ W.length ≤ maxLen) ∧ ((aK = none → cK = 0) ∧ (aW = none → cW = 0)) ∧ SlI w aR R ∧ SlP w aK K ∧ SlP w aW W := by
  obtain ⟨cs, rfl, hsz⟩ := okWide_struct Tryz.underlying42 hv
  have hC : Tryz.prog.cellsOf 42 = 3 := by kernel_rfl
  have hD : Tryz.prog.cellsOf 31 = 1 := by kernel_rfl
  have hF : Tryz.prog.cellsOf 23 = 1 := by kernel_rfl
  rw [hC] at hsz
  obtain ⟨c0, c1, c2, rfl⟩ : ∃ c0 c1 c2, cs = #[c0, c1, c2] := by
    have h1 : cs.toList.length = 3 := by simpa using hsz
    cases cs with
    | mk l =>
      match l, h1 with
      | [x, y, z], _ => exact ⟨x, y, z, rfl⟩
  obtain ⟨fuel, hf⟩ := h
  obtain ⟨y0, y1, y2, n, _, _, h0, h1, h2⟩ := Go.Deep.trod_struct3 Tryz.underlying42 hf
  simp [Value.cells, hD, hF] at h0 h1 h2
  obtain ⟨aR, cR, R, rfl, m0, _, _, hR, _⟩ := open_slW intC_len (by omega) Tryz.underlying31 (by kernel_rfl) (fun n cs y hy => open_intC hy) h0
  obtain ⟨aK, cK, K, rfl, m1, _, ⟨_, n1⟩, hK, _⟩ := open_slW encPl_len (by omega) Tryz.underlying23 (by kernel_rfl) (fun n cs y hy => open_plC hy) h1
  obtain ⟨aW, cW, W, rfl, m2, _, ⟨_, n2⟩, hW, _⟩ := open_slW encPl_len (by omega) Tryz.underlying23 (by kernel_rfl) (fun n cs y hy => open_plC hy) h2
  exact ⟨aR, aK, aW, cR, cK, cW, R, K, W, rfl, ⟨m0, m1, m2⟩, ⟨n1, n2⟩, sli_of hR, slp_of hK, slp_of hW⟩
end Go.Proofs.YtljbchkmoekpmadGreat

