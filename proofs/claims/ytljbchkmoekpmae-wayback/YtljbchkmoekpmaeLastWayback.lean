/- WayBack returns true for every list of mail, every mail and every number: what is sent last is taken as it was, and then all is as ahead; taken twice it is still there. Its condition: no list of an argument weighs more than the reach that every row has (the sized builder). -/
import Derived.Deep.Slices
import Derived.Deep.Strs
import Derived.ChangeOld
import Derived.SizedLaws
import Derived.Test.YtljbchkmoekpmaeP03
import Derived.Test.YtljbchkmoekpmaeP01
import Derived.Test.YtljbchkmoekpmaeP13
import Derived.Test.YtljbchkmoekpmaeP04
import Derived.Test.YtljbchkmoekpmaeP05
import Derived.Test.YtljbchkmoekpmaeP09
/- orangerylaw.at: a number brought within bounds. -/
namespace Go.Proofs.Ytljbchkmoekpmae
open Go.ChangeShapes Go.WideShapes Go.ChangeAt Go.RowKit
open Orangery (atI)

set_option maxHeartbeats 400000 in
theorem at_any (w : World) (k n : Int) (hn : 0 < n) (hn2 : n ≤ 4611686018427387904) :
    Calls Try.prog 8 #[.int .i64 k, .int .i64 n] w fun e w' => e = .returned (.int .i64 (atI k n)) ∧ w' = w := by
  obtain ⟨⟨h1, h2⟩, hat⟩ := Orangery.tmod_at k n hn
  have HA : Hid (atI k n = if k.tmod n < 0 then k.tmod n + n else k.tmod n) := hat
  have hnz : (n == 0) = false := by simp; omega
  clear hat
  by_cases hneg : k.tmod n < 0
  · go_enter Try.func8, Try.ntmps8
    go_wp2
    go_ret
    exact ⟨ret_int (by rw [HA.out, if_pos hneg]), rfl⟩
  · go_enter Try.func8, Try.ntmps8
    go_wp2
    go_ret
    exact ⟨ret_int (by rw [HA.out, if_neg (by omega)]), rfl⟩

end Go.Proofs.Ytljbchkmoekpmae

/- orangerylaw.WayBack: the walk. -/
namespace Go.Proofs.Ytljbchkmoekpmae
open Go.ChangeShapes Go.WideShapes Go.ChangeAt Go.RowKit
open Orangery (Pl Mv Vw Dl Ml noVw noDl noMl noOp ml1E mlsE mlE sendE sendL takeE takeL takeM atI)

theorem build_wp {Q : Exit → Act → World → Prop} {K : Act → World → Prop} {o : Oper} {x : Operand} {a : Act} {w : World} (ho : o.op = .buildSlice 22 1 #[(0, x)]) (cs : List Value) (hc : cs.length = 21) (hx : a.eval x = .agg cs.toArray)
    (h : K (a.put o.dst (.slice (some ⟨w.heap.size, 0, none⟩) 1 1)) (w.alloc (.cells cs.toArray 34))) : o.wp Try.prog a w K Q := by
  obtain ⟨i0, hi, hz0, hz1, hz2⟩ := info_parts infoMail
  refine wp_buildSlice 22 34 1 _ ho cs.toArray i0 _ Try.underlying22 hi hz0 (by rw [hz1]; decide) (by rw [hz1]; decide) ?_ h
  have e : (#[(0, x)].map fun (p : Nat × Operand) => (p.1, a.eval p.2)).toList = [(0, Value.agg cs.toArray)] := by simp [hx]
  show Instr.fill _ _ (#[(0, x)].map fun (p : Nat × Operand) => (p.1, a.eval p.2)).toList = _
  rw [e]
  exact build_cells cs hc hz1
/-- one of a row, as a row -/
theorem SlM.one {w : World} {b o : Nat} {X : List Mm} (h : SlM w (some ⟨b, o, none⟩) X) (k : Nat) (hk : k < X.length) : SlM w (some ⟨b, o + k * 21, none⟩) [X[k]] := by
  obtain ⟨b', o', e, hb, hr⟩ := h.reads.at mlC_len k hk
  obtain ⟨rfl, rfl⟩ : b = b' ∧ o = o' := by simpa using e
  exact ⟨Or.inr ⟨b, o + k * 21, rfl, hb, by simpa using hr⟩, fun y hy => by simp at hy; subst hy; exact h.each _ (List.getElem_mem hk)⟩

set_option maxHeartbeats 4000000 in
set_option maxRecDepth 100000 in
theorem wayBack_any (w : World) (a : Option Addr) (c : Nat) (X : List Mm) (x : Mm) (k : Int) (hm : X.length ≤ maxLen) (hX : SlM w a X) (hx : MlIn w x) :
    Calls Try.prog 3 #[.slice a X.length c, x.val, .int .i64 k] w fun e w' => e = .returned (.bool true) ∧ Below w.heap.size w w' := by
  obtain ⟨cx, hcx⟩ : ∃ c, c = mlC x := ⟨_, rfl⟩
  show Calls Try.prog _ #[_, .agg (mlC x).toArray, _] w _
  rw [← hcx]
  obtain ⟨W0, hW, hA, hB, -⟩ := laid1 w cx 34
  have HXW := Lib.hid hX
  have HXI := Lib.hid hx
  have HB0 := Lib.hid hB
  have HA0 := Lib.hid hA
  have HR0 := Lib.hid hA.range
  have HCX := Lib.hid hcx
  have HI1 : Hid ((Try.prog.info? 34).map (·.size) = some cx.length) := by show _ = _; rw [hcx]; exact sizeMailC x
  have HSND : Hid (Calls Try.prog 4 #[.slice a X.length c, .agg cx.toArray] W0 (SentM W0 (sendL (X.map (·.1)) x.1) (sendE (X.map (·.1)) x.1))) := by rw [hcx]; exact wSend_any W0 a c X x hm (hX.keep hB) (hx.keep hB)
  have HLEN : Hid (X.length ≤ maxLen) := hm
  have hm' : X.length ≤ 9223372036854775807 := hm
  obtain ⟨L, hL⟩ : ∃ L, L = sendL (X.map (·.1)) x.1 := ⟨_, rfl⟩
  obtain ⟨E, hE⟩ : ∃ E, E = sendE (X.map (·.1)) x.1 := ⟨_, rfl⟩
  have HLE : Hid (E = 0 → (X.length = 30 → L = X.map (·.1)) ∧ (X.length ≠ 30 → L = X.map (·.1) ++ [x.1] ∧ mlE L = 0) ∧ X.length ≤ 30) := by
    intro h
    rw [hE] at h
    refine ⟨fun h2 => by rw [hL]; exact Orangery.send_full h (by simpa using h2), fun h2 => ?_, by have := (Orangery.mlE_zero (Orangery.send_zero h).1).1; simpa using this⟩
    have h3 := Orangery.send_room h (by simpa using h2)
    rw [hL, h3.1]
    exact ⟨rfl, h3.2⟩
  rw [← hL, ← hE] at HSND
  clear hL hE hX hx hB hA hcx hm
  go_enter Try.func3, Try.ntmps3
  go_wp2_with (first | (refine wpList_load_mid rfl 34 _ rfl w.heap.size 0 rfl cx _ HR0.out Try.underlying34 rfl HI1.out ?_) | fail)
  clear hW
  refine HSND.out.mono ?_
  rintro e w1 ⟨v, Y, rfl, hO, hYM, hb⟩
  obtain ⟨aY, cY, rfl, hY, hcY⟩ := hO.row.val
  have HYS : Hid (SlM w1 aY Y) := ⟨hY, hO.each⟩
  have HYM := Lib.hid hYM
  have HA1 := Lib.hid (HA0.out.keep hb)
  have HB1 := Lib.hid (HB0.out.trans (hb.mono HB0.out.size))
  have HYC := Lib.hid hcY
  have hYn : aY = none → Y = [] := by
    intro h
    subst h
    rcases hY with h | ⟨b, off, h, _⟩
    · exact h
    · simp at h
  have HYN := Lib.hid hYn
  clear hO hY hcY hYM hb hYn HSND HA0 HB0 HR0
  go_wp2_with fail
  refine (posted_any w1).mono ?_
  rintro e w2 ⟨rfl, hb⟩
  have HA2 := Lib.hid (HA1.out.keep hb)
  have HB2 := Lib.hid (HB1.out.trans (hb.mono HB1.out.size))
  have HY2 := Lib.hid (HYS.out.keep hb)
  clear hb HA1 HB1 HYS
  by_cases hz : E = 0
  case neg =>
    have dz : (E != 0) = true := by simpa using hz
    clear hz HLE
    go_wp2_with fail
    refine (posted_any w2).mono ?_
    rintro e w3 ⟨rfl, hb⟩
    have HB3 := Lib.hid (HB2.out.trans (hb.mono HB2.out.size))
    clear hb HA2 HY2 HB2
    go_wp2
    go_ret
    exact ⟨rfl, HB3.out⟩
  obtain ⟨hL1, hL2, hl30⟩ := HLE.out hz
  have HL1 := Lib.hid hL1
  have HL2 := Lib.hid hL2
  subst hz
  clear hL1 hL2 HLE
  by_cases h30 : X.length = 30
  · have HS := Lib.hid (wSame_any w2 aY a cY c Y X (by have := congrArg List.length (HYM.out.trans (HL1.out h30)); simp at this; unfold maxLen; omega) HY2.out (HXW.out.keep HB2.out))
    have HEQ : Hid (eqMs Y X = true) := eqMs_yes (HYM.out.trans (HL1.out h30))
    have d1 : ((X.length : Int) == 30) = true := by rw [h30]; rfl
    clear h30 HL1 HL2
    rw [HEQ.out] at HS
    go_wp2_with fail
    refine HS.out.mono ?_
    rintro e w3 ⟨rfl, hb⟩
    have HB3 := Lib.hid (HB2.out.trans (hb.mono HB2.out.size))
    clear hb HA2 HY2 HB2
    go_wp2
    go_ret
    exact ⟨rfl, HB3.out⟩
  obtain ⟨hLe, hLz⟩ := HL2.out h30
  have d1 : ((X.length : Int) == 30) = false := by simp; omega
  have hl29 : X.length ≤ 29 := by omega
  have hYM2 : Y.map (·.1) = X.map (·.1) ++ [x.1] := HYM.out.trans hLe
  have HYM2 := Lib.hid hYM2
  have HYZ : Hid (mlE (X.map (·.1) ++ [x.1]) = 0) := by show _ = _; rw [← hLe]; exact hLz
  have hYl : Y.length = X.length + 1 := by have := congrArg List.length hYM2; simpa using this
  have HTK : Hid (Calls Try.prog 7 #[.slice aY Y.length cY, .int .i64 (X.length : Int), .bool false] w2 (TookM w2 (X.map (·.1)) x.1 0)) := by
    have h := wTake_any w2 aY cY Y X.length false (by unfold maxLen; omega) HY2.out
    have h2 := Orangery.take_last HYZ.out
    rw [hYM2] at h
    simp only [List.length_map] at h2
    rw [h2.1, h2.2.1, h2.2.2] at h
    exact h
  have HYL := Lib.hid hYl
  have HL29 := Lib.hid hl29
  clear h30 hLe hLz HL1 HL2 hYM2 HYM hYl hl29
  go_wp2_with fail
  refine HTK.out.mono ?_
  rintro e w3 ⟨vz, Z, y, rfl, hO, hZM, hy, hyI, -, hb3⟩
  obtain ⟨aZ, cZ, rfl, hZ⟩ := hO.val
  obtain ⟨V4, W4, hV4, hT4, hW4, hN4, hb4⟩ := boxed w3 y
  have hb34 := hb3.trans (hb4.mono hb3.size)
  have HB4 := Lib.hid (HB2.out.trans (hb34.mono HB2.out.size))
  have HA4 := Lib.hid (HA2.out.keep hb34)
  have HY4 := Lib.hid (HY2.out.keep hb34)
  have HZ4 := Lib.hid (hZ.keep hb4)
  have HN4 := Lib.hid hN4
  have HYI4 := Lib.hid (hyI.keep hb4)
  have HT4 := Lib.hid hT4
  have HW4 := Lib.hid hW4
  have hZl : Z.length = X.length := by have := congrArg List.length hZM; simpa using this
  have HS4 := wSame_any W4 aZ a cZ c Z X (by have := HL29.out; unfold maxLen; omega) HZ4.out (HXW.out.keep HB4.out)
  rw [eqMs_yes hZM] at HS4
  have HS4 := Lib.hid HS4
  have HYX := Lib.hid hy
  clear hO hZ hZM hy hyI hb3 hb4 hb34 hN4 hT4 hW4 hZl HTK HA2 HB2 HY2
  go_wp2_with (first | (with_reducible refine at_store 34 ?_; refine wpList_store_mid rfl 34 _ _ rfl w3.heap.size 0 (mlC y).toArray rfl rfl HT4.out (sizeMm y) (oneMm y) ?_; rw [HW4.out]) | fail)
  clear hV4 HT4 HW4
  refine HS4.out.mono ?_
  rintro e w5 ⟨rfl, hb5⟩
  have HR5 := Lib.hid (HN4.out.keep hb5).range
  obtain ⟨W6, hW6, hN6, hb6, -⟩ := laid1 w5 (mlC y) 34
  have HA6 := Lib.hid ((HA4.out.keep hb5).keep hb6)
  have HR6 := Lib.hid HA6.out.range
  obtain ⟨W7, hW7, hN7, hb7, -⟩ := laid1 W6 cx 34
  have hb67 := hb6.trans (hb7.mono hb6.size)
  have hb57 := hb5.trans (hb67.mono hb5.size)
  have HB7 := Lib.hid (HB4.out.trans (hb57.mono HB4.out.size))
  have HY7 := Lib.hid (HY4.out.keep hb57)
  have HA7 := Lib.hid (HA6.out.keep hb7)
  have HS7 := wSame_any W7 (some ⟨w5.heap.size, 0, none⟩) (some ⟨W6.heap.size, 0, none⟩) 1 1 [y] [x] (by unfold maxLen; simp) (one_row (hN6.keep hb7) ((HYI4.out.keep hb5).keep hb67)) (one_row (by rw [← HCX.out]; exact hN7) (HXI.out.keep HB7.out))
  rw [eqMs_yes (by simp [HYX.out])] at HS7
  have HS7 := Lib.hid HS7
  have HLC : Hid (cx.length = 21) := by show _ = _; rw [HCX.out]; rfl
  clear hb5 hN6 hb6 hN7 hb7 hb67 hb57 HS4 HB4 HY4 HZ4 HN4 HYI4 HA4 HA6 HYX
  go_wp2_with (first | (with_reducible refine at_loadG 34 ?_; refine Shut.out ?_) | fail)
  show wpList _ _ _ _ _ _
  refine load_want 34 _ rfl (by rfl) w3.heap.size 0 rfl (mlC y) _ HR5.out Try.underlying34 rfl (sizeMailC y) ?_
  refine build_want (by rfl) rfl (mlC y) rfl rfl ?_
  rw [hW6]
  refine load_want 34 _ rfl (by rfl) w.heap.size 0 rfl cx _ HR6.out Try.underlying34 rfl HI1.out ?_
  refine build_want (by rfl) rfl cx HLC.out rfl ?_
  rw [hW7]
  clear hW6 hW7 HR5 HR6
  go_wp2_with fail
  refine HS7.out.mono ?_
  rintro e w8 ⟨rfl, hb8⟩
  have HB8 := Lib.hid (HB7.out.trans (hb8.mono HB7.out.size))
  have HY8 := Lib.hid (HY7.out.keep hb8)
  clear hb8 HS7 HB7 HY7 HA7
  have hpos : (0 : Int) < (Y.length : Int) := by have := HYL.out; omega
  have hle : (Y.length : Int) ≤ 4611686018427387904 := by have := HYL.out; have := HL29.out; omega
  go_wp2_with fail
  refine (at_any w8 k (Y.length : Int) hpos hle).mono ?_
  rintro e w9 ⟨rfl, hw9⟩
  rw [hw9]
  clear hw9
  have hat := (Orangery.tmod_at k (Y.length : Int) hpos)
  obtain ⟨n, hn⟩ : ∃ n : Nat, atI k (Y.length : Int) = n := by
    refine ⟨(atI k (Y.length : Int)).toNat, ?_⟩
    have h1 := hat.1
    have h2 := hat.2
    by_cases hneg : k.tmod (Y.length : Int) < 0
    · rw [if_pos hneg] at h2; omega
    · rw [if_neg hneg] at h2; omega
  have hnl : n < Y.length := by
    have h1 := hat.1
    have h2 := hat.2
    by_cases hneg : k.tmod (Y.length : Int) < 0
    · rw [if_pos hneg] at h2; omega
    · rw [if_neg hneg] at h2; omega
  rw [hn]
  clear hat hn hle hpos
  have hn29 : n ≤ 29 := by have := HYL.out; have := HL29.out; omega
  have HTK2 : Hid (Calls Try.prog 7 #[.slice aY Y.length cY, .int .i64 (n : Int), .bool true] w8 (TookM w8 (Y.map (·.1)) Y[n].1 0)) := by
    have h := wTake_any w8 aY cY Y n true (by have := HYL.out; have := HL29.out; unfold maxLen; omega) HY8.out
    have h2 := Orangery.take_twice (l := Y.map (·.1)) (k := n) (by rw [HYM2.out]; exact HYZ.out) (by simpa using hnl)
    rw [h2.1, h2.2.1, h2.2.2] at h
    show Calls _ _ _ _ _
    simpa using h
  go_wp2_with fail
  refine HTK2.out.mono ?_
  rintro e w10 ⟨vu, U, z, rfl, hO, hUM, hz, hzI, -, hb⟩
  obtain ⟨aU, cU, rfl, hU⟩ := hO.val
  obtain ⟨V11, W11, hV11, hT11, hW11, hN11, hb11⟩ := boxed w10 z
  have hb811 := hb.trans (hb11.mono hb.size)
  have HB11 := Lib.hid (HB8.out.trans (hb811.mono HB8.out.size))
  have HY11 := Lib.hid (HY8.out.keep hb811)
  have HU11 := Lib.hid (hU.keep hb11)
  have HN11 := Lib.hid hN11
  have HZI11 := Lib.hid (hzI.keep hb11)
  have HT11 := Lib.hid hT11
  have HW11 := Lib.hid hW11
  have hUl : U.length = Y.length := by have := congrArg List.length hUM; simpa using this
  have HULL : Hid (U.length ≤ maxLen) := by show _ ≤ _; rw [hUl, HYL.out]; have := HL29.out; unfold maxLen; omega
  have HUE : Hid (eqMs U Y = true) := eqMs_yes hUM
  have HZX := Lib.hid hz
  clear hO hU hUM hz hzI hb hb11 hb811 hN11 hT11 hW11 hUl HTK2 HB8 HY8
  go_wp2_with (first | (with_reducible refine at_store 34 ?_; refine wpList_store_mid rfl 34 _ _ rfl w10.heap.size 0 (mlC z).toArray rfl rfl HT11.out (sizeMm z) (oneMm z) ?_; rw [HW11.out]) | fail)
  clear hV11 HT11 HW11
  have HYcap : Hid (n < cY) := by show _ < _; have := HYC.out; omega
  obtain ⟨bY, oY, eY, -⟩ := HY11.out.reads.at mlC_len n hnl
  subst eY
  have HONE := Lib.hid (HY11.out.one n hnl)
  refine wp_region_held_drew (S := fun w' => Below W11.heap.size W11 w') (by kernel_rfl) ((Below.refl _ W11).drew) (fun hHeld => ?_)
  refine take_yes 0 67 (v := ?_) rfl rfl (by kernel_rfl) (by kernel_rfl) (by kernel_rfl) (fun _ _ _ h => h) (by rfl) ?_ hHeld ?_
  rotate_left 1
  · (intro w9 hSw; skip; go_simp; try with_reducible rfl)
  simp only [Act.put, List.setIfInBounds_toArray, List.set_cons_succ, List.set_cons_zero]
  refine take_yes 1 68 (v := ?_) rfl rfl (by kernel_rfl) (by kernel_rfl) (by kernel_rfl) (fun _ _ _ h => h) (by rfl) ?_ hHeld ?_
  rotate_left 1
  · (intro w9 hSw; skip; go_simp; try with_reducible rfl)
  simp only [Act.put, List.setIfInBounds_toArray, List.set_cons_succ, List.set_cons_zero]
  refine take_yes 2 69 (v := ?_) rfl rfl (by kernel_rfl) (by kernel_rfl) (by kernel_rfl) (fun _ _ _ h => h) (by rfl) ?_ hHeld ?_
  rotate_left 1
  · (intro w9 hSw; skip; go_simp; try with_reducible rfl)
  simp only [Act.put, List.setIfInBounds_toArray, List.set_cons_succ, List.set_cons_zero]
  refine take_yes 3 70 (v := ?_) rfl rfl (by kernel_rfl) (by kernel_rfl) (by kernel_rfl) (fun _ _ _ h => h) (by rfl) ?_ hHeld ?_
  rotate_left 1
  · (intro w9 hSw; skip; go_simp; try with_reducible rfl)
  simp only [Act.put, List.setIfInBounds_toArray, List.set_cons_succ, List.set_cons_zero]
  refine take_yes 4 71 (v := ?_) rfl rfl (by kernel_rfl) (by kernel_rfl) (by kernel_rfl) (fun _ _ _ h => h) (by rfl) ?_ hHeld ?_
  rotate_left 1
  · (intro w9 hSw; skip; go_simp; try with_reducible rfl)
  simp only [Act.put, List.setIfInBounds_toArray, List.set_cons_succ, List.set_cons_zero]
  refine wpAnyH_ready (rs := [5]) (by kernel_rfl) (by simp) ?_
  refine AllReadyH.cons rfl (fun KK hKK => ?_) AllReadyH.nil
  go_simp
  refine (wSame_any W11.drew aU (some ⟨bY, oY, none⟩) cU cY U Y HULL.out (HU11.out.keep hHeld) (HY11.out.keep hHeld)).mono ?_
  rintro e w12 ⟨rfl, hb⟩
  rw [HUE.out]
  have hHeld2 := hHeld
  refine hKK.out _ _ (hHeld2.trans (hb.mono hHeld2.size)) (fun hHeld => ?_)
  clear hKK KK hHeld2 hb
  refine take_yes 6 73 (v := ?_) rfl rfl (by kernel_rfl) (by kernel_rfl) (by kernel_rfl) (fun _ _ _ h => h) (by rfl) ?_ hHeld ?_
  rotate_left 1
  · (intro w9 hSw; skip; go_simp; try with_reducible rfl)
  simp only [Act.put, List.setIfInBounds_toArray, List.set_cons_succ, List.set_cons_zero]
  refine take_yes 7 74 (v := ?_) rfl rfl (by kernel_rfl) (by kernel_rfl) (by kernel_rfl) (fun _ _ _ h => h) (by rfl) ?_ hHeld ?_
  rotate_left 1
  · (intro w9 hSw; skip; go_simp; try with_reducible rfl)
  simp only [Act.put, List.setIfInBounds_toArray, List.set_cons_succ, List.set_cons_zero]
  refine take_load 8 75 34 w10.heap.size (mlC z) rfl rfl (by kernel_rfl) (by kernel_rfl) (by kernel_rfl) (fun _ _ _ h => h) (by rfl) (by rfl) (by rfl) (fun w hw => (HN11.out.keep hw).range) Try.underlying34 rfl (sizeMailC z) hHeld ?_
  simp only [Act.put, List.setIfInBounds_toArray, List.set_cons_succ, List.set_cons_zero]
  have hnw : IntKind.i64.wrap ((n : Int) + 1) = (n : Int) + 1 := by rw [IntKind.wrap_i64]; omega
  have hnw2 : wrap64 ((n : Int) + 1) = (n : Int) + 1 := by unfold wrap64; omega
  have i1 : (n : Int) ≤ (n : Int) + 1 := by omega
  have i2 : (0 : Int) ≤ (n : Int) + 1 := by omega
  have i3 : (n : Int) + 1 ≤ (cY : Int) := by have := HYcap.out; omega
  have i4 : ¬ (cY = n) := by have := HYcap.out; omega
  have i5 : ¬ (cY - n = 0) := by have := HYcap.out; omega
  have i6 : n ≤ cY := by have := HYcap.out; omega
  have i7 : n + 1 ≤ cY := HYcap.out
  refine take_yes 10 77 (v := ?_) rfl rfl (by kernel_rfl) (by kernel_rfl) (by kernel_rfl) (fun _ _ _ h => h) (by rfl) ?_ hHeld ?_
  rotate_left 1
  · (intro w9 hSw; skip; go_simp; try with_reducible rfl)
  simp only [Act.put, List.setIfInBounds_toArray, List.set_cons_succ, List.set_cons_zero]
  refine take_yes 11 78 (v := ?_) rfl rfl (by kernel_rfl) (by kernel_rfl) (by kernel_rfl) (fun _ _ _ h => h) (by rfl) ?_ hHeld ?_
  rotate_left 1
  · (intro w9 hSw; skip; go_simp; try with_reducible rfl)
  simp only [Act.put, List.setIfInBounds_toArray, List.set_cons_succ, List.set_cons_zero]
  refine take_yes 12 79 (v := ?_) rfl rfl (by kernel_rfl) (by kernel_rfl) (by kernel_rfl) (fun _ _ _ h => h) (by rfl) ?_ hHeld ?_
  rotate_left 1
  · (intro w9 hSw; skip; go_simp; try with_reducible rfl)
  simp only [Act.put, List.setIfInBounds_toArray, List.set_cons_succ, List.set_cons_zero]
  refine take_yes 13 80 (v := ?_) rfl rfl (by kernel_rfl) (by kernel_rfl) (by kernel_rfl) (fun _ _ _ h => h) (by rfl) ?_ hHeld ?_
  rotate_left 1
  · (intro w9 hSw; skip; go_simp; try with_reducible rfl)
  simp only [Act.put, List.setIfInBounds_toArray, List.set_cons_succ, List.set_cons_zero]
  refine take_yes 14 81 (v := ?_) rfl rfl (by kernel_rfl) (by kernel_rfl) (by kernel_rfl) (fun _ _ _ h => h) (by rfl) ?_ hHeld ?_
  rotate_left 1
  · (intro w9 hSw; skip; go_simp; try with_reducible rfl)
  simp only [Act.put, List.setIfInBounds_toArray, List.set_cons_succ, List.set_cons_zero]
  refine wpAnyH_ready (rs := [9]) (by kernel_rfl) (by simp) ?_
  refine AllReadyH.cons rfl (fun KK hKK => ?_) AllReadyH.nil
  rw [if_pos (by rfl)]
  refine build_wp rfl (mlC z) rfl rfl ?_
  show KK (Act.put _ (some 76) _) _
  have hHeld2 := hHeld
  have hB13 := Go.Joins.below_alloc1 w12 (Obj.cells (mlC z).toArray 34)
  have hHN : Hid (Blk (w12.alloc (Obj.cells (mlC z).toArray 34)) w12.heap.size (mlC z)) := Blk.new w12 (mlC z) 34
  refine hKK.out _ _ (hHeld2.trans (hB13.mono hHeld2.size)) (fun hHeld => ?_)
  clear hKK KK hHeld2 hB13
  simp only [Act.put, List.setIfInBounds_toArray, List.set_cons_succ, List.set_cons_zero]
  refine wpAnyH_ready (rs := [15]) (by kernel_rfl) (by simp) ?_
  refine AllReadyH.cons rfl (fun KK hKK => ?_) AllReadyH.nil
  go_simp
  refine (wSame_any (w12.alloc (Obj.cells (mlC z).toArray 34)) (some ⟨w12.heap.size, 0, none⟩) (some ⟨bY, oY + n * 21, none⟩) 1 (cY - n) [z] [Y[n]] (by unfold maxLen; simp) (one_row hHN.out (HZI11.out.keep hHeld)) (HONE.out.keep hHeld)).mono ?_
  rintro e w14 ⟨rfl, hb⟩
  rw [eqMs_yes (show [z].map (·.1) = [Y[n]].map (·.1) by simp [HZX.out])]
  have hHeld2 := hHeld
  refine hKK.out _ _ (hHeld2.trans (hb.mono hHeld2.size)) (fun hHeld => ?_)
  clear hKK KK hHeld2 hb
  refine take_yes 16 83 (v := ?_) rfl rfl (by kernel_rfl) (by kernel_rfl) (by kernel_rfl) (fun _ _ _ h => h) (by rfl) ?_ hHeld ?_
  rotate_left 1
  · (intro w9 hSw; skip; go_simp; try with_reducible rfl)
  simp only [Act.put, List.setIfInBounds_toArray, List.set_cons_succ, List.set_cons_zero]
  refine take_yes 17 6 (v := ?_) rfl rfl (by kernel_rfl) (by kernel_rfl) (by kernel_rfl) (fun _ _ _ h => h) (by rfl) ?_ hHeld ?_
  rotate_left 1
  · (intro w9 hSw; skip; go_simp; try with_reducible rfl)
  simp only [Act.put, List.setIfInBounds_toArray, List.set_cons_succ, List.set_cons_zero]
  refine wpAnyH_done (by kernel_rfl) ?_ _
  have HB14 := Lib.hid (HB11.out.trans (hHeld.mono HB11.out.size))
  clear hHeld hHN
  go_wp2
  go_ret
  exact ⟨rfl, HB14.out⟩
end Go.Proofs.Ytljbchkmoekpmae

/- A tree that came in as an argument: which places it holds. -/
namespace Go.Proofs.Ytljbchkmoekpmae
open Go.ChangeShapes Go.WideShapes Go.ChangeAt Go.RowKit
open Orangery (Pl)

theorem cells3_of {w : World} {base : Nat} {a : Addr} {cs : List Value} (h : w.cells? base a 3 = some cs) :
    ∃ x y z, cs = [x, y, z] ∧ w.cell? (a.add 0) = some x ∧ w.cell? (a.add 1) = some y ∧ w.cell? (a.add 2) = some z := by
  unfold World.cells? at h
  split at h
  · simp only [show List.range 3 = [0, 1, 2] from rfl, List.mapM_cons, List.mapM_nil] at h
    cases h0 : w.cell? (a.add 0) with
    | none => simp [h0] at h
    | some x =>
      cases h1 : w.cell? (a.add 1) with
      | none => simp [h0, h1] at h
      | some y =>
        cases h2 : w.cell? (a.add 2) with
        | none => simp [h0, h1, h2] at h
        | some z =>
          simp [h0, h1, h2] at h
          exact ⟨x, y, z, h.symm, rfl, rfl, rfl⟩
  · simp at h

theorem add_at (b off i : Nat) : (⟨b, off, none⟩ : Addr).add i = ⟨b, off + i, none⟩ := by
  unfold Addr.add
  by_cases hz : i = 0 <;> simp [hz]

/-- a slice of places that is read -/
theorem open_places {H : Type} {enc : TypeId × Value → H} {w : World} {base fuel : Nat} {spare : Nat → Bool} {held : Bool} {v : Value} {x : DataW H × List MemPlace}
    (h : DataW.trod enc Try.prog w base spare held fuel 28 [v] = some x) : ∃ a c, ∃ l : List Pl, v = .slice a l.length c ∧ l.length ≤ maxLen ∧ SlP w a l := by
  rcases Go.Deep.open_slice Try.underlying28 h with ⟨hcs, _⟩ | ⟨a, len, cap, m, n, D, Pq, hcs, _, hle, hm, hmm, _, hel⟩
  · simp at hcs
    subst hcs
    exact ⟨none, 0, [], rfl, by simp, Or.inl rfl⟩
  · simp at hcs
    subst hcs
    have hlm : len ≤ m := by rw [hmm]; split <;> omega
    have hC : Try.prog.cellsOf 56 = 3 := by kernel_rfl
    have hI : Try.prog.cellsOf 3 = 1 := by kernel_rfl
    have key : ∀ i, i < len → ∃ q : Pl, w.cell? ((a.add (i * 3)).add 0) = some (.int .i64 q.1) ∧ w.cell? ((a.add (i * 3)).add 1) = some (.int .i64 q.2.1) ∧ w.cell? ((a.add (i * 3)).add 2) = some (.int .i64 q.2.2) := by
      intro i hi
      obtain ⟨cs', h1, h2⟩ := hel i (by omega)
      rw [hC] at h1
      obtain ⟨x, y, z, rfl, c0, c1, c2⟩ := cells3_of h1
      obtain ⟨y0, y1, y2, n', _, _, t0, t1, t2⟩ := Go.Deep.trod_struct3 Try.underlying56 h2
      simp [hI] at t0 t1 t2
      obtain ⟨q0, e0, _, _⟩ := DataW.trod_int Try.underlying3 t0
      obtain ⟨q1, e1, _, _⟩ := DataW.trod_int Try.underlying3 t1
      obtain ⟨q2, e2, _, _⟩ := DataW.trod_int Try.underlying3 t2
      simp at e0 e1 e2
      subst e0 e1 e2
      exact ⟨(q0, q1, q2), c0, c1, c2⟩
    obtain ⟨f, hf⟩ := Go.Deep.choose_lt key
    refine ⟨some a, cap, (List.range len).map f, by simp, by simp; omega, ?_⟩
    by_cases hz : len = 0
    · exact Or.inl (by simp [hz])
    · right
      have h0 := (hf 0 (by omega)).1
      obtain ⟨b, off, spot⟩ := a
      have hspot : spot = none := by simpa [Addr.add] using World.cell?_spot h0
      subst hspot
      have hb : b < w.heap.size := by
        have := World.block_lt_of_cell? w _ h0
        rw [add_at, add_at] at this
        exact this
      refine ⟨b, off, rfl, hb, fun i hi => ?_⟩
      have hi' : i < len := by simpa using hi
      have := hf i hi'
      rw [add_at, add_at, add_at, add_at] at this
      simpa using this

set_option maxRecDepth 100000 in
/-- a tree that came in -/
theorem open_tree {H : Type} {enc : TypeId × Value → H} {w : World} {r : Reach} {b0 base : Nat} {spare : Nat → Bool} {held : Bool} {v : Value} {d : DataW H} {p : List MemPlace}
    (hv : Value.okWide Try.prog w r b0 75 v) (h : DataW.Trod enc Try.prog w base spare held 75 v d p) : ∃ a c, ∃ l : List Pl, v = .agg #[.slice a l.length c] ∧ l.length ≤ maxLen ∧ SlP w a l := by
  obtain ⟨cs, rfl, hsz⟩ := okWide_struct Try.underlying75 hv
  have hC : Try.prog.cellsOf 75 = 1 := by kernel_rfl
  have hD : Try.prog.cellsOf 28 = 1 := by kernel_rfl
  rw [hC] at hsz
  obtain ⟨c0, rfl⟩ : ∃ c0, cs = #[c0] := by
    have h1 : cs.toList.length = 1 := by simpa using hsz
    obtain ⟨x, hx⟩ := List.length_eq_one_iff.1 h1
    exact ⟨x, by cases cs; simp_all⟩
  obtain ⟨fuel, hf⟩ := h
  obtain ⟨y0, n, _, _, h0⟩ := trod_struct1 Try.underlying75 hf
  simp [Value.cells, hD] at h0
  obtain ⟨a, c, l, rfl, h1, h2⟩ := open_places h0
  exact ⟨a, c, l, rfl, h1, h2⟩
end Go.Proofs.Ytljbchkmoekpmae

/- Operations and steps that came in as arguments. -/
namespace Go.Proofs.Ytljbchkmoekpmae
open Go.ChangeShapes Go.WideShapes Go.ChangeAt Go.RowKit
open Orangery (Pl Mv Stp)

theorem list7 {cs : List Value} (h : cs.length = 7) : ∃ a b c d e f g, cs = [a, b, c, d, e, f, g] := by
  match cs, h with
  | [a, b, c, d, e, f, g], _ => exact ⟨a, b, c, d, e, f, g, rfl⟩
theorem list11 {cs : List Value} (h : cs.length = 11) : ∃ a b c d e f g i j k l, cs = [a, b, c, d, e, f, g, i, j, k, l] := by
  match cs, h with
  | [a, b, c, d, e, f, g, i, j, k, l], _ => exact ⟨a, b, c, d, e, f, g, i, j, k, l, rfl⟩

set_option maxRecDepth 100000 in
theorem open_opC {H : Type} {enc : TypeId × Value → H} {w : World} {base fuel : Nat} {spare : Nat → Bool} {held : Bool} {cs : List Value} {x : DataW H × List MemPlace}
    (h : DataW.trod enc Try.prog w base spare held fuel 26 cs = some x) : ∃ o : Mv, cs = opC o := by
  obtain ⟨xs, n, _, _, hl, hlen, hf⟩ := DataW.trod_struct Try.underlying26 h
  have hC : Try.prog.cellsOf 26 = 7 := by kernel_rfl
  have hI : Try.prog.cellsOf 3 = 1 := by kernel_rfl
  have hT : Try.prog.cellsOf 24 = 2 := by kernel_rfl
  rw [hC] at hl
  obtain ⟨c0, c1, c2, c3, c4, c5, c6, rfl⟩ := list7 hl
  have hx : xs.length = 6 := hlen
  have g0 := hf 0 _ rfl
  have g1 := hf 1 _ rfl
  have g2 := hf 2 _ rfl
  have g3 := hf 3 _ rfl
  have g4 := hf 4 _ rfl
  have g5 := hf 5 _ rfl
  simp [hI, hT] at g0 g1 g2 g3 g4 g5
  rw [List.getElem?_eq_getElem (by omega)] at g0 g1 g2 g3 g4 g5
  obtain ⟨o3, e3, _, _⟩ := DataW.trod_int Try.underlying3 g1
  obtain ⟨o4, e4, _, _⟩ := DataW.trod_int Try.underlying3 g2
  obtain ⟨o5, e5, _, _⟩ := DataW.trod_int Try.underlying3 g3
  obtain ⟨o6, e6, _, _⟩ := DataW.trod_int Try.underlying3 g4
  obtain ⟨o7, e7, _, _⟩ := DataW.trod_int Try.underlying3 g5
  obtain ⟨y0, y1, n', _, _, t0, t1⟩ := trod_struct2 Try.underlying24 g0
  simp [hI] at t0 t1
  obtain ⟨o1, e1, _, _⟩ := DataW.trod_int Try.underlying3 t0
  obtain ⟨o2, e2, _, _⟩ := DataW.trod_int Try.underlying3 t1
  simp at e1 e2 e3 e4 e5 e6 e7
  subst e1 e2 e3 e4 e5 e6 e7
  exact ⟨(o1, o2, (o3, o4, o5), o6, o7), rfl⟩

set_option maxRecDepth 100000 in
/-- an operation that came in -/
theorem open_op {H : Type} {enc : TypeId × Value → H} {w : World} {r : Reach} {b0 base : Nat} {spare : Nat → Bool} {held : Bool} {v : Value} {d : DataW H} {p : List MemPlace}
    (hv : Value.okWide Try.prog w r b0 26 v) (h : DataW.Trod enc Try.prog w base spare held 26 v d p) : ∃ o : Mv, v = opV o := by
  obtain ⟨cs, rfl, hsz⟩ := okWide_struct Try.underlying26 hv
  obtain ⟨fuel, hf⟩ := h
  obtain ⟨o, ho⟩ := open_opC hf
  refine ⟨o, ?_⟩
  have : cs = (opC o).toArray := by rw [← ho]; simp [Value.cells]
  rw [this]
  rfl

end Go.Proofs.Ytljbchkmoekpmae

/- Slices of operations and histories that came in as arguments, and what they weigh. -/
namespace Go.Proofs.Ytljbchkmoekpmae
open Go.ChangeShapes Go.WideShapes Go.ChangeAt Go.RowKit
open Orangery (Pl Mv Stp)

/-- a slice of such elements that came in, with what it weighs -/
theorem open_slW {α : Type} [Inhabited α] {enc : α → List Value} {k : Nat} {H : Type} {en : TypeId × Value → H} {w : World} {base fuel : Nat} {spare : Nat → Bool} {held : Bool} {v : Value} {x : DataW H × List MemPlace} {t e : TypeId}
    (hk : ∀ x, (enc x).length = k) (hpos : 0 < k) (ht : Try.prog.underlying t = some (.slice e)) (hC : Try.prog.cellsOf e = k)
    (hel : ∀ (n : Nat) (cs : List Value) (y : DataW H × List MemPlace), DataW.trod en Try.prog w base spare held n e cs = some y → ∃ z : α, cs = enc z)
    (h : DataW.trod en Try.prog w base spare held fuel t [v] = some x) : ∃ a c, ∃ l : List α, v = .slice a l.length c ∧ l.length ≤ maxLen ∧ l.length ≤ c ∧ (c ≤ maxLen ∧ (a = none → c = 0)) ∧ SlE enc w a l ∧ (l = [] ∨ ∃ m, l.length ≤ m ∧ m * Try.prog.bytesOf e ∈ x.1.weights Try.prog t) := by
  rcases Go.Deep.open_slice ht h with ⟨hcs, _⟩ | ⟨a, len, cap, m, n, D, Pq, hcs, _, hle, hm, hmm, hxx, hx⟩
  · simp at hcs
    subst hcs
    exact ⟨none, 0, [], rfl, by simp, by simp, ⟨by simp, fun _ => rfl⟩, Or.inl rfl, Or.inl rfl⟩
  · simp at hcs
    subst hcs
    have hlm : len ≤ m := by rw [hmm]; split <;> omega
    have key : ∀ i, i < len → ∃ z : α, ∀ (j : Nat) (v : Value), (enc z)[j]? = some v → w.cell? ((a.add (i * k)).add j) = some v := by
      intro i hi
      obtain ⟨cs', h1, h2⟩ := hx i (by omega)
      rw [hC] at h1
      obtain ⟨z, rfl⟩ := hel _ _ _ h2
      exact ⟨z, (cells_range h1).2⟩
    obtain ⟨f, hf⟩ := Go.Deep.choose_lt key
    refine ⟨some a, cap, (List.range len).map f, by simp, by simp; omega, by simp; omega, ⟨hm, fun e => by simp at e⟩, ?_, Or.inr ⟨m, by simpa using hlm, ?_⟩⟩
    · by_cases hz : len = 0
      · exact Or.inl (by simp [hz])
      · right
        obtain ⟨u, hu⟩ : ∃ u, (enc (f 0))[0]? = some u := ⟨_, List.getElem?_eq_getElem (by rw [hk]; exact hpos)⟩
        have h0 := hf 0 (by omega) 0 u hu
        obtain ⟨b, off, spot⟩ := a
        have hspot : spot = none := by simpa [Addr.add] using World.cell?_spot h0
        subst hspot
        have hb : b < w.heap.size := by
          have := World.block_lt_of_cell? w _ h0
          rw [Addr.add_mid, Addr.add_mid] at this
          exact this
        refine ⟨b, off, rfl, hb, fun j v hv => ?_⟩
        have hj : j < len * k := by
          have := (List.getElem?_eq_some_iff.1 hv).1
          rw [flatE_len hk] at this
          simpa using this
        have hi : j / k < len := (Nat.div_lt_iff_lt_mul hpos).2 hj
        have hc : j % k < k := Nat.mod_lt _ hpos
        have e1 : j / k * k + j % k = j := by rw [Nat.mul_comm]; exact Nat.div_add_mod j k
        have e2 := flatE_get hk ((List.range len).map f) (j / k) (by simpa using hi) (j % k) hc
        rw [e1, hv] at e2
        have e3 := hf (j / k) hi (j % k) v (by simpa using e2.symm)
        rw [Addr.add_mid, Addr.add_mid] at e3
        rw [show off + j = off + j / k * k + j % k by omega]
        exact e3
    · subst hxx
      simp only [DataW.weights, ht]
      have e : ((List.range len).map D).length + ((List.range (m - len)).map fun j => D (len + j)).length = m := by simp; omega
      rw [e]
      exact List.mem_cons_self

end Go.Proofs.Ytljbchkmoekpmae

/- Ints, places with the room behind them, and views that came in as arguments. -/
namespace Go.Proofs.Ytljbchkmoekpmae
open Go.ChangeShapes Go.WideShapes Go.ChangeAt Go.RowKit
open Orangery (Pl)

def intC (x : Int) : List Value := [.int .i64 x]
theorem intC_len (x : Int) : (intC x).length = 1 := rfl

theorem sli_of {w : World} {a : Option Addr} {l : List Int} (h : SlE intC w a l) : SlI w a l := by
  rcases h with h | ⟨b, off, ha, hlt, hp⟩
  · exact Or.inl h
  · refine Or.inr ⟨b, off, ha, hlt, fun i hi => ?_⟩
    have := elemE intC_len hp i hi 0 (.int .i64 l[i]) rfl
    rw [Nat.mul_one, Nat.add_zero] at this
    exact this
theorem slp_of {w : World} {a : Option Addr} {l : List Pl} (h : SlE encPl w a l) : SlP w a l := by
  rcases h with h | ⟨b, off, ha, hlt, hp⟩
  · exact Or.inl h
  · refine Or.inr ⟨b, off, ha, hlt, fun i hi => ?_⟩
    have hr := elemE encPl_len hp i hi
    exact ⟨hr 0 _ rfl, hr 1 _ rfl, hr 2 _ rfl⟩

theorem open_intC {H : Type} {enc : TypeId × Value → H} {w : World} {base fuel : Nat} {spare : Nat → Bool} {held : Bool} {cs : List Value} {x : DataW H × List MemPlace}
    (h : DataW.trod enc Try.prog w base spare held fuel 3 cs = some x) : ∃ z : Int, cs = intC z := by
  obtain ⟨q, e, _, _⟩ := DataW.trod_int Try.underlying3 h
  exact ⟨q, e⟩
set_option maxRecDepth 100000 in
theorem open_plC {H : Type} {enc : TypeId × Value → H} {w : World} {base fuel : Nat} {spare : Nat → Bool} {held : Bool} {cs : List Value} {x : DataW H × List MemPlace}
    (h : DataW.trod enc Try.prog w base spare held fuel 56 cs = some x) : ∃ z : Pl, cs = encPl z := by
  obtain ⟨y0, y1, y2, n', _, hl, t0, t1, t2⟩ := Go.Deep.trod_struct3 Try.underlying56 h
  have hC : Try.prog.cellsOf 56 = 3 := by kernel_rfl
  have hI : Try.prog.cellsOf 3 = 1 := by kernel_rfl
  rw [hC] at hl
  obtain ⟨c0, c1, c2, rfl⟩ : ∃ c0 c1 c2, cs = [c0, c1, c2] := by
    match cs, hl with
    | [x, y, z], _ => exact ⟨x, y, z, rfl⟩
  simp [hI] at t0 t1 t2
  obtain ⟨q0, e0, _, _⟩ := DataW.trod_int Try.underlying3 t0
  obtain ⟨q1, e1, _, _⟩ := DataW.trod_int Try.underlying3 t1
  obtain ⟨q2, e2, _, _⟩ := DataW.trod_int Try.underlying3 t2
  simp at e0 e1 e2
  subst e0 e1 e2
  exact ⟨(q0, q1, q2), rfl⟩

set_option maxRecDepth 100000 in
/-- ints that came in -/
theorem open_ints {H : Type} {enc : TypeId × Value → H} {w : World} {r : Reach} {b0 base : Nat} {spare : Nat → Bool} {held : Bool} {v : Value} {d : DataW H} {p : List MemPlace}
    (hv : Value.okWide Try.prog w r b0 27 v) (h : DataW.Trod enc Try.prog w base spare held 27 v d p) : ∃ a c, ∃ l : List Int, v = .slice a l.length c ∧ l.length ≤ maxLen ∧ (l.length ≤ c ∧ c ≤ maxLen) ∧ SlI w a l := by
  obtain ⟨a', n', c', rfl⟩ := okWide_slice Try.underlying27 hv
  obtain ⟨fuel, hf⟩ := h
  obtain ⟨a, c, l, e, h1, h2, ⟨h4, _⟩, h3, _⟩ := open_slW intC_len (by omega) Try.underlying27 (by kernel_rfl) (fun n cs y hy => open_intC hy) hf
  exact ⟨a, c, l, e, h1, ⟨h2, h4⟩, sli_of h3⟩

set_option maxRecDepth 100000 in
theorem open_view {H : Type} {enc : TypeId × Value → H} {w : World} {r : Reach} {b0 base : Nat} {spare : Nat → Bool} {held : Bool} {v : Value} {d : DataW H} {p : List MemPlace}
    (hv : Value.okWide Try.prog w r b0 30 v) (h : DataW.Trod enc Try.prog w base spare held 30 v d p) :
    ∃ aR aK aW cR cK cW, ∃ (R : List Int) (K W : List Pl), v = .agg #[.slice aR R.length cR, .slice aK K.length cK, .slice aW W.length cW] ∧ (R.length ≤ maxLen ∧ K.length ≤ maxLen ∧ W.length ≤ maxLen) ∧ ((aK = none → cK = 0) ∧ (aW = none → cW = 0)) ∧ SlI w aR R ∧ SlP w aK K ∧ SlP w aW W := by
  obtain ⟨cs, rfl, hsz⟩ := okWide_struct Try.underlying30 hv
  have hC : Try.prog.cellsOf 30 = 3 := by kernel_rfl
  have hD : Try.prog.cellsOf 27 = 1 := by kernel_rfl
  have hF : Try.prog.cellsOf 28 = 1 := by kernel_rfl
  rw [hC] at hsz
  obtain ⟨c0, c1, c2, rfl⟩ : ∃ c0 c1 c2, cs = #[c0, c1, c2] := by
    have h1 : cs.toList.length = 3 := by simpa using hsz
    cases cs with
    | mk l =>
      match l, h1 with
      | [x, y, z], _ => exact ⟨x, y, z, rfl⟩
  obtain ⟨fuel, hf⟩ := h
  obtain ⟨y0, y1, y2, n, _, _, h0, h1, h2⟩ := Go.Deep.trod_struct3 Try.underlying30 hf
  simp [Value.cells, hD, hF] at h0 h1 h2
  obtain ⟨aR, cR, R, rfl, m0, _, _, hR, _⟩ := open_slW intC_len (by omega) Try.underlying27 (by kernel_rfl) (fun n cs y hy => open_intC hy) h0
  obtain ⟨aK, cK, K, rfl, m1, _, ⟨_, n1⟩, hK, _⟩ := open_slW encPl_len (by omega) Try.underlying28 (by kernel_rfl) (fun n cs y hy => open_plC hy) h1
  obtain ⟨aW, cW, W, rfl, m2, _, ⟨_, n2⟩, hW, _⟩ := open_slW encPl_len (by omega) Try.underlying28 (by kernel_rfl) (fun n cs y hy => open_plC hy) h2
  exact ⟨aR, aK, aW, cR, cK, cW, R, K, W, rfl, ⟨m0, m1, m2⟩, ⟨n1, n2⟩, sli_of hR, slp_of hK, slp_of hW⟩
end Go.Proofs.Ytljbchkmoekpmae

/- Mail that came in as an argument: its lists, and what they weigh. -/
namespace Go.Proofs.Ytljbchkmoekpmae
open Go.ChangeShapes Go.WideShapes Go.ChangeAt Go.RowKit
open Orangery (Pl Mv Vw Dl Ml noVw noDl noMl)

theorem weights_mem_all {H : Type} {P : Program} {e : TypeId} {d : DataW H} {n : Nat} (hn : n ∈ d.weights P e) : ∀ {l : List (DataW H)}, d ∈ l → n ∈ DataW.weightsAll P e l
  | [], h => by simp at h
  | x :: l, h => by
    simp only [DataW.weightsAll, List.mem_append]
    rcases List.mem_cons.1 h with rfl | h
    · exact Or.inl hn
    · exact Or.inr (weights_mem_all hn h)
/-- a slice of such elements that came in, where each weighs no more than the reach -/
theorem open_slZ {α : Type} [Inhabited α] {enc : α → List Value} {k : Nat} {H : Type} {en : TypeId × Value → H} {w : World} {base fuel : Nat} {spare : Nat → Bool} {held : Bool} {v : Value} {x : DataW H × List MemPlace} {t e : TypeId}
    (hk : ∀ x, (enc x).length = k) (hpos : 0 < k) (ht : Try.prog.underlying t = some (.slice e)) (hC : Try.prog.cellsOf e = k)
    (hel : ∀ (n : Nat) (cs : List Value) (y : DataW H × List MemPlace), DataW.trod en Try.prog w base spare held n e cs = some y → (y.1.weights Try.prog e).all (· ≤ reachBytes) = true → ∃ z : α, cs = enc z)
    (h : DataW.trod en Try.prog w base spare held fuel t [v] = some x) (hz : (x.1.weights Try.prog t).all (· ≤ reachBytes) = true) : ∃ a c, ∃ l : List α, v = .slice a l.length c ∧ l.length ≤ maxLen ∧ l.length ≤ c ∧ c ≤ maxLen ∧ SlE enc w a l := by
  rcases Go.Deep.open_slice ht h with ⟨hcs, _⟩ | ⟨a, len, cap, m, n, D, Pq, hcs, _, hle, hm, hmm, hxx, hx⟩
  · simp at hcs
    subst hcs
    exact ⟨none, 0, [], rfl, by simp, by simp, by simp, Or.inl rfl⟩
  · simp at hcs
    subst hcs
    have hlm : len ≤ m := by rw [hmm]; split <;> omega
    have key : ∀ i, i < len → ∃ z : α, ∀ (j : Nat) (v : Value), (enc z)[j]? = some v → w.cell? ((a.add (i * k)).add j) = some v := by
      intro i hi
      obtain ⟨cs', h1, h2⟩ := hx i (by omega)
      rw [hC] at h1
      obtain ⟨z, rfl⟩ := hel _ _ _ h2 (List.all_eq_true.2 fun q hq => List.all_eq_true.1 hz q (by
        subst hxx
        simp only [DataW.weights, ht]
        refine List.mem_cons_of_mem _ (List.mem_append.2 (Or.inl ?_))
        exact weights_mem_all hq (List.mem_map.2 ⟨i, List.mem_range.2 hi, rfl⟩)))
      exact ⟨z, (cells_range h1).2⟩
    obtain ⟨f, hf⟩ := Go.Deep.choose_lt key
    refine ⟨some a, cap, (List.range len).map f, by simp, by simp; omega, by simp; omega, hm, ?_⟩
    by_cases hz : len = 0
    · exact Or.inl (by simp [hz])
    · right
      obtain ⟨u, hu⟩ : ∃ u, (enc (f 0))[0]? = some u := ⟨_, List.getElem?_eq_getElem (by rw [hk]; exact hpos)⟩
      have h0 := hf 0 (by omega) 0 u hu
      obtain ⟨b, off, spot⟩ := a
      have hspot : spot = none := by simpa [Addr.add] using World.cell?_spot h0
      subst hspot
      have hb : b < w.heap.size := by
        have := World.block_lt_of_cell? w _ h0
        rw [Addr.add_mid, Addr.add_mid] at this
        exact this
      refine ⟨b, off, rfl, hb, fun j v hv => ?_⟩
      have hj : j < len * k := by
        have := (List.getElem?_eq_some_iff.1 hv).1
        rw [flatE_len hk] at this
        simpa using this
      have hi : j / k < len := (Nat.div_lt_iff_lt_mul hpos).2 hj
      have hc : j % k < k := Nat.mod_lt _ hpos
      have e1 : j / k * k + j % k = j := by rw [Nat.mul_comm]; exact Nat.div_add_mod j k
      have e2 := flatE_get hk ((List.range len).map f) (j / k) (by simpa using hi) (j % k) hc
      rw [e1, hv] at e2
      have e3 := hf (j / k) hi (j % k) v (by simpa using e2.symm)
      rw [Addr.add_mid, Addr.add_mid] at e3
      rw [show off + j = off + j / k * k + j % k by omega]
      exact e3
theorem list21 {cs : List Value} (h : cs.length = 21) : ∃ a0 a1 a2 a3 a4 a5 a6 a7 a8 a9 b0 b1 b2 b3 b4 b5 b6 b7 b8 b9 c0, cs = [a0, a1, a2, a3, a4, a5, a6, a7, a8, a9, b0, b1, b2, b3, b4, b5, b6, b7, b8, b9, c0] := by
  match cs, h with
  | [a0, a1, a2, a3, a4, a5, a6, a7, a8, a9, b0, b1, b2, b3, b4, b5, b6, b7, b8, b9, c0], _ => exact ⟨a0, a1, a2, a3, a4, a5, a6, a7, a8, a9, b0, b1, b2, b3, b4, b5, b6, b7, b8, b9, c0, rfl⟩
theorem few_of {n k : Nat} {l : List Nat} (hk : 8 ≤ k) (hz : l.all (· ≤ reachBytes) = true) {m : Nat} (hm : n ≤ m) (hw : m * k ∈ l) : n ≤ 17592186043904 := by
  have h := List.all_eq_true.1 hz _ hw
  have h2 : m * k ≤ reachBytes := by simpa using h
  have h3 : m * 8 ≤ m * k := Nat.mul_le_mul_left m hk
  unfold reachBytes at h2
  omega

set_option maxHeartbeats 2000000 in
set_option maxRecDepth 100000 in
theorem open_mlC {H : Type} {enc : TypeId × Value → H} {w : World} {base fuel : Nat} {spare : Nat → Bool} {held : Bool} {cs : List Value} {x : DataW H × List MemPlace}
    (h : DataW.trod enc Try.prog w base spare held fuel 34 cs = some x) (hz : (x.1.weights Try.prog 34).all (· ≤ reachBytes) = true) : ∃ z : Mm, cs = mlC z ∧ MlIn w z := by
  obtain ⟨xs, n, _, hd, hl, hlen, hg⟩ := DataW.trod_struct Try.underlying34 h
  have hC : Try.prog.cellsOf 34 = 21 := by kernel_rfl
  have hI : Try.prog.cellsOf 3 = 1 := by kernel_rfl
  have hD : Try.prog.cellsOf 27 = 1 := by kernel_rfl
  have hF : Try.prog.cellsOf 28 = 1 := by kernel_rfl
  have hO : Try.prog.cellsOf 26 = 7 := by kernel_rfl
  have hV : Try.prog.cellsOf 30 = 3 := by kernel_rfl
  have hE : Try.prog.cellsOf 32 = 4 := by kernel_rfl
  have hbI : Try.prog.bytesOf 3 = 8 := by kernel_rfl
  have hbP : Try.prog.bytesOf 56 = 24 := by kernel_rfl
  rw [hC] at hl
  obtain ⟨a0, a1, a2, a3, a4, a5, a6, a7, a8, a9, b0, b1, b2, b3, b4, b5, b6, b7, b8, b9, c0, rfl⟩ := list21 hl
  have hx : xs.length = 10 := hlen
  have g0 := hg 0 _ rfl
  have g1 := hg 1 _ rfl
  have g2 := hg 2 _ rfl
  have g3 := hg 3 _ rfl
  have g4 := hg 4 _ rfl
  have g5 := hg 5 _ rfl
  have g6 := hg 6 _ rfl
  have g7 := hg 7 _ rfl
  have g8 := hg 8 _ rfl
  have g9 := hg 9 _ rfl
  clear hg h
  simp [hI, hO, hV, hE] at g0 g1 g2 g3 g4 g5 g6 g7 g8 g9
  rw [List.getElem?_eq_getElem (by omega)] at g0 g1 g2 g3 g4 g5 g6 g7 g8 g9
  obtain ⟨k, e0, _, _⟩ := DataW.trod_int Try.underlying3 g0
  obtain ⟨u, e1, _, _⟩ := DataW.trod_int Try.underlying3 g1
  obtain ⟨f, e2, _, _⟩ := DataW.trod_int Try.underlying3 g2
  obtain ⟨s, e3, _, _⟩ := DataW.trod_int Try.underlying3 g3
  obtain ⟨t, e4, _, _⟩ := DataW.trod_int Try.underlying3 g4
  obtain ⟨nn, e5, _, _⟩ := DataW.trod_int Try.underlying3 g5
  obtain ⟨p, e6, _, _⟩ := DataW.trod_int Try.underlying3 g6
  simp at e0 e1 e2 e3 e4 e5 e6
  subst e0 e1 e2 e3 e4 e5 e6
  obtain ⟨o, ho⟩ := open_opC g7
  simp [opC] at ho
  obtain ⟨rfl, rfl, rfl, rfl, rfl, rfl, rfl⟩ := ho
  obtain ⟨ys, n8, _, hd8, _, hlen8, hg8⟩ := DataW.trod_struct Try.underlying30 g8
  obtain ⟨zs, n9, _, hd9, _, hlen9, hg9⟩ := DataW.trod_struct Try.underlying32 g9
  have hy : ys.length = 3 := hlen8
  have hzl : zs.length = 4 := hlen9
  have h0 := hg8 0 _ rfl
  have h1 := hg8 1 _ rfl
  have h2 := hg8 2 _ rfl
  have h3 := hg9 0 _ rfl
  have h4 := hg9 1 _ rfl
  have h5 := hg9 2 _ rfl
  have h6 := hg9 3 _ rfl
  clear hg8 hg9
  simp [hD, hF] at h0 h1 h2 h3 h4 h5 h6
  rw [List.getElem?_eq_getElem (by omega)] at h0 h1 h2 h3 h4 h5 h6
  have e : x.1 = .agg (xs.map (·.1)) := congrArg Prod.fst hd
  have e8' : (xs[8]'(by omega)).1 = .agg (ys.map (·.1)) := congrArg Prod.fst hd8
  have e9' : (xs[9]'(by omega)).1 = .agg (zs.map (·.1)) := congrArg Prod.fst hd9
  have mR : ∀ q ∈ (ys[0]'(by omega)).1.weights Try.prog 27, q ∈ x.1.weights Try.prog 34 := by
    intro q hq
    rw [e]
    simp only [DataW.weights, Try.underlying34]
    refine DataW.weights_mem_each (j := 8) (d := (xs[8]'(by omega)).1) rfl (by rw [List.getElem?_map, List.getElem?_eq_getElem (by omega)]; rfl) _ ?_
    rw [e8']
    simp only [DataW.weights, Try.underlying30]
    exact DataW.weights_mem_each (j := 0) (d := (ys[0]'(by omega)).1) rfl (by rw [List.getElem?_map, List.getElem?_eq_getElem (by omega)]; rfl) _ hq
  have mK : ∀ q ∈ (ys[1]'(by omega)).1.weights Try.prog 28, q ∈ x.1.weights Try.prog 34 := by
    intro q hq
    rw [e]
    simp only [DataW.weights, Try.underlying34]
    refine DataW.weights_mem_each (j := 8) (d := (xs[8]'(by omega)).1) rfl (by rw [List.getElem?_map, List.getElem?_eq_getElem (by omega)]; rfl) _ ?_
    rw [e8']
    simp only [DataW.weights, Try.underlying30]
    exact DataW.weights_mem_each (j := 1) (d := (ys[1]'(by omega)).1) rfl (by rw [List.getElem?_map, List.getElem?_eq_getElem (by omega)]; rfl) _ hq
  have mV : ∀ q ∈ (ys[2]'(by omega)).1.weights Try.prog 28, q ∈ x.1.weights Try.prog 34 := by
    intro q hq
    rw [e]
    simp only [DataW.weights, Try.underlying34]
    refine DataW.weights_mem_each (j := 8) (d := (xs[8]'(by omega)).1) rfl (by rw [List.getElem?_map, List.getElem?_eq_getElem (by omega)]; rfl) _ ?_
    rw [e8']
    simp only [DataW.weights, Try.underlying30]
    exact DataW.weights_mem_each (j := 2) (d := (ys[2]'(by omega)).1) rfl (by rw [List.getElem?_map, List.getElem?_eq_getElem (by omega)]; rfl) _ hq
  have mG : ∀ q ∈ (zs[0]'(by omega)).1.weights Try.prog 27, q ∈ x.1.weights Try.prog 34 := by
    intro q hq
    rw [e]
    simp only [DataW.weights, Try.underlying34]
    refine DataW.weights_mem_each (j := 9) (d := (xs[9]'(by omega)).1) rfl (by rw [List.getElem?_map, List.getElem?_eq_getElem (by omega)]; rfl) _ ?_
    rw [e9']
    simp only [DataW.weights, Try.underlying32]
    exact DataW.weights_mem_each (j := 0) (d := (zs[0]'(by omega)).1) rfl (by rw [List.getElem?_map, List.getElem?_eq_getElem (by omega)]; rfl) _ hq
  have mHh : ∀ q ∈ (zs[1]'(by omega)).1.weights Try.prog 28, q ∈ x.1.weights Try.prog 34 := by
    intro q hq
    rw [e]
    simp only [DataW.weights, Try.underlying34]
    refine DataW.weights_mem_each (j := 9) (d := (xs[9]'(by omega)).1) rfl (by rw [List.getElem?_map, List.getElem?_eq_getElem (by omega)]; rfl) _ ?_
    rw [e9']
    simp only [DataW.weights, Try.underlying32]
    exact DataW.weights_mem_each (j := 1) (d := (zs[1]'(by omega)).1) rfl (by rw [List.getElem?_map, List.getElem?_eq_getElem (by omega)]; rfl) _ hq
  have mX : ∀ q ∈ (zs[2]'(by omega)).1.weights Try.prog 27, q ∈ x.1.weights Try.prog 34 := by
    intro q hq
    rw [e]
    simp only [DataW.weights, Try.underlying34]
    refine DataW.weights_mem_each (j := 9) (d := (xs[9]'(by omega)).1) rfl (by rw [List.getElem?_map, List.getElem?_eq_getElem (by omega)]; rfl) _ ?_
    rw [e9']
    simp only [DataW.weights, Try.underlying32]
    exact DataW.weights_mem_each (j := 2) (d := (zs[2]'(by omega)).1) rfl (by rw [List.getElem?_map, List.getElem?_eq_getElem (by omega)]; rfl) _ hq
  have mY : ∀ q ∈ (zs[3]'(by omega)).1.weights Try.prog 28, q ∈ x.1.weights Try.prog 34 := by
    intro q hq
    rw [e]
    simp only [DataW.weights, Try.underlying34]
    refine DataW.weights_mem_each (j := 9) (d := (xs[9]'(by omega)).1) rfl (by rw [List.getElem?_map, List.getElem?_eq_getElem (by omega)]; rfl) _ ?_
    rw [e9']
    simp only [DataW.weights, Try.underlying32]
    exact DataW.weights_mem_each (j := 3) (d := (zs[3]'(by omega)).1) rfl (by rw [List.getElem?_map, List.getElem?_eq_getElem (by omega)]; rfl) _ hq
  obtain ⟨qR, cR, R, rfl, _, _, ⟨_, nR⟩, lR, wR⟩ := open_slW intC_len (by omega) Try.underlying27 (by kernel_rfl) (fun n cs y hy => open_intC hy) h0
  obtain ⟨qK, cK, K, rfl, _, _, ⟨_, nK⟩, lK, wK⟩ := open_slW encPl_len (by omega) Try.underlying28 (by kernel_rfl) (fun n cs y hy => open_plC hy) h1
  obtain ⟨qV, cV, V, rfl, _, _, ⟨_, nV⟩, lV, wV⟩ := open_slW encPl_len (by omega) Try.underlying28 (by kernel_rfl) (fun n cs y hy => open_plC hy) h2
  obtain ⟨qG, cG, G, rfl, _, _, ⟨_, nG⟩, lG, wG⟩ := open_slW intC_len (by omega) Try.underlying27 (by kernel_rfl) (fun n cs y hy => open_intC hy) h3
  obtain ⟨qHh, cHh, Hh, rfl, _, _, ⟨_, nHh⟩, lHh, wHh⟩ := open_slW encPl_len (by omega) Try.underlying28 (by kernel_rfl) (fun n cs y hy => open_plC hy) h4
  obtain ⟨qX, cX, X, rfl, _, _, ⟨_, nX⟩, lX, wX⟩ := open_slW intC_len (by omega) Try.underlying27 (by kernel_rfl) (fun n cs y hy => open_intC hy) h5
  obtain ⟨qY, cY, Y, rfl, _, _, ⟨_, nY⟩, lY, wY⟩ := open_slW encPl_len (by omega) Try.underlying28 (by kernel_rfl) (fun n cs y hy => open_plC hy) h6
  have fR : R.length ≤ 17592186043904 := by
    rcases wR with rfl | ⟨m, hm, hw⟩
    · simp
    · rw [hbI] at hw
      exact few_of (by omega) hz hm (mR _ hw)
  have fK : K.length ≤ 17592186043904 := by
    rcases wK with rfl | ⟨m, hm, hw⟩
    · simp
    · rw [hbP] at hw
      exact few_of (by omega) hz hm (mK _ hw)
  have fV : V.length ≤ 17592186043904 := by
    rcases wV with rfl | ⟨m, hm, hw⟩
    · simp
    · rw [hbP] at hw
      exact few_of (by omega) hz hm (mV _ hw)
  have fG : G.length ≤ 17592186043904 := by
    rcases wG with rfl | ⟨m, hm, hw⟩
    · simp
    · rw [hbI] at hw
      exact few_of (by omega) hz hm (mG _ hw)
  have fHh : Hh.length ≤ 17592186043904 := by
    rcases wHh with rfl | ⟨m, hm, hw⟩
    · simp
    · rw [hbP] at hw
      exact few_of (by omega) hz hm (mHh _ hw)
  have fX : X.length ≤ 17592186043904 := by
    rcases wX with rfl | ⟨m, hm, hw⟩
    · simp
    · rw [hbI] at hw
      exact few_of (by omega) hz hm (mX _ hw)
  have fY : Y.length ≤ 17592186043904 := by
    rcases wY with rfl | ⟨m, hm, hw⟩
    · simp
    · rw [hbP] at hw
      exact few_of (by omega) hz hm (mY _ hw)
  exact ⟨(((k, u, f, s, t, nn, p), (_, _, (_, _, _), _, _), (R, K, V), (G, Hh, X, Y)), ((qR, cR), (qK, cK), (qV, cV)), (qG, cG), (qHh, cHh), (qX, cX), (qY, cY)), rfl,
    ⟨sli_of lR, slp_of lK, slp_of lV, sli_of lG, slp_of lHh, sli_of lX, slp_of lY, ⟨fR, fK, fV, fG, fHh, fX, fY⟩, ⟨nK, nV⟩⟩⟩

set_option maxRecDepth 100000 in
/-- one mail that came in -/
theorem open_mail {H : Type} {enc : TypeId × Value → H} {w : World} {r : Reach} {b0 base : Nat} {spare : Nat → Bool} {held : Bool} {v : Value} {d : DataW H} {p : List MemPlace}
    (hv : Value.okWide Try.prog w r b0 34 v) (h : DataW.Trod enc Try.prog w base spare held 34 v d p) (hz : (d.weights Try.prog 34).all (· ≤ reachBytes) = true) : ∃ x : Mm, v = x.val ∧ MlIn w x := by
  obtain ⟨cs, rfl, hsz⟩ := okWide_struct Try.underlying34 hv
  obtain ⟨fuel, hf⟩ := h
  obtain ⟨x, e, hx⟩ := open_mlC hf hz
  refine ⟨x, ?_, hx⟩
  have e' : cs.toList = mlC x := e
  have : cs = (mlC x).toArray := by rw [← e']
  rw [this]
set_option maxRecDepth 100000 in
/-- a list of mail that came in -/
theorem open_mails {H : Type} {enc : TypeId × Value → H} {w : World} {r : Reach} {b0 base : Nat} {spare : Nat → Bool} {held : Bool} {v : Value} {d : DataW H} {p : List MemPlace}
    (hv : Value.okWide Try.prog w r b0 22 v) (h : DataW.Trod enc Try.prog w base spare held 22 v d p) (hz : (d.weights Try.prog 22).all (· ≤ reachBytes) = true) :
    ∃ a c, ∃ X : List Mm, v = .slice a X.length c ∧ X.length ≤ maxLen ∧ X.length ≤ c ∧ c ≤ maxLen ∧ SlM w a X := by
  obtain ⟨a', n', c', rfl⟩ := okWide_slice Try.underlying22 hv
  obtain ⟨fuel, hf⟩ := h
  haveI : Inhabited {z : Mm // MlIn w z} := ⟨⟨((((0, 0, 0, 0, 0, 0, 0), Orangery.noOp, noVw, noDl), ((none, 0), (none, 0), (none, 0)), ((none, 0), (none, 0), (none, 0), (none, 0))) : Mm), ⟨Or.inl rfl, Or.inl rfl, Or.inl rfl, Or.inl rfl, Or.inl rfl, Or.inl rfl, Or.inl rfl, by simp [noVw, noDl], ⟨fun _ => rfl, fun _ => rfl⟩⟩⟩⟩
  obtain ⟨a, c, l, ev, m0, r0, k0, hS⟩ := open_slZ (enc := fun z : {z : Mm // MlIn w z} => mlC z.1) (fun z => mlC_len z.1) (by omega) Try.underlying22 (by kernel_rfl) (fun n cs y hy hz => by
    obtain ⟨z, e, hz⟩ := open_mlC hy hz
    exact ⟨⟨z, hz⟩, e⟩) hf hz
  refine ⟨a, c, l.map (·.1), by rw [ev]; simp, by simpa using m0, by simpa using r0, k0, ?_, ?_⟩
  · rcases hS with rfl | ⟨b, off, e, hb, hr⟩
    · exact Or.inl rfl
    · refine Or.inr ⟨b, off, e, hb, ?_⟩
      rw [List.flatMap_map]
      exact hr
  · intro x hx
    obtain ⟨z, _, rfl⟩ := List.mem_map.1 hx
    exact z.2
theorem sized_at {H : Type} {ts : List TypeId} {ds : List (DataW H)} (h : (DataW.weightsEach Try.prog ts ds).all (· ≤ reachBytes) = true) {j : Nat} {ty : TypeId} {d : DataW H} (ht : ts[j]? = some ty) (hd : ds[j]? = some d) : (d.weights Try.prog ty).all (· ≤ reachBytes) = true :=
  List.all_eq_true.2 fun x hx => List.all_eq_true.1 h x (DataW.weights_mem_each ht hd _ hx)
end Go.Proofs.Ytljbchkmoekpmae

/- WayBack returns true for every list of mail, every mail and every number: what is sent last is taken as it was, and then all is as ahead; taken twice it is still there. Its condition: no list of an argument weighs more than the reach that every row has (the sized builder). -/
namespace Go.Proofs.Ytljbchkmoekpmae.wayBack
open Go.ChangeShapes Go.WideShapes Go.ChangeAt Go.RowKit
set_option linter.unusedVariables false

theorem own : ownKnob Try.prog.godebug = none := by kernel_rfl
theorem laidOut : laidOutB Try.prog = true := by kernel_rfl

set_option maxHeartbeats 2000000 in
set_option maxRecDepth 100000 in
theorem lifted (os : Os) (started : os.Started) (H : Type) (enc : TypeId × Value → H) :
    ReturnsInHanded {} Try.checked os 3 .any (Rows.wayBackSpec.pre6 enc Try.prog Try.f3 Rows.wayBackRow.domain false) (Rows.wayBackSpec.post enc Try.prog Try.f3 false true false false) := by
  refine returnsInHanded_of_change_sized (C := Try.checked) own started (by kernel_rfl) Try.func3
    (ChangeSpec.witness6 (enc := enc) (C := Try.checked) false ⟨#[], #[.slice none 0 0, .agg #[.int .i64 0, .int .i64 0, .int .i64 0, .int .i64 0, .int .i64 0, .int .i64 0, .int .i64 0, .int .i64 0, .int .i64 0, .int .i64 0, .int .i64 0, .int .i64 0, .int .i64 0, .int .i64 0, .slice none 0 0, .slice none 0 0, .slice none 0 0, .slice none 0 0, .slice none 0 0, .slice none 0 0, .slice none 0 0], .int .i64 0], []⟩ 8 (by kernel_rfl) (by kernel_rfl) (by kernel_rfl) (by kernel_rfl)) ?_
  intro W base args ds gs before hval0 hW hcnd hsz0 _
  have hval : ∀ (j : Nat) t v, Try.f3.params[j]? = some t → args[j]? = some v → Value.okWide Try.prog W .any base t v := hval0
  have hW' := hW
  obtain ⟨p, q, hA0, hV, rfl, hfz, hnd⟩ := hW
  have hA : DataW.TrodAll enc Try.prog W 0 (fun _ => true) true Try.f3.params.toList args.toList ds p := hA0
  have hsz : (DataW.weightsEach Try.prog (Try.f3.params.toList ++ Rows.wayBackSpec.plain.varTypes Try.prog) (ds ++ gs)).all (· ≤ reachBytes) = true := hsz0
  rw [Try.params3] at hA hval hsz
  obtain ⟨v0, vs0, d0, ds0, p0, q0, hargs, rfl, rfl, h0, r0⟩ := trodAll_cons hA
  obtain ⟨v1, vs1, d1, ds1, p1, q1, rfl, rfl, rfl, h1, r1⟩ := trodAll_cons r0
  obtain ⟨v2, vs2, d2, ds2, p2, q2, rfl, rfl, rfl, h2, r2⟩ := trodAll_cons r1
  obtain ⟨rfl, rfl, rfl⟩ := trodAll_nil r2
  obtain rfl : args = #[v0, v1, v2] := by cases args; simp_all
  obtain ⟨rfl, rfl⟩ := trodVars_none hV
  have k0 := h0
  have lt0 : ∀ x ∈ p0, x.block < W.heap.size := by obtain ⟨m, hm⟩ := k0; exact DataW.trod_lt m _ _ _ hm
  obtain ⟨a0, c0, X0, rfl, m0, r0, q0, P0⟩ := open_mails (hval 0 22 v0 rfl rfl) h0 (sized_at hsz (j := 0) rfl rfl)
  have k1 := h1
  have lt1 : ∀ x ∈ p1, x.block < W.heap.size := by obtain ⟨m, hm⟩ := k1; exact DataW.trod_lt m _ _ _ hm
  obtain ⟨x1, rfl, P1⟩ := open_mail (hval 1 34 v1 rfl rfl) h1 (sized_at hsz (j := 1) rfl rfl)
  obtain ⟨x2, rfl, rfl, rfl, g2⟩ := open_int Try.underlying3 (hval 2 3 v2 rfl rfl) h2
  clear hA0 hval0
  refine (wayBack_any W a0 c0 X0 x1 x2 m0 P0 P1).mono fun e W' ⟨he, bel⟩ => ?_
  subst he
  exact ⟨_, rfl, _, _, _, [], _, [], hW', trodAll_mk1 (shut_bool Try.underlying4 _), (trodAll_cons_mk (Below.trod laidOut (by kernel_rfl) (of_decide_eq_true (by kernel_rfl)) k0 bel lt0) (trodAll_cons_mk (Below.trod laidOut (by kernel_rfl) (of_decide_eq_true (by kernel_rfl)) k1 bel lt1) (trodAll_cons_mk (shut_int Try.underlying3 g2) trodAll_mk0))), rfl, bel.frame _, fun h => by cases h⟩

theorem over : Rows.wayBackRow.holds Try.pinned (OpenSpec.ofChange Rows.wayBackSpec) :=
  OpenClaim.holds_of_wide 3 Try.f3 rfl rfl rfl rfl rfl rfl rfl ⟨rfl, rfl, rfl, rfl, rfl⟩ rfl rfl rfl rfl rfl (by kernel_rfl) Try.func3 (by kernel_rfl)
    (of_decide_eq_true (by kernel_rfl)) (by unfold Func.isWrapper; first | (rw [if_pos (by decide +kernel)]; kernel_rfl) | (rw [if_neg (by decide +kernel)]; exact ⟨rfl, rfl⟩))
    (fun os started H enc _ => lifted os started H enc)

/-- The statement. -/
theorem proved : Rows.WayBackSaid :=
  over
#print axioms proved
end Go.Proofs.Ytljbchkmoekpmae.wayBack

