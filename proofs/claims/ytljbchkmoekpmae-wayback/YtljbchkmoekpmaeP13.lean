/- 1 texts of the proof: Boxes of mail; orangerylaw.posted. -/
import Derived.Test.YtljbchkmoekpmaeP12
/- Boxes of mail; orangerylaw.posted. -/
namespace Go.Proofs.Ytljbchkmoekpmae
open Go.ChangeShapes Go.WideShapes Go.ChangeAt Go.RowKit
open Orangery (Pl Mv Vw Dl Ml noVw noDl noMl noOp ml1E mlsE mlE sendE sendL takeE takeL takeM)

/-- a box is made, and mail stored into it -/
theorem boxed (w : World) (x : Mm) : ∃ V W, w.alloc (Obj.cells #[Value.int .i64 0, .int .i64 0, .int .i64 0, .int .i64 0, .int .i64 0, .int .i64 0, .int .i64 0, .int .i64 0, .int .i64 0, .int .i64 0, .int .i64 0, .int .i64 0, .int .i64 0, .int .i64 0, .slice none 0 0, .slice none 0 0, .slice none 0 0, .slice none 0 0, .slice none 0 0, .slice none 0 0, .slice none 0 0] 34) = V ∧
    V.there w.heap.size 0 (mlC x).toArray.size ∧ V.setCells w.heap.size 0 (mlC x).toArray.toList = W ∧ Blk W w.heap.size (mlC x) ∧ Below w.heap.size w W := by
  refine ⟨_, _, rfl, ?_, rfl, ?_, ?_⟩
  · exact (Blk.new w zeroMail 34).there
  · exact (Blk.new w zeroMail 34).sets (mlC x) rfl
  · exact below_sets (Go.Joins.below_alloc1 w _) w.heap.size (Nat.le_refl _) _ _
theorem sizeMm (x : Mm) : (Try.prog.info? 34).map (·.size) = some (mlC x).toArray.size := sizeMail
theorem oneMm (x : Mm) : (mlC x).toArray.all (·.oneCell') = true := all_oneCell_toArray (mlC_one x)
theorem list_want {P : Program} {ops : Array Oper} {Q : Exit → Act → World → Prop} {a : Act} {w : World} {rest : List Oper} {o : Oper} (hw : Region.wanted o (yielded ops a.tmps) = true)
    (h : ∀ K : Act → World → Prop, (∀ a w, wpList P ops Q rest a w → K a w) → o.wp P a w K Q) : wpList P ops Q (o :: rest) a w :=
  wpList_step fun K hK => by rw [if_pos hw]; exact h K hK
/-- a load of a whole mail, behind a guard that lets it -/
theorem load_want {ops : Array Oper} {rest : List Oper} {op : Oper} {a : Act} {w : World} {Q : Exit → Act → World → Prop} (ty : TypeId) (x : Operand) (ho : op.op = .load ty x) (hw : Region.wanted op (yielded ops a.tmps) = true)
    (b o : Nat) (hx : a.eval x = .pointer (some ⟨b, o, none⟩)) (cs : List Value) (d : TypeDesc) (hc : w.rangeAt b o cs)
    (hu : Try.prog.underlying ty = some d) (hd : d.isRow = true) (hi : (Try.prog.info? ty).map (·.size) = some cs.length)
    (h : wpList Try.prog ops Q rest (a.put op.dst (.agg cs.toArray)) w) : wpList Try.prog ops Q (op :: rest) a w :=
  list_want hw fun _ hK => wp_load_mid ty x ho b o hx cs d hc hu hd hi (hK _ _ h)
theorem at_loadG {ops : Array Oper} {Q : Exit → Act → World → Prop} {rest : List Oper} {x : Operand} {t : TypeId} {d : Option Tmp} {pos : String} {after : Array Edge} {g : Nat × Bool} {a : Act} {w : World} (ty : TypeId)
    (h : wpList Try.prog ops Q (⟨d, .load ty x, t, pos, after, some g⟩ :: rest) a w) : wpList Try.prog ops Q (⟨d, .load ty x, t, pos, after, some g⟩ :: rest) a w := h
theorem at_sliceG {ops : Array Oper} {Q : Exit → Act → World → Prop} {rest : List Oper} {ps : Array (Nat × Operand)} {t u : TypeId} {d : Option Tmp} {n : Nat} {pos : String} {after : Array Edge} {g : Nat × Bool} {a : Act} {w : World}
    (h : wpList Try.prog ops Q (⟨d, .buildSlice u n ps, t, pos, after, some g⟩ :: rest) a w) : wpList Try.prog ops Q (⟨d, .buildSlice u n ps, t, pos, after, some g⟩ :: rest) a w := h
theorem build_want {ops : Array Oper} {Q : Exit → Act → World → Prop} {rest : List Oper} {o : Oper} {x : Operand} {a : Act} {w : World} (hw : Region.wanted o (yielded ops a.tmps) = true) (ho : o.op = .buildSlice 22 1 #[(0, x)]) (cs : List Value) (hc : cs.length = 21) (hx : a.eval x = .agg cs.toArray)
    (h : wpList Try.prog ops Q rest (a.put o.dst (.slice (some ⟨w.heap.size, 0, none⟩) 1 1)) (w.alloc (.cells cs.toArray 34))) : wpList Try.prog ops Q (o :: rest) a w := by
  obtain ⟨i0, hi, hz0, hz1, hz2⟩ := info_parts infoMail
  refine list_want hw fun _ hK => wp_buildSlice 22 34 1 _ ho cs.toArray i0 _ Try.underlying22 hi hz0 (by rw [hz1]; decide) (by rw [hz1]; decide) ?_ (hK _ _ h)
  have e : (#[(0, x)].map fun (p : Nat × Operand) => (p.1, a.eval p.2)).toList = [(0, Value.agg cs.toArray)] := by simp [hx]
  show Instr.fill _ _ (#[(0, x)].map fun (p : Nat × Operand) => (p.1, a.eval p.2)).toList = _
  rw [e]
  exact build_cells cs hc hz1
def pmO : Mv := (2, 1, (3, 0, 0), 1, 2)
def pm1 : Mm := (((1, 1, 0, 0, 0, 0, 0), pmO, noVw, noDl), nilV, nilD)
def pm2 : Mm := (((2, 2, 1, 0, 0, 3, 0), noOp, noVw, noDl), nilV, nilD)
theorem pm1_in (w : World) : MlIn w pm1 := ⟨Or.inl rfl, Or.inl rfl, Or.inl rfl, Or.inl rfl, Or.inl rfl, Or.inl rfl, Or.inl rfl, by simp [pm1, noVw, noDl], ⟨fun _ => rfl, fun _ => rfl⟩⟩
theorem pm2_in (w : World) : MlIn w pm2 := ⟨Or.inl rfl, Or.inl rfl, Or.inl rfl, Or.inl rfl, Or.inl rfl, Or.inl rfl, Or.inl rfl, by simp [pm2, noVw, noDl], ⟨fun _ => rfl, fun _ => rfl⟩⟩
theorem po1 : sendE [pm1.1] pm2.1 = 0 ∧ sendL [pm1.1] pm2.1 = [pm1.1, pm2.1] := ⟨by kernel_rfl, by kernel_rfl⟩
theorem po2 : takeE [pm1.1, pm2.1] 0 = 0 ∧ takeL [pm1.1, pm2.1] 0 false = [pm2.1] ∧ takeM [pm1.1, pm2.1] 0 = pm1.1 := ⟨by kernel_rfl, by kernel_rfl, by kernel_rfl⟩
theorem po3 : takeE [pm2.1] 1 = 5 ∧ takeL [pm2.1] 1 true = [] ∧ takeM [pm2.1] 1 = noMl := ⟨by kernel_rfl, by kernel_rfl, by kernel_rfl⟩

set_option maxHeartbeats 4000000 in
set_option maxRecDepth 100000 in
theorem posted_any (w : World) : Calls Try.prog 5 #[] w fun e w' => e = .returned (.bool true) ∧ Below w.heap.size w w' := by
  have HO : Hid (∀ W, Calls Try.prog 12 #[.int .i64 2, .int .i64 1, .int .i64 3, .int .i64 0] W fun e w' => e = .returned (.agg #[Value.int .i64 2, .int .i64 1, .int .i64 3, .int .i64 0, .int .i64 0, .int .i64 1, .int .i64 2]) ∧ Below W.heap.size W w') := fun W => lop_any W 2 1 3 0
  go_enter Try.func5, Try.ntmps5
  go_wp2_with fail
  refine (HO.out w).mono ?_
  rintro e w1 ⟨rfl, hb⟩
  have HB1 := Lib.hid hb
  clear hb
  obtain ⟨V2, W2, hV2, hT2, hW2, hA2, hb2⟩ := boxed w1 pm1
  obtain ⟨V3, W3, hV3, hT3, hW3, hC3, hb3⟩ := boxed W2 pm2
  have HT2 := Lib.hid hT2
  have HT3 := Lib.hid hT3
  have HW2 := Lib.hid hW2
  have HW3 := Lib.hid hW3
  have hA3 := hA2.keep hb3
  obtain ⟨W4, hW4, hN4, hb4, -⟩ := laid1 W3 (mlC pm1) 34
  have HR3 := Lib.hid hA3.range
  have HA4 := Lib.hid (hA3.keep hb4)
  have hC4 := hC3.keep hb4
  have HC4 := Lib.hid hC4
  have HR4 := Lib.hid hC4.range
  have HB4 : Hid (Below w.heap.size w W4) := HB1.out.trans (((hb2.trans ((hb3.trans (hb4.mono hb3.size)).mono hb2.size))).mono HB1.out.size)
  have HSND := Lib.hid (wSend_any W4 (some ⟨W3.heap.size, 0, none⟩) 1 [pm1] pm2 (by unfold maxLen; simp) (one_row hN4 (pm1_in _)) (pm2_in _))
  clear hT2 hT3 hW2 hW3 hA2 hC3 hA3 hC4 hN4 hb2 hb3 hb4
  go_wp2_with (first | (with_reducible refine at_store 34 ?_; refine wpList_store_mid rfl 34 _ _ rfl w1.heap.size 0 (mlC pm1).toArray rfl rfl HT2.out (sizeMm pm1) (oneMm pm1) ?_; rw [HW2.out]) | (with_reducible refine at_store 34 ?_; refine wpList_store_mid rfl 34 _ _ rfl W2.heap.size 0 (mlC pm2).toArray rfl rfl HT3.out (sizeMm pm2) (oneMm pm2) ?_; rw [HW3.out]) | (refine wpList_load_mid rfl 34 _ rfl w1.heap.size 0 rfl (mlC pm1) _ HR3.out Try.underlying34 rfl (sizeMailC pm1) ?_) | (refine wpList_load_mid rfl 34 _ rfl W2.heap.size 0 rfl (mlC pm2) _ HR4.out Try.underlying34 rfl (sizeMailC pm2) ?_) | (with_reducible refine at_slice ?_; refine build_one rfl rfl (mlC pm1) rfl rfl ?_; rw [hW4]) | fail)
  clear hV2 hV3 hW4 HT2 HT3 HW2 HW3 HR3 HR4
  refine HSND.out.mono ?_
  rintro e w5 ⟨v, Y, rfl, hO, hYM, hb5⟩
  have hYM : Y.map (·.1) = [pm1.1, pm2.1] := hYM.trans po1.2
  have hE0 : sendE ([pm1].map (·.1)) pm2.1 = 0 := po1.1
  rw [hE0]
  obtain ⟨aY, cY, rfl, hY⟩ := hO.val
  have hYl : Y.length = 2 := by have := congrArg List.length hYM; simpa using this
  have HTK := wTake_any w5 aY cY Y 0 false (by rw [hYl]; unfold maxLen; simp) hY
  rw [hYM, po2.1, po2.2.1, po2.2.2, hYl] at HTK
  rw [hYl]
  have HTK := Lib.hid HTK
  have HA5 := Lib.hid (HA4.out.keep hb5)
  have HC5 := Lib.hid (HC4.out.keep hb5)
  have HB5 := Lib.hid (HB4.out.trans (hb5.mono HB4.out.size))
  clear hO hY hYM hYl hb5 hE0 HSND HA4 HC4 HB4 HO HB1
  go_wp2_with fail
  refine HTK.out.mono ?_
  rintro e w6 ⟨vz, Z, y, rfl, hO, hZM, hy, hyI, -, hb6⟩
  obtain ⟨aZ, cZ, rfl, hZ⟩ := hO.val
  have hZl : Z.length = 1 := by have := congrArg List.length hZM; simpa using this
  obtain ⟨V7, W7, hV7, hT7, hW7, hN7, hb7⟩ := boxed w6 y
  have HZ7 := Lib.hid (hZ.keep hb7)
  have HTK2 := wTake_any W7 aZ cZ Z 1 true (by rw [hZl]; unfold maxLen; simp) (hZ.keep hb7)
  rw [hZM, po3.1, po3.2.1, po3.2.2, hZl] at HTK2
  rw [hZl]
  have HTK2 := Lib.hid HTK2
  have hb67 := hb6.trans (hb7.mono hb6.size)
  have HA7 := Lib.hid (HA5.out.keep hb67)
  have HC7 := Lib.hid (HC5.out.keep hb67)
  have HB7 := Lib.hid (HB5.out.trans (hb67.mono HB5.out.size))
  have HN7 := Lib.hid hN7
  have HYI7 := Lib.hid (hyI.keep hb7)
  have HYX := Lib.hid hy
  have HZM := Lib.hid hZM
  have HZL := Lib.hid hZl
  have HT7 := Lib.hid hT7
  have HW7 := Lib.hid hW7
  clear hO hZ hZl hZM hy hyI hb6 hb7 hb67 hN7 hT7 hW7 HTK HA5 HC5 HB5
  go_wp2_with (first | (with_reducible refine at_store 34 ?_; refine wpList_store_mid rfl 34 _ _ rfl w6.heap.size 0 (mlC y).toArray rfl rfl HT7.out (sizeMm y) (oneMm y) ?_; rw [HW7.out]) | fail)
  clear hV7 HT7 HW7
  refine HTK2.out.mono ?_
  rintro e w8 ⟨v8, Y8, y8, rfl, -, -, -, hyI8, -, hb8⟩
  obtain ⟨V9, W9, hV9, hT9, hW9, hN9, hb9⟩ := boxed w8 y8
  have hb89 := hb8.trans (hb9.mono hb8.size)
  obtain ⟨W10, hW10, hN10, hb10, -⟩ := laid1 W9 (mlC pm2) 34
  have hb810 := hb89.trans (hb10.mono hb89.size)
  have HA10 := Lib.hid (HA7.out.keep hb810)
  have HN10 := Lib.hid (HN7.out.keep hb810)
  have HY10 := Lib.hid (HYI7.out.keep hb810)
  have HB10 := Lib.hid (HB7.out.trans (hb810.mono HB7.out.size))
  have HRC := Lib.hid (HC7.out.keep hb89).range
  have HT9 := Lib.hid hT9
  have HW9 := Lib.hid hW9
  have HSAME := wSame_any W10 aZ (some ⟨W9.heap.size, 0, none⟩) cZ 1 Z [pm2] (by rw [HZL.out]; unfold maxLen; simp) (HZ7.out.keep hb810) (one_row hN10 (pm2_in _))
  rw [HZL.out, eqMs_yes (by rw [HZM.out]; rfl)] at HSAME
  have HSAME := Lib.hid HSAME
  clear hyI8 hb8 hT9 hW9 hN9 hb9 hb89 hN10 hb10 hb810 HTK2 HA7 HC7 HN7 HYI7 HB7 HZ7 HZM HZL
  go_wp2_with (first | (with_reducible refine at_store 34 ?_; refine wpList_store_mid rfl 34 _ _ rfl w8.heap.size 0 (mlC y8).toArray rfl rfl HT9.out (sizeMm y8) (oneMm y8) ?_; rw [HW9.out]) | (with_reducible refine at_loadG 34 ?_; refine Shut.out ?_) | fail)
  show wpList _ _ _ _ _ _
  refine load_want 34 _ rfl (by rfl) W2.heap.size 0 rfl (mlC pm2) _ HRC.out Try.underlying34 rfl (sizeMailC pm2) ?_
  refine build_want (by rfl) rfl (mlC pm2) rfl rfl ?_
  rw [hW10]
  go_wp2_with fail
  clear hV9 hW10 HT9 HW9 HRC
  refine HSAME.out.mono ?_
  rintro e w11 ⟨rfl, hb11⟩
  have HRY := Lib.hid (HN10.out.keep hb11).range
  obtain ⟨W12, hW12, hN12, hb12, -⟩ := laid1 w11 (mlC y) 34
  obtain ⟨W13, hW13, hN13, hb13, -⟩ := laid1 W12 (mlC pm1) 34
  have HRA := Lib.hid ((HA10.out.keep hb11).keep hb12).range
  have hb1113 := hb12.trans (hb13.mono hb12.size)
  have HB13 := Lib.hid (HB10.out.trans ((hb11.trans (hb1113.mono hb11.size)).mono HB10.out.size))
  have HSAME2 := wSame_any W13 (some ⟨w11.heap.size, 0, none⟩) (some ⟨W12.heap.size, 0, none⟩) 1 1 [y] [pm1] (by unfold maxLen; simp) (one_row (hN12.keep hb13) ((HY10.out.keep hb11).keep hb1113)) (one_row hN13 (pm1_in _))
  rw [eqMs_yes (by simp [HYX.out])] at HSAME2
  have HSAME2 := Lib.hid HSAME2
  clear hb11 hN12 hb12 hN13 hb13 hb1113 HA10 HN10 HY10 HB10 HSAME HYX
  go_wp2_with (first | (with_reducible refine at_loadG 34 ?_; refine Shut.out ?_) | fail)
  show wpList _ _ _ _ _ _
  refine load_want 34 _ rfl (by rfl) w6.heap.size 0 rfl (mlC y) _ HRY.out Try.underlying34 rfl (sizeMailC y) ?_
  refine build_want (by rfl) rfl (mlC y) rfl rfl ?_
  rw [hW12]
  refine load_want 34 _ rfl (by rfl) w1.heap.size 0 rfl (mlC pm1) _ HRA.out Try.underlying34 rfl (sizeMailC pm1) ?_
  refine build_want (by rfl) rfl (mlC pm1) rfl rfl ?_
  rw [hW13]
  go_wp2_with fail
  clear hW12 hW13 HRY HRA
  refine HSAME2.out.mono ?_
  rintro e w14 ⟨rfl, hb14⟩
  have HB14 := Lib.hid (HB13.out.trans (hb14.mono HB13.out.size))
  clear hb14 HB13 HSAME2
  go_wp2
  go_ret
  exact ⟨rfl, HB14.out⟩
end Go.Proofs.Ytljbchkmoekpmae

