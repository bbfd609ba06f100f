/- 8 texts of the proof: Boxes of mail; orangerylaw.posted. A row of one mail in a region that draws its order; one of a row. slices.Delete at mail whose lists are not the row's own. Mail held against mail by the reference: the first two numbers. Mail held against mail by the reference: the next two. Mail held against mail by the reference: time and version. Mail held against mail by the reference: from, and the operation -/
import Derived.Test.YtljbchkmoekpmadGreatP13
import Derived.Test.YtljbchkmoekpmadGreatP10
import Derived.Test.YtljbchkmoekpmadGreatP09
/- Boxes of mail; orangerylaw.posted. -/
namespace Go.Proofs.YtljbchkmoekpmadGreat
open Go.ChangeShapes Go.WideShapes Go.ChangeAt Go.RowKit
open Orangery (Pl Mv Vw Dl Ml noVw noDl noMl noOp ml1E mlsE mlE sendE sendL takeE takeL takeM)

/-- a box is made, and mail stored into it -/
theorem boxed (w : World) (x : Mm) : ∃ V W, w.alloc (Obj.cells #[Value.int .i64 0, .int .i64 0, .int .i64 0, .int .i64 0, .int .i64 0, .int .i64 0, .int .i64 0, .int .i64 0, .int .i64 0, .int .i64 0, .int .i64 0, .int .i64 0, .int .i64 0, .int .i64 0, .slice none 0 0, .slice none 0 0, .slice none 0 0, .slice none 0 0, .slice none 0 0, .slice none 0 0, .slice none 0 0] 74) = V ∧
    V.there w.heap.size 0 (mlC x).toArray.size ∧ V.setCells w.heap.size 0 (mlC x).toArray.toList = W ∧ Blk W w.heap.size (mlC x) ∧ Below w.heap.size w W := by
  refine ⟨_, _, rfl, ?_, rfl, ?_, ?_⟩
  · exact (Blk.new w zeroMail 74).there
  · exact (Blk.new w zeroMail 74).sets (mlC x) rfl
  · exact below_sets (Go.Joins.below_alloc1 w _) w.heap.size (Nat.le_refl _) _ _
theorem sizeMm (x : Mm) : (Tryz.prog.info? 74).map (·.size) = some (mlC x).toArray.size := sizeMail
theorem oneMm (x : Mm) : (mlC x).toArray.all (·.oneCell') = true := all_oneCell_toArray (mlC_one x)
theorem list_want {P : Program} {ops : Array Oper} {Q : Exit → Act → World → Prop} {a : Act} {w : World} {rest : List Oper} {o : Oper} (hw : Region.wanted o (yielded ops a.tmps) = true)
    (h : ∀ K : Act → World → Prop, (∀ a w, wpList P ops Q rest a w → K a w) → o.wp P a w K Q) : wpList P ops Q (o :: rest) a w :=
  wpList_step fun K hK => by rw [if_pos hw]; exact h K hK
/-- a load of a whole mail, behind a guard that lets it -/
theorem load_want {ops : Array Oper} {rest : List Oper} {op : Oper} {a : Act} {w : World} {Q : Exit → Act → World → Prop} (ty : TypeId) (x : Operand) (ho : op.op = .load ty x) (hw : Region.wanted op (yielded ops a.tmps) = true)
    (b o : Nat) (hx : a.eval x = .pointer (some ⟨b, o, none⟩)) (cs : List Value) (d : TypeDesc) (hc : w.rangeAt b o cs)
    (hu : Tryz.prog.underlying ty = some d) (hd : d.isRow = true) (hi : (Tryz.prog.info? ty).map (·.size) = some cs.length)
    (h : wpList Tryz.prog ops Q rest (a.put op.dst (.agg cs.toArray)) w) : wpList Tryz.prog ops Q (op :: rest) a w :=
  list_want hw fun _ hK => wp_load_mid ty x ho b o hx cs d hc hu hd hi (hK _ _ h)
theorem at_loadG {ops : Array Oper} {Q : Exit → Act → World → Prop} {rest : List Oper} {x : Operand} {t : TypeId} {d : Option Tmp} {pos : String} {after : Array Edge} {g : Nat × Bool} {a : Act} {w : World} (ty : TypeId)
    (h : wpList Tryz.prog ops Q (⟨d, .load ty x, t, pos, after, some g⟩ :: rest) a w) : wpList Tryz.prog ops Q (⟨d, .load ty x, t, pos, after, some g⟩ :: rest) a w := h
theorem at_sliceG {ops : Array Oper} {Q : Exit → Act → World → Prop} {rest : List Oper} {ps : Array (Nat × Operand)} {t u : TypeId} {d : Option Tmp} {n : Nat} {pos : String} {after : Array Edge} {g : Nat × Bool} {a : Act} {w : World}
    (h : wpList Tryz.prog ops Q (⟨d, .buildSlice u n ps, t, pos, after, some g⟩ :: rest) a w) : wpList Tryz.prog ops Q (⟨d, .buildSlice u n ps, t, pos, after, some g⟩ :: rest) a w := h
theorem build_want {ops : Array Oper} {Q : Exit → Act → World → Prop} {rest : List Oper} {o : Oper} {x : Operand} {a : Act} {w : World} (hw : Region.wanted o (yielded ops a.tmps) = true) (ho : o.op = .buildSlice 70 1 #[(0, x)]) (cs : List Value) (hc : cs.length = 21) (hx : a.eval x = .agg cs.toArray)
    (h : wpList Tryz.prog ops Q rest (a.put o.dst (.slice (some ⟨w.heap.size, 0, none⟩) 1 1)) (w.alloc (.cells cs.toArray 74))) : wpList Tryz.prog ops Q (o :: rest) a w := by
  obtain ⟨i0, hi, hz0, hz1, hz2⟩ := info_parts infoMail
  refine list_want hw fun _ hK => wp_buildSlice 70 74 1 _ ho cs.toArray i0 _ Tryz.underlying70 hi hz0 (by rw [hz1]; decide) (by rw [hz1]; decide) ?_ (hK _ _ h)
  have e : (#[(0, x)].map fun (p : Nat × Operand) => (p.1, a.eval p.2)).toList = [(0, Value.agg cs.toArray)] := by simp [hx]
  show Instr.fill _ _ (#[(0, x)].map fun (p : Nat × Operand) => (p.1, a.eval p.2)).toList = _
  rw [e]
  exact build_cells cs hc hz1
def pmO : Mv := (2, 1, (3, 0, 0), 1, 2)
def pm1 : Mm := (((1, 1, 0, 0, 0, 0, 0), pmO, noVw, noDl), nilV, nilD)
def pm2 : Mm := (((2, 2, 1, 0, 0, 3, 0), noOp, noVw, noDl), nilV, nilD)
theorem pm1_in (w : World) : MlIn w pm1 := ⟨Or.inl rfl, Or.inl rfl, Or.inl rfl, Or.inl rfl, Or.inl rfl, Or.inl rfl, Or.inl rfl, by simp [pm1, noVw, noDl], ⟨fun _ => rfl, fun _ => rfl⟩⟩
theorem pm2_in (w : World) : MlIn w pm2 := ⟨Or.inl rfl, Or.inl rfl, Or.inl rfl, Or.inl rfl, Or.inl rfl, Or.inl rfl, Or.inl rfl, by simp [pm2, noVw, noDl], ⟨fun _ => rfl, fun _ => rfl⟩⟩
theorem po1 : sendE [pm1.1] pm2.1 = 0 ∧ sendL [pm1.1] pm2.1 = [pm1.1, pm2.1] := ⟨by kernel_rfl, by kernel_rfl⟩
theorem po2 : takeE [pm1.1, pm2.1] 0 = 0 ∧ takeL [pm1.1, pm2.1] 0 false = [pm2.1] ∧ takeM [pm1.1, pm2.1] 0 = pm1.1 := ⟨by kernel_rfl, by kernel_rfl, by kernel_rfl⟩
theorem po3 : takeE [pm2.1] 1 = 5 ∧ takeL [pm2.1] 1 true = [] ∧ takeM [pm2.1] 1 = noMl := ⟨by kernel_rfl, by kernel_rfl, by kernel_rfl⟩

set_option maxHeartbeats 4000000 in
set_option maxRecDepth 100000 in
theorem posted_any (w : World) : Calls Tryz.prog 32 #[] w fun e w' => e = .returned (.bool true) ∧ Below w.heap.size w w' := by
  have HO : Hid (∀ W, Calls Tryz.prog 50 #[.int .i64 2, .int .i64 1, .int .i64 3, .int .i64 0] W fun e w' => e = .returned (.agg #[Value.int .i64 2, .int .i64 1, .int .i64 3, .int .i64 0, .int .i64 0, .int .i64 1, .int .i64 2]) ∧ Below W.heap.size W w') := fun W => lop_any W 2 1 3 0
  go_enter Tryz.func32, Tryz.ntmps32
  go_wp2_with fail
  refine (HO.out w).mono ?_
  rintro e w1 ⟨rfl, hb⟩
  have HB1 := Lib.hid hb
  clear hb
  obtain ⟨V2, W2, hV2, hT2, hW2, hA2, hb2⟩ := boxed w1 pm1
  obtain ⟨V3, W3, hV3, hT3, hW3, hC3, hb3⟩ := boxed W2 pm2
  have HT2 := Lib.hid hT2
  have HT3 := Lib.hid hT3
  have HW2 := Lib.hid hW2
  have HW3 := Lib.hid hW3
  have hA3 := hA2.keep hb3
  obtain ⟨W4, hW4, hN4, hb4, -⟩ := laid1 W3 (mlC pm1) 74
  have HR3 := Lib.hid hA3.range
  have HA4 := Lib.hid (hA3.keep hb4)
  have hC4 := hC3.keep hb4
  have HC4 := Lib.hid hC4
  have HR4 := Lib.hid hC4.range
  have HB4 : Hid (Below w.heap.size w W4) := HB1.out.trans (((hb2.trans ((hb3.trans (hb4.mono hb3.size)).mono hb2.size))).mono HB1.out.size)
  have HSND := Lib.hid (wSend_any W4 (some ⟨W3.heap.size, 0, none⟩) 1 [pm1] pm2 (by unfold maxLen; simp) (one_row hN4 (pm1_in _)) (pm2_in _))
  clear hT2 hT3 hW2 hW3 hA2 hC3 hA3 hC4 hN4 hb2 hb3 hb4
  go_wp2_with (first | (with_reducible refine at_store 74 ?_; refine wpList_store_mid rfl 74 _ _ rfl w1.heap.size 0 (mlC pm1).toArray rfl rfl HT2.out (sizeMm pm1) (oneMm pm1) ?_; rw [HW2.out]) | (with_reducible refine at_store 74 ?_; refine wpList_store_mid rfl 74 _ _ rfl W2.heap.size 0 (mlC pm2).toArray rfl rfl HT3.out (sizeMm pm2) (oneMm pm2) ?_; rw [HW3.out]) | (refine wpList_load_mid rfl 74 _ rfl w1.heap.size 0 rfl (mlC pm1) _ HR3.out Tryz.underlying74 rfl (sizeMailC pm1) ?_) | (refine wpList_load_mid rfl 74 _ rfl W2.heap.size 0 rfl (mlC pm2) _ HR4.out Tryz.underlying74 rfl (sizeMailC pm2) ?_) | (with_reducible refine at_slice ?_; refine build_one rfl rfl (mlC pm1) rfl rfl ?_; rw [hW4]) | fail)
  clear hV2 hV3 hW4 HT2 HT3 HW2 HW3 HR3 HR4
  refine HSND.out.mono ?_
  rintro e w5 ⟨v, Y, rfl, hO, hYM, hb5⟩
  have hYM : Y.map (·.1) = [pm1.1, pm2.1] := hYM.trans po1.2
  have hE0 : sendE ([pm1].map (·.1)) pm2.1 = 0 := po1.1
  rw [hE0]
  obtain ⟨aY, cY, rfl, hY⟩ := hO.val
  have hYl : Y.length = 2 := by have := congrArg List.length hYM; simpa using this
  have HTK := wTake_any w5 aY cY Y 0 false (by rw [hYl]; unfold maxLen; simp) hY
  rw [hYM, po2.1, po2.2.1, po2.2.2, hYl] at HTK
  rw [hYl]
  have HTK := Lib.hid HTK
  have HA5 := Lib.hid (HA4.out.keep hb5)
  have HC5 := Lib.hid (HC4.out.keep hb5)
  have HB5 := Lib.hid (HB4.out.trans (hb5.mono HB4.out.size))
  clear hO hY hYM hYl hb5 hE0 HSND HA4 HC4 HB4 HO HB1
  go_wp2_with fail
  refine HTK.out.mono ?_
  rintro e w6 ⟨vz, Z, y, rfl, hO, hZM, hy, hyI, -, hb6⟩
  obtain ⟨aZ, cZ, rfl, hZ⟩ := hO.val
  have hZl : Z.length = 1 := by have := congrArg List.length hZM; simpa using this
  obtain ⟨V7, W7, hV7, hT7, hW7, hN7, hb7⟩ := boxed w6 y
  have HZ7 := Lib.hid (hZ.keep hb7)
  have HTK2 := wTake_any W7 aZ cZ Z 1 true (by rw [hZl]; unfold maxLen; simp) (hZ.keep hb7)
  rw [hZM, po3.1, po3.2.1, po3.2.2, hZl] at HTK2
  rw [hZl]
  have HTK2 := Lib.hid HTK2
  have hb67 := hb6.trans (hb7.mono hb6.size)
  have HA7 := Lib.hid (HA5.out.keep hb67)
  have HC7 := Lib.hid (HC5.out.keep hb67)
  have HB7 := Lib.hid (HB5.out.trans (hb67.mono HB5.out.size))
  have HN7 := Lib.hid hN7
  have HYI7 := Lib.hid (hyI.keep hb7)
  have HYX := Lib.hid hy
  have HZM := Lib.hid hZM
  have HZL := Lib.hid hZl
  have HT7 := Lib.hid hT7
  have HW7 := Lib.hid hW7
  clear hO hZ hZl hZM hy hyI hb6 hb7 hb67 hN7 hT7 hW7 HTK HA5 HC5 HB5
  go_wp2_with (first | (with_reducible refine at_store 74 ?_; refine wpList_store_mid rfl 74 _ _ rfl w6.heap.size 0 (mlC y).toArray rfl rfl HT7.out (sizeMm y) (oneMm y) ?_; rw [HW7.out]) | fail)
  clear hV7 HT7 HW7
  refine HTK2.out.mono ?_
  rintro e w8 ⟨v8, Y8, y8, rfl, -, -, -, hyI8, -, hb8⟩
  obtain ⟨V9, W9, hV9, hT9, hW9, hN9, hb9⟩ := boxed w8 y8
  have hb89 := hb8.trans (hb9.mono hb8.size)
  obtain ⟨W10, hW10, hN10, hb10, -⟩ := laid1 W9 (mlC pm2) 74
  have hb810 := hb89.trans (hb10.mono hb89.size)
  have HA10 := Lib.hid (HA7.out.keep hb810)
  have HN10 := Lib.hid (HN7.out.keep hb810)
  have HY10 := Lib.hid (HYI7.out.keep hb810)
  have HB10 := Lib.hid (HB7.out.trans (hb810.mono HB7.out.size))
  have HRC := Lib.hid (HC7.out.keep hb89).range
  have HT9 := Lib.hid hT9
  have HW9 := Lib.hid hW9
  have HSAME := wSame_any W10 aZ (some ⟨W9.heap.size, 0, none⟩) cZ 1 Z [pm2] (by rw [HZL.out]; unfold maxLen; simp) (HZ7.out.keep hb810) (one_row hN10 (pm2_in _))
  rw [HZL.out, eqMs_yes (by rw [HZM.out]; rfl)] at HSAME
  have HSAME := Lib.hid HSAME
  clear hyI8 hb8 hT9 hW9 hN9 hb9 hb89 hN10 hb10 hb810 HTK2 HA7 HC7 HN7 HYI7 HB7 HZ7 HZM HZL
  go_wp2_with (first | (with_reducible refine at_store 74 ?_; refine wpList_store_mid rfl 74 _ _ rfl w8.heap.size 0 (mlC y8).toArray rfl rfl HT9.out (sizeMm y8) (oneMm y8) ?_; rw [HW9.out]) | (with_reducible refine at_loadG 74 ?_; refine Shut.out ?_) | fail)
  show wpList _ _ _ _ _ _
  refine load_want 74 _ rfl (by rfl) W2.heap.size 0 rfl (mlC pm2) _ HRC.out Tryz.underlying74 rfl (sizeMailC pm2) ?_
  refine build_want (by rfl) rfl (mlC pm2) rfl rfl ?_
  rw [hW10]
  go_wp2_with fail
  clear hV9 hW10 HT9 HW9 HRC
  refine HSAME.out.mono ?_
  rintro e w11 ⟨rfl, hb11⟩
  have HRY := Lib.hid (HN10.out.keep hb11).range
  obtain ⟨W12, hW12, hN12, hb12, -⟩ := laid1 w11 (mlC y) 74
  obtain ⟨W13, hW13, hN13, hb13, -⟩ := laid1 W12 (mlC pm1) 74
  have HRA := Lib.hid ((HA10.out.keep hb11).keep hb12).range
  have hb1113 := hb12.trans (hb13.mono hb12.size)
  have HB13 := Lib.hid (HB10.out.trans ((hb11.trans (hb1113.mono hb11.size)).mono HB10.out.size))
  have HSAME2 := wSame_any W13 (some ⟨w11.heap.size, 0, none⟩) (some ⟨W12.heap.size, 0, none⟩) 1 1 [y] [pm1] (by unfold maxLen; simp) (one_row (hN12.keep hb13) ((HY10.out.keep hb11).keep hb1113)) (one_row hN13 (pm1_in _))
  rw [eqMs_yes (by simp [HYX.out])] at HSAME2
  have HSAME2 := Lib.hid HSAME2
  clear hb11 hN12 hb12 hN13 hb13 hb1113 HA10 HN10 HY10 HB10 HSAME HYX
  go_wp2_with (first | (with_reducible refine at_loadG 74 ?_; refine Shut.out ?_) | fail)
  show wpList _ _ _ _ _ _
  refine load_want 74 _ rfl (by rfl) w6.heap.size 0 rfl (mlC y) _ HRY.out Tryz.underlying74 rfl (sizeMailC y) ?_
  refine build_want (by rfl) rfl (mlC y) rfl rfl ?_
  rw [hW12]
  refine load_want 74 _ rfl (by rfl) w1.heap.size 0 rfl (mlC pm1) _ HRA.out Tryz.underlying74 rfl (sizeMailC pm1) ?_
  refine build_want (by rfl) rfl (mlC pm1) rfl rfl ?_
  rw [hW13]
  go_wp2_with fail
  clear hW12 hW13 HRY HRA
  refine HSAME2.out.mono ?_
  rintro e w14 ⟨rfl, hb14⟩
  have HB14 := Lib.hid (HB13.out.trans (hb14.mono HB13.out.size))
  clear hb14 HB13 HSAME2
  go_wp2
  go_ret
  exact ⟨rfl, HB14.out⟩
end Go.Proofs.YtljbchkmoekpmadGreat

/- A row of one mail in a region that draws its order; one of a row. -/
namespace Go.Proofs.YtljbchkmoekpmadGreat
open Go.ChangeShapes Go.WideShapes Go.ChangeAt Go.RowKit
open Orangery (Pl Mv Ml)

theorem build_wp {Q : Exit → Act → World → Prop} {K : Act → World → Prop} {o : Oper} {x : Operand} {a : Act} {w : World} (ho : o.op = .buildSlice 70 1 #[(0, x)]) (cs : List Value) (hc : cs.length = 21) (hx : a.eval x = .agg cs.toArray)
    (h : K (a.put o.dst (.slice (some ⟨w.heap.size, 0, none⟩) 1 1)) (w.alloc (.cells cs.toArray 74))) : o.wp Tryz.prog a w K Q := by
  obtain ⟨i0, hi, hz0, hz1, hz2⟩ := info_parts infoMail
  refine wp_buildSlice 70 74 1 _ ho cs.toArray i0 _ Tryz.underlying70 hi hz0 (by rw [hz1]; decide) (by rw [hz1]; decide) ?_ h
  have e : (#[(0, x)].map fun (p : Nat × Operand) => (p.1, a.eval p.2)).toList = [(0, Value.agg cs.toArray)] := by simp [hx]
  show Instr.fill _ _ (#[(0, x)].map fun (p : Nat × Operand) => (p.1, a.eval p.2)).toList = _
  rw [e]
  exact build_cells cs hc hz1
/-- one of a row, as a row -/
theorem SlM.one {w : World} {b o : Nat} {X : List Mm} (h : SlM w (some ⟨b, o, none⟩) X) (k : Nat) (hk : k < X.length) : SlM w (some ⟨b, o + k * 21, none⟩) [X[k]] := by
  obtain ⟨b', o', e, hb, hr⟩ := h.reads.at mlC_len k hk
  obtain ⟨rfl, rfl⟩ : b = b' ∧ o = o' := by simpa using e
  exact ⟨Or.inr ⟨b, o + k * 21, rfl, hb, by simpa using hr⟩, fun y hy => by simp at hy; subst hy; exact h.each _ (List.getElem_mem hk)⟩
end Go.Proofs.YtljbchkmoekpmadGreat

/- slices.Delete at mail whose lists are not the row's own. -/
namespace Go.Proofs.YtljbchkmoekpmadGreat
open Go.ChangeShapes Go.WideShapes Go.ChangeAt Go.RowKit
open Orangery (Pl Mv Ml)

/-- a row of mail of the call's own: its lists lie in no block of the row -/
structure RowM (w : World) (base : Nat) (v : Value) (Y : List Mm) : Prop where
  row : OwnE mlC 21 74 w base v Y
  each : ∀ y ∈ Y, MlIn w y
  lists : ∀ y ∈ Y, MlD (fun b => v.ownBlock ≠ some b) y
theorem RowM.some {w : World} {base : Nat} {v : Value} {Y : List Mm} (h : RowM w base v Y) (hY : 0 < Y.length) : ∃ g cap, v = .slice (some ⟨g, 0, none⟩) Y.length cap ∧ InRow w base g cap (Y.flatMap mlC) Y.length := by
  have h0 := h.row
  obtain ⟨h1, h2⟩ := h.row
  rcases h2 with ⟨_, h2⟩ | ⟨g, cap, cur, rfl, hb, hg, hn, hm, hs, ht⟩
  · omega
  · exact ⟨g, cap, rfl, hb, hn, hm, cur, hg, hs, ht⟩

set_option maxHeartbeats 4000000 in
set_option maxRecDepth 100000 in
theorem deleteMailsD_any (w : World) (base : Nat) (v : Value) (Y : List Mm) (k : Nat) (hk : k < Y.length) (hl : Y.length ≤ 1000) (h : RowM w base v Y) :
    Calls Tryz.prog 37 #[v, .int .i64 k, .int .i64 ((k : Int) + 1)] w fun e w' => ∃ v', e = .returned v' ∧ RowM w' base v' (Y.take k ++ Y.drop (k + 1)) ∧ Below base w w' := by
  obtain ⟨g, cap, rfl, hr⟩ := h.some (by omega)
  obtain ⟨m, hm⟩ : ∃ m, Y.length = m + 1 := ⟨Y.length - 1, by omega⟩
  rw [hm] at hr ⊢
  have HE : Hid (∀ W', w.grownBy W' (some g) → ∀ y ∈ Y.take k ++ Y.drop (k + 1), MlIn W' y) := fun W' hg y hy => (h.each y (mem_del hy)).grown (h.lists y (mem_del hy)) hg (fun b hb e => hb (by simp [Value.ownBlock] at e ⊢; exact e.symm))
  have HL : Hid (∀ y ∈ Y.take k ++ Y.drop (k + 1), MlD (fun b => (Value.slice (some ⟨g, 0, none⟩) m cap).ownBlock ≠ some b) y) := fun y hy => (h.lists y (mem_del hy)).imp (fun b hb => by simpa [Value.ownBlock] using hb)
  have HLEN : Hid ((Y.take k ++ Y.drop (k + 1)).length = m) := by show _ = _; simp; omega
  have hcap := hr.room
  have hfew := hr.few
  have hcm : cap ≤ 9223372036854775807 := hfew
  have HR := Lib.hid hr
  have HM := Lib.hid hm
  have hkm : k ≤ m := by omega
  have hm1 : m ≤ 999 := by omega
  have hne : ((k : Int) == (k : Int) + 1) = false := by simp; omega
  clear hr hm h hfew hl hk
  obtain ⟨ad, had⟩ : ∃ ad : Addr, ad = if cap = k + 1 then (⟨g, 0, none⟩ : Addr) else ⟨g, (k + 1) * 21, none⟩ := ⟨_, rfl⟩
  have hA : ad = ⟨g, (k + 1) * 21, none⟩ ∨ k = m := by
    by_cases hz : cap = k + 1
    · exact Or.inr (by omega)
    · rw [if_neg hz] at had; exact Or.inl had
  obtain ⟨W1, happ, hI1, hg1, hb1⟩ := app_down w.drew base g cap m k 70 Y HM.out hkm ⟨HR.out.low, HR.out.room, HR.out.few, HR.out.row⟩ ad hA
  have hif : (some ad : Option Addr) = if cap = k + 1 then some ⟨g, 0, none⟩ else some ⟨g, (k + 1) * 21, none⟩ := by rw [had]; split <;> rfl
  rw [hif] at happ
  have HAPP := Lib.hid happ
  clear hif
  have HI1 := Lib.hid hI1
  have HG1 : Hid (w.grownBy W1 (some g)) := ⟨hg1.os, hg1.tape, hg1.output, hg1.size, hg1.block⟩
  have HB1 : Hid (Below base w W1) := ⟨hb1.os, hb1.tape, hb1.output, hb1.size, hb1.block⟩
  clear happ hI1 hg1 hb1 had hA
  go_enter Tryz.func37, Tryz.ntmps37
  go_upto_region 5 with fail
  have i1 : (k : Int) ≤ (k : Int) + 1 := by omega
  have i2 : (0 : Int) ≤ (k : Int) + 1 := by omega
  have i4 : k ≤ cap := by omega
  go_cut [0, 7] from 20 to 26 (fun p q wc => p = .slice (some ⟨g, 0, none⟩) m cap ∧ q = .int .i64 ((m : Int) + 1) ∧ wc = W1)
  case first =>
    refine wp_region_held_drew (S := fun _ => True) (by kernel_rfl) trivial (fun hHeld => ?_)
    refine take_yes 0 20 (v := ?_) rfl rfl (by kernel_rfl) (by kernel_rfl) (by kernel_rfl) (fun _ _ _ h => h) (by rfl) ?_ hHeld ?_
    rotate_left 1
    · (intro w9 hSw; go_simp; try with_reducible rfl)
    simp only [Act.put, List.setIfInBounds_toArray, List.set_cons_succ, List.set_cons_zero]
    refine take_yes 1 21 (v := ?_) rfl rfl (by kernel_rfl) (by kernel_rfl) (by kernel_rfl) (fun _ _ _ h => h) (by rfl) ?_ hHeld ?_
    rotate_left 1
    · (intro w9 hSw; go_simp; try with_reducible rfl)
    simp only [Act.put, List.setIfInBounds_toArray, List.set_cons_succ, List.set_cons_zero]
    refine take_yes 2 22 (v := ?_) rfl rfl (by kernel_rfl) (by kernel_rfl) (by kernel_rfl) (fun _ _ _ h => h) (by rfl) ?_ hHeld ?_
    rotate_left 1
    · (intro w9 hSw; go_simp; try with_reducible rfl)
    simp only [Act.put, List.setIfInBounds_toArray, List.set_cons_succ, List.set_cons_zero]
    refine take_yes 3 23 (v := ?_) rfl rfl (by kernel_rfl) (by kernel_rfl) (by kernel_rfl) (fun _ _ _ h => h) (by rfl) ?_ hHeld ?_
    rotate_left 1
    · (intro w9 hSw; go_simp; try with_reducible rfl)
    simp only [Act.put, List.setIfInBounds_toArray, List.set_cons_succ, List.set_cons_zero]
    refine take_yes 4 24 (v := ?_) rfl rfl (by kernel_rfl) (by kernel_rfl) (by kernel_rfl) (fun _ _ _ h => h) (by rfl) ?_ hHeld ?_
    rotate_left 1
    · (intro w9 hSw; go_simp; try with_reducible rfl)
    simp only [Act.put, List.setIfInBounds_toArray, List.set_cons_succ, List.set_cons_zero]
    refine take_yes 5 25 (v := ?_) rfl rfl (by kernel_rfl) (by kernel_rfl) (by kernel_rfl) (fun _ _ _ h => h) (by rfl) ?_ hHeld ?_
    rotate_left 1
    · (intro w9 hSw; go_simp; try with_reducible rfl)
    simp only [Act.put, List.setIfInBounds_toArray, List.set_cons_succ, List.set_cons_zero]
    refine wpAnyH_ready (rs := [6]) (by kernel_rfl) (by simp) ?_
    refine AllReadyH.cons rfl (fun KK hKK => ?_) AllReadyH.nil
    rw [if_pos (by rfl)]
    refine Lib.wp_append_run _ _ _ _ _ rfl (.slice (some ⟨g, 0, none⟩) k cap) (.slice (if cap = k + 1 then some ⟨g, 0, none⟩ else some ⟨g, (k + 1) * 21, none⟩) (m - k) (cap - (k + 1))) rfl rfl _ _ (HAPP.out (cap - (k + 1))) ?_
    show KK (Act.put _ (some 26) _) _
    refine hKK.out _ _ trivial (fun hHeld => ?_)
    clear hKK KK
    simp only [Act.put, List.setIfInBounds_toArray, List.set_cons_succ, List.set_cons_zero]
    refine take_yes 7 0 (v := ?_) rfl rfl (by kernel_rfl) (by kernel_rfl) (by kernel_rfl) (fun _ _ _ h => h) (by rfl) ?_ hHeld ?_
    rotate_left 1
    · (intro w9 hSw; go_simp; try with_reducible rfl)
    simp only [Act.put, List.setIfInBounds_toArray, List.set_cons_zero]
    refine wpAnyH_done (by kernel_rfl) ?_ _
    generalize (if cap = k + 1 then (some ⟨g, 0, none⟩ : Option Addr) else some ⟨g, (k + 1) * 21, none⟩) = AA at *
    go_wp2
    go_meet
    case rel => exact ⟨rfl, rfl, rfl⟩
  case rest =>
  obtain ⟨rfl, rfl, hw⟩ := hcut
  subst hw
  obtain ⟨W2, hclr, hI2, hg2, hb2⟩ := clear_end wc base g cap m (cap - m) 0 _ HI1.out hcap
  have HI2 := Lib.hid hI2
  have HG2 : Hid (w.grownBy W2 (some g)) := ⟨hg2.os.trans HG1.out.os, hg2.tape.trans HG1.out.tape, hg2.output.trans HG1.out.output, Nat.le_trans HG1.out.size hg2.size, fun j hj hne => (hg2.block j (Nat.lt_of_lt_of_le hj HG1.out.size) hne).trans (HG1.out.block j hj hne)⟩
  have HB2 : Hid (Below base w W2) := ⟨hb2.os.trans HB1.out.os, hb2.tape.trans HB1.out.tape, hb2.output.trans HB1.out.output, Nat.le_trans HB1.out.size hb2.size, fun j hj => (hb2.block j hj).trans (HB1.out.block j hj)⟩
  clear hI2 hg2 hb2 HI1 HG1 HB1 HAPP
  have hcm0 : ¬ (cap - m = 0) := by omega
  have i3 : (m : Int) ≤ (m : Int) + 1 := by omega
  go_wp2
  go_ret
  exact ⟨_, rfl, ⟨HI2.out.own HLEN.out, HE.out _ HG2.out, HL.out⟩, HB2.out⟩
end Go.Proofs.YtljbchkmoekpmadGreat

/- Mail held against mail by the reference: the first two numbers. -/
namespace Go.Proofs.YtljbchkmoekpmadGreat
open Go.ChangeShapes Go.WideShapes Go.ChangeAt Go.RowKit
open Orangery (Pl Mv Vw Dl Ml noVw noDl noMl viewME deltaME ml1E mlsE mlE sameV sameD noOp)


set_option maxHeartbeats 4000000 in
set_option maxRecDepth 100000 in
theorem rsm_k (w : World) (x y : Mm) (hx : MlIn w x) (hy : MlIn w y)  (ne : x.1.1.1 ≠ y.1.1.1) :
    Calls Tryz.prog 83 #[x.val, y.val] w fun e w' => e = .returned (.bool (sameMl x.1 y.1)) ∧ Below w.heap.size w w' := by
  obtain ⟨⟨⟨k, u, f, s, t, n, p⟩, o, ⟨R, K, V⟩, ⟨G, H, X, Y⟩⟩, ⟨⟨aR, cR⟩, ⟨aK, cK⟩, ⟨aV, cV⟩⟩, ⟨aG, cG⟩, ⟨aH, cH⟩, ⟨aX, cX⟩, ⟨aY, cY⟩⟩ := x
  obtain ⟨⟨⟨k', u', f', s', t', n', p'⟩, o', ⟨R', K', V'⟩, ⟨G', H', X', Y'⟩⟩, ⟨⟨aR', cR'⟩, ⟨aK', cK'⟩, ⟨aV', cV'⟩⟩, ⟨aG', cG'⟩, ⟨aH', cH'⟩, ⟨aX', cX'⟩, ⟨aY', cY'⟩⟩ := y
  simp only at  ne
  have HCX : Hid (mlC (((k, u, f, s, t, n, p), o, (R, K, V), (G, H, X, Y)), ((aR, cR), (aK, cK), (aV, cV)), (aG, cG), (aH, cH), (aX, cX), (aY, cY)) = [Value.int .i64 k, .int .i64 u, .int .i64 f, .int .i64 s, .int .i64 t, .int .i64 n, .int .i64 p, .int .i64 o.1, .int .i64 o.2.1, .int .i64 o.2.2.1.1, .int .i64 o.2.2.1.2.1, .int .i64 o.2.2.1.2.2, .int .i64 o.2.2.2.1, .int .i64 o.2.2.2.2, .slice aR R.length cR, .slice aK K.length cK, .slice aV V.length cV, .slice aG G.length cG, .slice aH H.length cH, .slice aX X.length cX, .slice aY Y.length cY]) := rfl
  have HCY : Hid (mlC (((k', u', f', s', t', n', p'), o', (R', K', V'), (G', H', X', Y')), ((aR', cR'), (aK', cK'), (aV', cV')), (aG', cG'), (aH', cH'), (aX', cX'), (aY', cY')) = [Value.int .i64 k', .int .i64 u', .int .i64 f', .int .i64 s', .int .i64 t', .int .i64 n', .int .i64 p', .int .i64 o'.1, .int .i64 o'.2.1, .int .i64 o'.2.2.1.1, .int .i64 o'.2.2.1.2.1, .int .i64 o'.2.2.1.2.2, .int .i64 o'.2.2.2.1, .int .i64 o'.2.2.2.2, .slice aR' R'.length cR', .slice aK' K'.length cK', .slice aV' V'.length cV', .slice aG' G'.length cG', .slice aH' H'.length cH', .slice aX' X'.length cX', .slice aY' Y'.length cY']) := rfl
  have HX9 := Lib.hid hx
  have HY9 := Lib.hid hy
  show Calls Tryz.prog _ #[.agg (mlC (((k, u, f, s, t, n, p), o, (R, K, V), (G, H, X, Y)), ((aR, cR), (aK, cK), (aV, cV)), (aG, cG), (aH, cH), (aX, cX), (aY, cY))).toArray, .agg (mlC (((k', u', f', s', t', n', p'), o', (R', K', V'), (G', H', X', Y')), ((aR', cR'), (aK', cK'), (aV', cV')), (aG', cG'), (aH', cH'), (aX', cX'), (aY', cY'))).toArray] w _
  generalize mlC (((k, u, f, s, t, n, p), o, (R, K, V), (G, H, X, Y)), ((aR, cR), (aK, cK), (aV, cV)), (aG, cG), (aH, cH), (aX, cX), (aY, cY)) = cx at *
  generalize mlC (((k', u', f', s', t', n', p'), o', (R', K', V'), (G', H', X', Y')), ((aR', cR'), (aK', cK'), (aV', cV')), (aG', cG'), (aH', cH'), (aX', cX'), (aY', cY')) = cy at *
  obtain ⟨W0, hW, hA, hC, hB, -⟩ := laid2 w cx 74 cy 74
  rw [HCX.out] at hA
  rw [HCY.out] at hC
  have HXI := Lib.hid (HX9.out.keep hB)
  have HYI := Lib.hid (HY9.out.keep hB)
  have HB0 := Lib.hid hB
  clear hx hy hB HX9 HY9 HCX HCY
  have x0 := hA.at 0 rfl
  have y0 := hC.at 0 rfl
  have HE : Hid (sameMl ((k, u, f, s, t, n, p), o, (R, K, V), (G, H, X, Y)) ((k', u', f', s', t', n', p'), o', (R', K', V'), (G', H', X', Y')) = false) := sameMl_no (by intro e; apply ne; simp at e; simp [e])
  have d1 : (k == k') = false := by simpa using ne
  clear ne HXI HYI hA hC
  go_enter Tryz.func83, Tryz.ntmps83
  go_wp2
  go_ret
  exact ⟨ret_bool HE.out.symm, HB0.out⟩

set_option maxHeartbeats 4000000 in
set_option maxRecDepth 100000 in
theorem rsm_u (w : World) (x y : Mm) (hx : MlIn w x) (hy : MlIn w y) (ek : x.1.1.1 = y.1.1.1) (ne : x.1.1.2.1 ≠ y.1.1.2.1) :
    Calls Tryz.prog 83 #[x.val, y.val] w fun e w' => e = .returned (.bool (sameMl x.1 y.1)) ∧ Below w.heap.size w w' := by
  obtain ⟨⟨⟨k, u, f, s, t, n, p⟩, o, ⟨R, K, V⟩, ⟨G, H, X, Y⟩⟩, ⟨⟨aR, cR⟩, ⟨aK, cK⟩, ⟨aV, cV⟩⟩, ⟨aG, cG⟩, ⟨aH, cH⟩, ⟨aX, cX⟩, ⟨aY, cY⟩⟩ := x
  obtain ⟨⟨⟨k', u', f', s', t', n', p'⟩, o', ⟨R', K', V'⟩, ⟨G', H', X', Y'⟩⟩, ⟨⟨aR', cR'⟩, ⟨aK', cK'⟩, ⟨aV', cV'⟩⟩, ⟨aG', cG'⟩, ⟨aH', cH'⟩, ⟨aX', cX'⟩, ⟨aY', cY'⟩⟩ := y
  simp only at ek ne
  have HCX : Hid (mlC (((k, u, f, s, t, n, p), o, (R, K, V), (G, H, X, Y)), ((aR, cR), (aK, cK), (aV, cV)), (aG, cG), (aH, cH), (aX, cX), (aY, cY)) = [Value.int .i64 k, .int .i64 u, .int .i64 f, .int .i64 s, .int .i64 t, .int .i64 n, .int .i64 p, .int .i64 o.1, .int .i64 o.2.1, .int .i64 o.2.2.1.1, .int .i64 o.2.2.1.2.1, .int .i64 o.2.2.1.2.2, .int .i64 o.2.2.2.1, .int .i64 o.2.2.2.2, .slice aR R.length cR, .slice aK K.length cK, .slice aV V.length cV, .slice aG G.length cG, .slice aH H.length cH, .slice aX X.length cX, .slice aY Y.length cY]) := rfl
  have HCY : Hid (mlC (((k', u', f', s', t', n', p'), o', (R', K', V'), (G', H', X', Y')), ((aR', cR'), (aK', cK'), (aV', cV')), (aG', cG'), (aH', cH'), (aX', cX'), (aY', cY')) = [Value.int .i64 k', .int .i64 u', .int .i64 f', .int .i64 s', .int .i64 t', .int .i64 n', .int .i64 p', .int .i64 o'.1, .int .i64 o'.2.1, .int .i64 o'.2.2.1.1, .int .i64 o'.2.2.1.2.1, .int .i64 o'.2.2.1.2.2, .int .i64 o'.2.2.2.1, .int .i64 o'.2.2.2.2, .slice aR' R'.length cR', .slice aK' K'.length cK', .slice aV' V'.length cV', .slice aG' G'.length cG', .slice aH' H'.length cH', .slice aX' X'.length cX', .slice aY' Y'.length cY']) := rfl
  have HX9 := Lib.hid hx
  have HY9 := Lib.hid hy
  show Calls Tryz.prog _ #[.agg (mlC (((k, u, f, s, t, n, p), o, (R, K, V), (G, H, X, Y)), ((aR, cR), (aK, cK), (aV, cV)), (aG, cG), (aH, cH), (aX, cX), (aY, cY))).toArray, .agg (mlC (((k', u', f', s', t', n', p'), o', (R', K', V'), (G', H', X', Y')), ((aR', cR'), (aK', cK'), (aV', cV')), (aG', cG'), (aH', cH'), (aX', cX'), (aY', cY'))).toArray] w _
  generalize mlC (((k, u, f, s, t, n, p), o, (R, K, V), (G, H, X, Y)), ((aR, cR), (aK, cK), (aV, cV)), (aG, cG), (aH, cH), (aX, cX), (aY, cY)) = cx at *
  generalize mlC (((k', u', f', s', t', n', p'), o', (R', K', V'), (G', H', X', Y')), ((aR', cR'), (aK', cK'), (aV', cV')), (aG', cG'), (aH', cH'), (aX', cX'), (aY', cY')) = cy at *
  obtain ⟨W0, hW, hA, hC, hB, -⟩ := laid2 w cx 74 cy 74
  rw [HCX.out] at hA
  rw [HCY.out] at hC
  have HXI := Lib.hid (HX9.out.keep hB)
  have HYI := Lib.hid (HY9.out.keep hB)
  have HB0 := Lib.hid hB
  clear hx hy hB HX9 HY9 HCX HCY
  subst ek
  have x0 := hA.at 0 rfl
  have y0 := hC.at 0 rfl
  have x1 := hA.at 1 rfl
  have y1 := hC.at 1 rfl
  have HE : Hid (sameMl ((k, u, f, s, t, n, p), o, (R, K, V), (G, H, X, Y)) ((k, u', f', s', t', n', p'), o', (R', K', V'), (G', H', X', Y')) = false) := sameMl_no (by intro e; apply ne; simp at e; simp [e])
  have d1 : (u == u') = false := by simpa using ne
  clear ne HXI HYI hA hC
  go_enter Tryz.func83, Tryz.ntmps83
  go_wp2
  go_ret
  exact ⟨ret_bool HE.out.symm, HB0.out⟩
end Go.Proofs.YtljbchkmoekpmadGreat

/- Mail held against mail by the reference: the next two. -/
namespace Go.Proofs.YtljbchkmoekpmadGreat
open Go.ChangeShapes Go.WideShapes Go.ChangeAt Go.RowKit
open Orangery (Pl Mv Vw Dl Ml noVw noDl noMl viewME deltaME ml1E mlsE mlE sameV sameD noOp)


set_option maxHeartbeats 4000000 in
set_option maxRecDepth 100000 in
theorem rsm_f (w : World) (x y : Mm) (hx : MlIn w x) (hy : MlIn w y) (ek : x.1.1.1 = y.1.1.1) (eu : x.1.1.2.1 = y.1.1.2.1) (ne : x.1.1.2.2.1 ≠ y.1.1.2.2.1) :
    Calls Tryz.prog 83 #[x.val, y.val] w fun e w' => e = .returned (.bool (sameMl x.1 y.1)) ∧ Below w.heap.size w w' := by
  obtain ⟨⟨⟨k, u, f, s, t, n, p⟩, o, ⟨R, K, V⟩, ⟨G, H, X, Y⟩⟩, ⟨⟨aR, cR⟩, ⟨aK, cK⟩, ⟨aV, cV⟩⟩, ⟨aG, cG⟩, ⟨aH, cH⟩, ⟨aX, cX⟩, ⟨aY, cY⟩⟩ := x
  obtain ⟨⟨⟨k', u', f', s', t', n', p'⟩, o', ⟨R', K', V'⟩, ⟨G', H', X', Y'⟩⟩, ⟨⟨aR', cR'⟩, ⟨aK', cK'⟩, ⟨aV', cV'⟩⟩, ⟨aG', cG'⟩, ⟨aH', cH'⟩, ⟨aX', cX'⟩, ⟨aY', cY'⟩⟩ := y
  simp only at ek eu ne
  have HCX : Hid (mlC (((k, u, f, s, t, n, p), o, (R, K, V), (G, H, X, Y)), ((aR, cR), (aK, cK), (aV, cV)), (aG, cG), (aH, cH), (aX, cX), (aY, cY)) = [Value.int .i64 k, .int .i64 u, .int .i64 f, .int .i64 s, .int .i64 t, .int .i64 n, .int .i64 p, .int .i64 o.1, .int .i64 o.2.1, .int .i64 o.2.2.1.1, .int .i64 o.2.2.1.2.1, .int .i64 o.2.2.1.2.2, .int .i64 o.2.2.2.1, .int .i64 o.2.2.2.2, .slice aR R.length cR, .slice aK K.length cK, .slice aV V.length cV, .slice aG G.length cG, .slice aH H.length cH, .slice aX X.length cX, .slice aY Y.length cY]) := rfl
  have HCY : Hid (mlC (((k', u', f', s', t', n', p'), o', (R', K', V'), (G', H', X', Y')), ((aR', cR'), (aK', cK'), (aV', cV')), (aG', cG'), (aH', cH'), (aX', cX'), (aY', cY')) = [Value.int .i64 k', .int .i64 u', .int .i64 f', .int .i64 s', .int .i64 t', .int .i64 n', .int .i64 p', .int .i64 o'.1, .int .i64 o'.2.1, .int .i64 o'.2.2.1.1, .int .i64 o'.2.2.1.2.1, .int .i64 o'.2.2.1.2.2, .int .i64 o'.2.2.2.1, .int .i64 o'.2.2.2.2, .slice aR' R'.length cR', .slice aK' K'.length cK', .slice aV' V'.length cV', .slice aG' G'.length cG', .slice aH' H'.length cH', .slice aX' X'.length cX', .slice aY' Y'.length cY']) := rfl
  have HX9 := Lib.hid hx
  have HY9 := Lib.hid hy
  show Calls Tryz.prog _ #[.agg (mlC (((k, u, f, s, t, n, p), o, (R, K, V), (G, H, X, Y)), ((aR, cR), (aK, cK), (aV, cV)), (aG, cG), (aH, cH), (aX, cX), (aY, cY))).toArray, .agg (mlC (((k', u', f', s', t', n', p'), o', (R', K', V'), (G', H', X', Y')), ((aR', cR'), (aK', cK'), (aV', cV')), (aG', cG'), (aH', cH'), (aX', cX'), (aY', cY'))).toArray] w _
  generalize mlC (((k, u, f, s, t, n, p), o, (R, K, V), (G, H, X, Y)), ((aR, cR), (aK, cK), (aV, cV)), (aG, cG), (aH, cH), (aX, cX), (aY, cY)) = cx at *
  generalize mlC (((k', u', f', s', t', n', p'), o', (R', K', V'), (G', H', X', Y')), ((aR', cR'), (aK', cK'), (aV', cV')), (aG', cG'), (aH', cH'), (aX', cX'), (aY', cY')) = cy at *
  obtain ⟨W0, hW, hA, hC, hB, -⟩ := laid2 w cx 74 cy 74
  rw [HCX.out] at hA
  rw [HCY.out] at hC
  have HXI := Lib.hid (HX9.out.keep hB)
  have HYI := Lib.hid (HY9.out.keep hB)
  have HB0 := Lib.hid hB
  clear hx hy hB HX9 HY9 HCX HCY
  subst ek eu
  have x0 := hA.at 0 rfl
  have y0 := hC.at 0 rfl
  have x1 := hA.at 1 rfl
  have y1 := hC.at 1 rfl
  have x2 := hA.at 2 rfl
  have y2 := hC.at 2 rfl
  have HE : Hid (sameMl ((k, u, f, s, t, n, p), o, (R, K, V), (G, H, X, Y)) ((k, u, f', s', t', n', p'), o', (R', K', V'), (G', H', X', Y')) = false) := sameMl_no (by intro e; apply ne; simp at e; simp [e])
  have d1 : (f == f') = false := by simpa using ne
  clear ne HXI HYI hA hC
  go_enter Tryz.func83, Tryz.ntmps83
  go_wp2
  go_ret
  exact ⟨ret_bool HE.out.symm, HB0.out⟩

set_option maxHeartbeats 4000000 in
set_option maxRecDepth 100000 in
theorem rsm_s (w : World) (x y : Mm) (hx : MlIn w x) (hy : MlIn w y) (ek : x.1.1.1 = y.1.1.1) (eu : x.1.1.2.1 = y.1.1.2.1) (ef : x.1.1.2.2.1 = y.1.1.2.2.1) (ne : x.1.1.2.2.2.1 ≠ y.1.1.2.2.2.1) :
    Calls Tryz.prog 83 #[x.val, y.val] w fun e w' => e = .returned (.bool (sameMl x.1 y.1)) ∧ Below w.heap.size w w' := by
  obtain ⟨⟨⟨k, u, f, s, t, n, p⟩, o, ⟨R, K, V⟩, ⟨G, H, X, Y⟩⟩, ⟨⟨aR, cR⟩, ⟨aK, cK⟩, ⟨aV, cV⟩⟩, ⟨aG, cG⟩, ⟨aH, cH⟩, ⟨aX, cX⟩, ⟨aY, cY⟩⟩ := x
  obtain ⟨⟨⟨k', u', f', s', t', n', p'⟩, o', ⟨R', K', V'⟩, ⟨G', H', X', Y'⟩⟩, ⟨⟨aR', cR'⟩, ⟨aK', cK'⟩, ⟨aV', cV'⟩⟩, ⟨aG', cG'⟩, ⟨aH', cH'⟩, ⟨aX', cX'⟩, ⟨aY', cY'⟩⟩ := y
  simp only at ek eu ef ne
  have HCX : Hid (mlC (((k, u, f, s, t, n, p), o, (R, K, V), (G, H, X, Y)), ((aR, cR), (aK, cK), (aV, cV)), (aG, cG), (aH, cH), (aX, cX), (aY, cY)) = [Value.int .i64 k, .int .i64 u, .int .i64 f, .int .i64 s, .int .i64 t, .int .i64 n, .int .i64 p, .int .i64 o.1, .int .i64 o.2.1, .int .i64 o.2.2.1.1, .int .i64 o.2.2.1.2.1, .int .i64 o.2.2.1.2.2, .int .i64 o.2.2.2.1, .int .i64 o.2.2.2.2, .slice aR R.length cR, .slice aK K.length cK, .slice aV V.length cV, .slice aG G.length cG, .slice aH H.length cH, .slice aX X.length cX, .slice aY Y.length cY]) := rfl
  have HCY : Hid (mlC (((k', u', f', s', t', n', p'), o', (R', K', V'), (G', H', X', Y')), ((aR', cR'), (aK', cK'), (aV', cV')), (aG', cG'), (aH', cH'), (aX', cX'), (aY', cY')) = [Value.int .i64 k', .int .i64 u', .int .i64 f', .int .i64 s', .int .i64 t', .int .i64 n', .int .i64 p', .int .i64 o'.1, .int .i64 o'.2.1, .int .i64 o'.2.2.1.1, .int .i64 o'.2.2.1.2.1, .int .i64 o'.2.2.1.2.2, .int .i64 o'.2.2.2.1, .int .i64 o'.2.2.2.2, .slice aR' R'.length cR', .slice aK' K'.length cK', .slice aV' V'.length cV', .slice aG' G'.length cG', .slice aH' H'.length cH', .slice aX' X'.length cX', .slice aY' Y'.length cY']) := rfl
  have HX9 := Lib.hid hx
  have HY9 := Lib.hid hy
  show Calls Tryz.prog _ #[.agg (mlC (((k, u, f, s, t, n, p), o, (R, K, V), (G, H, X, Y)), ((aR, cR), (aK, cK), (aV, cV)), (aG, cG), (aH, cH), (aX, cX), (aY, cY))).toArray, .agg (mlC (((k', u', f', s', t', n', p'), o', (R', K', V'), (G', H', X', Y')), ((aR', cR'), (aK', cK'), (aV', cV')), (aG', cG'), (aH', cH'), (aX', cX'), (aY', cY'))).toArray] w _
  generalize mlC (((k, u, f, s, t, n, p), o, (R, K, V), (G, H, X, Y)), ((aR, cR), (aK, cK), (aV, cV)), (aG, cG), (aH, cH), (aX, cX), (aY, cY)) = cx at *
  generalize mlC (((k', u', f', s', t', n', p'), o', (R', K', V'), (G', H', X', Y')), ((aR', cR'), (aK', cK'), (aV', cV')), (aG', cG'), (aH', cH'), (aX', cX'), (aY', cY')) = cy at *
  obtain ⟨W0, hW, hA, hC, hB, -⟩ := laid2 w cx 74 cy 74
  rw [HCX.out] at hA
  rw [HCY.out] at hC
  have HXI := Lib.hid (HX9.out.keep hB)
  have HYI := Lib.hid (HY9.out.keep hB)
  have HB0 := Lib.hid hB
  clear hx hy hB HX9 HY9 HCX HCY
  subst ek eu ef
  have x0 := hA.at 0 rfl
  have y0 := hC.at 0 rfl
  have x1 := hA.at 1 rfl
  have y1 := hC.at 1 rfl
  have x2 := hA.at 2 rfl
  have y2 := hC.at 2 rfl
  have x3 := hA.at 3 rfl
  have y3 := hC.at 3 rfl
  have HE : Hid (sameMl ((k, u, f, s, t, n, p), o, (R, K, V), (G, H, X, Y)) ((k, u, f, s', t', n', p'), o', (R', K', V'), (G', H', X', Y')) = false) := sameMl_no (by intro e; apply ne; simp at e; simp [e])
  have d1 : (s == s') = false := by simpa using ne
  clear ne HXI HYI hA hC
  go_enter Tryz.func83, Tryz.ntmps83
  go_wp2
  go_ret
  exact ⟨ret_bool HE.out.symm, HB0.out⟩
end Go.Proofs.YtljbchkmoekpmadGreat

/- Mail held against mail by the reference: time and version. -/
namespace Go.Proofs.YtljbchkmoekpmadGreat
open Go.ChangeShapes Go.WideShapes Go.ChangeAt Go.RowKit
open Orangery (Pl Mv Vw Dl Ml noVw noDl noMl viewME deltaME ml1E mlsE mlE sameV sameD noOp)


set_option maxHeartbeats 4000000 in
set_option maxRecDepth 100000 in
theorem rsm_t (w : World) (x y : Mm) (hx : MlIn w x) (hy : MlIn w y) (ek : x.1.1.1 = y.1.1.1) (eu : x.1.1.2.1 = y.1.1.2.1) (ef : x.1.1.2.2.1 = y.1.1.2.2.1) (es : x.1.1.2.2.2.1 = y.1.1.2.2.2.1) (ne : x.1.1.2.2.2.2.1 ≠ y.1.1.2.2.2.2.1) :
    Calls Tryz.prog 83 #[x.val, y.val] w fun e w' => e = .returned (.bool (sameMl x.1 y.1)) ∧ Below w.heap.size w w' := by
  obtain ⟨⟨⟨k, u, f, s, t, n, p⟩, o, ⟨R, K, V⟩, ⟨G, H, X, Y⟩⟩, ⟨⟨aR, cR⟩, ⟨aK, cK⟩, ⟨aV, cV⟩⟩, ⟨aG, cG⟩, ⟨aH, cH⟩, ⟨aX, cX⟩, ⟨aY, cY⟩⟩ := x
  obtain ⟨⟨⟨k', u', f', s', t', n', p'⟩, o', ⟨R', K', V'⟩, ⟨G', H', X', Y'⟩⟩, ⟨⟨aR', cR'⟩, ⟨aK', cK'⟩, ⟨aV', cV'⟩⟩, ⟨aG', cG'⟩, ⟨aH', cH'⟩, ⟨aX', cX'⟩, ⟨aY', cY'⟩⟩ := y
  simp only at ek eu ef es ne
  have HCX : Hid (mlC (((k, u, f, s, t, n, p), o, (R, K, V), (G, H, X, Y)), ((aR, cR), (aK, cK), (aV, cV)), (aG, cG), (aH, cH), (aX, cX), (aY, cY)) = [Value.int .i64 k, .int .i64 u, .int .i64 f, .int .i64 s, .int .i64 t, .int .i64 n, .int .i64 p, .int .i64 o.1, .int .i64 o.2.1, .int .i64 o.2.2.1.1, .int .i64 o.2.2.1.2.1, .int .i64 o.2.2.1.2.2, .int .i64 o.2.2.2.1, .int .i64 o.2.2.2.2, .slice aR R.length cR, .slice aK K.length cK, .slice aV V.length cV, .slice aG G.length cG, .slice aH H.length cH, .slice aX X.length cX, .slice aY Y.length cY]) := rfl
  have HCY : Hid (mlC (((k', u', f', s', t', n', p'), o', (R', K', V'), (G', H', X', Y')), ((aR', cR'), (aK', cK'), (aV', cV')), (aG', cG'), (aH', cH'), (aX', cX'), (aY', cY')) = [Value.int .i64 k', .int .i64 u', .int .i64 f', .int .i64 s', .int .i64 t', .int .i64 n', .int .i64 p', .int .i64 o'.1, .int .i64 o'.2.1, .int .i64 o'.2.2.1.1, .int .i64 o'.2.2.1.2.1, .int .i64 o'.2.2.1.2.2, .int .i64 o'.2.2.2.1, .int .i64 o'.2.2.2.2, .slice aR' R'.length cR', .slice aK' K'.length cK', .slice aV' V'.length cV', .slice aG' G'.length cG', .slice aH' H'.length cH', .slice aX' X'.length cX', .slice aY' Y'.length cY']) := rfl
  have HX9 := Lib.hid hx
  have HY9 := Lib.hid hy
  show Calls Tryz.prog _ #[.agg (mlC (((k, u, f, s, t, n, p), o, (R, K, V), (G, H, X, Y)), ((aR, cR), (aK, cK), (aV, cV)), (aG, cG), (aH, cH), (aX, cX), (aY, cY))).toArray, .agg (mlC (((k', u', f', s', t', n', p'), o', (R', K', V'), (G', H', X', Y')), ((aR', cR'), (aK', cK'), (aV', cV')), (aG', cG'), (aH', cH'), (aX', cX'), (aY', cY'))).toArray] w _
  generalize mlC (((k, u, f, s, t, n, p), o, (R, K, V), (G, H, X, Y)), ((aR, cR), (aK, cK), (aV, cV)), (aG, cG), (aH, cH), (aX, cX), (aY, cY)) = cx at *
  generalize mlC (((k', u', f', s', t', n', p'), o', (R', K', V'), (G', H', X', Y')), ((aR', cR'), (aK', cK'), (aV', cV')), (aG', cG'), (aH', cH'), (aX', cX'), (aY', cY')) = cy at *
  obtain ⟨W0, hW, hA, hC, hB, -⟩ := laid2 w cx 74 cy 74
  rw [HCX.out] at hA
  rw [HCY.out] at hC
  have HXI := Lib.hid (HX9.out.keep hB)
  have HYI := Lib.hid (HY9.out.keep hB)
  have HB0 := Lib.hid hB
  clear hx hy hB HX9 HY9 HCX HCY
  subst ek eu ef es
  have x0 := hA.at 0 rfl
  have y0 := hC.at 0 rfl
  have x1 := hA.at 1 rfl
  have y1 := hC.at 1 rfl
  have x2 := hA.at 2 rfl
  have y2 := hC.at 2 rfl
  have x3 := hA.at 3 rfl
  have y3 := hC.at 3 rfl
  have x4 := hA.at 4 rfl
  have y4 := hC.at 4 rfl
  have HE : Hid (sameMl ((k, u, f, s, t, n, p), o, (R, K, V), (G, H, X, Y)) ((k, u, f, s, t', n', p'), o', (R', K', V'), (G', H', X', Y')) = false) := sameMl_no (by intro e; apply ne; simp at e; simp [e])
  have d1 : (t == t') = false := by simpa using ne
  clear ne HXI HYI hA hC
  go_enter Tryz.func83, Tryz.ntmps83
  go_wp2
  go_ret
  exact ⟨ret_bool HE.out.symm, HB0.out⟩

set_option maxHeartbeats 4000000 in
set_option maxRecDepth 100000 in
theorem rsm_n (w : World) (x y : Mm) (hx : MlIn w x) (hy : MlIn w y) (ek : x.1.1.1 = y.1.1.1) (eu : x.1.1.2.1 = y.1.1.2.1) (ef : x.1.1.2.2.1 = y.1.1.2.2.1) (es : x.1.1.2.2.2.1 = y.1.1.2.2.2.1) (et : x.1.1.2.2.2.2.1 = y.1.1.2.2.2.2.1) (ne : x.1.1.2.2.2.2.2.1 ≠ y.1.1.2.2.2.2.2.1) :
    Calls Tryz.prog 83 #[x.val, y.val] w fun e w' => e = .returned (.bool (sameMl x.1 y.1)) ∧ Below w.heap.size w w' := by
  obtain ⟨⟨⟨k, u, f, s, t, n, p⟩, o, ⟨R, K, V⟩, ⟨G, H, X, Y⟩⟩, ⟨⟨aR, cR⟩, ⟨aK, cK⟩, ⟨aV, cV⟩⟩, ⟨aG, cG⟩, ⟨aH, cH⟩, ⟨aX, cX⟩, ⟨aY, cY⟩⟩ := x
  obtain ⟨⟨⟨k', u', f', s', t', n', p'⟩, o', ⟨R', K', V'⟩, ⟨G', H', X', Y'⟩⟩, ⟨⟨aR', cR'⟩, ⟨aK', cK'⟩, ⟨aV', cV'⟩⟩, ⟨aG', cG'⟩, ⟨aH', cH'⟩, ⟨aX', cX'⟩, ⟨aY', cY'⟩⟩ := y
  simp only at ek eu ef es et ne
  have HCX : Hid (mlC (((k, u, f, s, t, n, p), o, (R, K, V), (G, H, X, Y)), ((aR, cR), (aK, cK), (aV, cV)), (aG, cG), (aH, cH), (aX, cX), (aY, cY)) = [Value.int .i64 k, .int .i64 u, .int .i64 f, .int .i64 s, .int .i64 t, .int .i64 n, .int .i64 p, .int .i64 o.1, .int .i64 o.2.1, .int .i64 o.2.2.1.1, .int .i64 o.2.2.1.2.1, .int .i64 o.2.2.1.2.2, .int .i64 o.2.2.2.1, .int .i64 o.2.2.2.2, .slice aR R.length cR, .slice aK K.length cK, .slice aV V.length cV, .slice aG G.length cG, .slice aH H.length cH, .slice aX X.length cX, .slice aY Y.length cY]) := rfl
  have HCY : Hid (mlC (((k', u', f', s', t', n', p'), o', (R', K', V'), (G', H', X', Y')), ((aR', cR'), (aK', cK'), (aV', cV')), (aG', cG'), (aH', cH'), (aX', cX'), (aY', cY')) = [Value.int .i64 k', .int .i64 u', .int .i64 f', .int .i64 s', .int .i64 t', .int .i64 n', .int .i64 p', .int .i64 o'.1, .int .i64 o'.2.1, .int .i64 o'.2.2.1.1, .int .i64 o'.2.2.1.2.1, .int .i64 o'.2.2.1.2.2, .int .i64 o'.2.2.2.1, .int .i64 o'.2.2.2.2, .slice aR' R'.length cR', .slice aK' K'.length cK', .slice aV' V'.length cV', .slice aG' G'.length cG', .slice aH' H'.length cH', .slice aX' X'.length cX', .slice aY' Y'.length cY']) := rfl
  have HX9 := Lib.hid hx
  have HY9 := Lib.hid hy
  show Calls Tryz.prog _ #[.agg (mlC (((k, u, f, s, t, n, p), o, (R, K, V), (G, H, X, Y)), ((aR, cR), (aK, cK), (aV, cV)), (aG, cG), (aH, cH), (aX, cX), (aY, cY))).toArray, .agg (mlC (((k', u', f', s', t', n', p'), o', (R', K', V'), (G', H', X', Y')), ((aR', cR'), (aK', cK'), (aV', cV')), (aG', cG'), (aH', cH'), (aX', cX'), (aY', cY'))).toArray] w _
  generalize mlC (((k, u, f, s, t, n, p), o, (R, K, V), (G, H, X, Y)), ((aR, cR), (aK, cK), (aV, cV)), (aG, cG), (aH, cH), (aX, cX), (aY, cY)) = cx at *
  generalize mlC (((k', u', f', s', t', n', p'), o', (R', K', V'), (G', H', X', Y')), ((aR', cR'), (aK', cK'), (aV', cV')), (aG', cG'), (aH', cH'), (aX', cX'), (aY', cY')) = cy at *
  obtain ⟨W0, hW, hA, hC, hB, -⟩ := laid2 w cx 74 cy 74
  rw [HCX.out] at hA
  rw [HCY.out] at hC
  have HXI := Lib.hid (HX9.out.keep hB)
  have HYI := Lib.hid (HY9.out.keep hB)
  have HB0 := Lib.hid hB
  clear hx hy hB HX9 HY9 HCX HCY
  subst ek eu ef es et
  have x0 := hA.at 0 rfl
  have y0 := hC.at 0 rfl
  have x1 := hA.at 1 rfl
  have y1 := hC.at 1 rfl
  have x2 := hA.at 2 rfl
  have y2 := hC.at 2 rfl
  have x3 := hA.at 3 rfl
  have y3 := hC.at 3 rfl
  have x4 := hA.at 4 rfl
  have y4 := hC.at 4 rfl
  have x5 := hA.at 5 rfl
  have y5 := hC.at 5 rfl
  have HE : Hid (sameMl ((k, u, f, s, t, n, p), o, (R, K, V), (G, H, X, Y)) ((k, u, f, s, t, n', p'), o', (R', K', V'), (G', H', X', Y')) = false) := sameMl_no (by intro e; apply ne; simp at e; simp [e])
  have d1 : (n == n') = false := by simpa using ne
  clear ne HXI HYI hA hC
  go_enter Tryz.func83, Tryz.ntmps83
  go_wp2
  go_ret
  exact ⟨ret_bool HE.out.symm, HB0.out⟩
end Go.Proofs.YtljbchkmoekpmadGreat

/- Mail held against mail by the reference: from, and the operation. -/
namespace Go.Proofs.YtljbchkmoekpmadGreat
open Go.ChangeShapes Go.WideShapes Go.ChangeAt Go.RowKit
open Orangery (Pl Mv Vw Dl Ml noVw noDl noMl viewME deltaME ml1E mlsE mlE sameV sameD noOp)


set_option maxHeartbeats 4000000 in
set_option maxRecDepth 100000 in
theorem rsm_p (w : World) (x y : Mm) (hx : MlIn w x) (hy : MlIn w y) (ek : x.1.1.1 = y.1.1.1) (eu : x.1.1.2.1 = y.1.1.2.1) (ef : x.1.1.2.2.1 = y.1.1.2.2.1) (es : x.1.1.2.2.2.1 = y.1.1.2.2.2.1) (et : x.1.1.2.2.2.2.1 = y.1.1.2.2.2.2.1) (en : x.1.1.2.2.2.2.2.1 = y.1.1.2.2.2.2.2.1) (ne : x.1.1.2.2.2.2.2.2 ≠ y.1.1.2.2.2.2.2.2) :
    Calls Tryz.prog 83 #[x.val, y.val] w fun e w' => e = .returned (.bool (sameMl x.1 y.1)) ∧ Below w.heap.size w w' := by
  obtain ⟨⟨⟨k, u, f, s, t, n, p⟩, o, ⟨R, K, V⟩, ⟨G, H, X, Y⟩⟩, ⟨⟨aR, cR⟩, ⟨aK, cK⟩, ⟨aV, cV⟩⟩, ⟨aG, cG⟩, ⟨aH, cH⟩, ⟨aX, cX⟩, ⟨aY, cY⟩⟩ := x
  obtain ⟨⟨⟨k', u', f', s', t', n', p'⟩, o', ⟨R', K', V'⟩, ⟨G', H', X', Y'⟩⟩, ⟨⟨aR', cR'⟩, ⟨aK', cK'⟩, ⟨aV', cV'⟩⟩, ⟨aG', cG'⟩, ⟨aH', cH'⟩, ⟨aX', cX'⟩, ⟨aY', cY'⟩⟩ := y
  simp only at ek eu ef es et en ne
  have HCX : Hid (mlC (((k, u, f, s, t, n, p), o, (R, K, V), (G, H, X, Y)), ((aR, cR), (aK, cK), (aV, cV)), (aG, cG), (aH, cH), (aX, cX), (aY, cY)) = [Value.int .i64 k, .int .i64 u, .int .i64 f, .int .i64 s, .int .i64 t, .int .i64 n, .int .i64 p, .int .i64 o.1, .int .i64 o.2.1, .int .i64 o.2.2.1.1, .int .i64 o.2.2.1.2.1, .int .i64 o.2.2.1.2.2, .int .i64 o.2.2.2.1, .int .i64 o.2.2.2.2, .slice aR R.length cR, .slice aK K.length cK, .slice aV V.length cV, .slice aG G.length cG, .slice aH H.length cH, .slice aX X.length cX, .slice aY Y.length cY]) := rfl
  have HCY : Hid (mlC (((k', u', f', s', t', n', p'), o', (R', K', V'), (G', H', X', Y')), ((aR', cR'), (aK', cK'), (aV', cV')), (aG', cG'), (aH', cH'), (aX', cX'), (aY', cY')) = [Value.int .i64 k', .int .i64 u', .int .i64 f', .int .i64 s', .int .i64 t', .int .i64 n', .int .i64 p', .int .i64 o'.1, .int .i64 o'.2.1, .int .i64 o'.2.2.1.1, .int .i64 o'.2.2.1.2.1, .int .i64 o'.2.2.1.2.2, .int .i64 o'.2.2.2.1, .int .i64 o'.2.2.2.2, .slice aR' R'.length cR', .slice aK' K'.length cK', .slice aV' V'.length cV', .slice aG' G'.length cG', .slice aH' H'.length cH', .slice aX' X'.length cX', .slice aY' Y'.length cY']) := rfl
  have HX9 := Lib.hid hx
  have HY9 := Lib.hid hy
  show Calls Tryz.prog _ #[.agg (mlC (((k, u, f, s, t, n, p), o, (R, K, V), (G, H, X, Y)), ((aR, cR), (aK, cK), (aV, cV)), (aG, cG), (aH, cH), (aX, cX), (aY, cY))).toArray, .agg (mlC (((k', u', f', s', t', n', p'), o', (R', K', V'), (G', H', X', Y')), ((aR', cR'), (aK', cK'), (aV', cV')), (aG', cG'), (aH', cH'), (aX', cX'), (aY', cY'))).toArray] w _
  generalize mlC (((k, u, f, s, t, n, p), o, (R, K, V), (G, H, X, Y)), ((aR, cR), (aK, cK), (aV, cV)), (aG, cG), (aH, cH), (aX, cX), (aY, cY)) = cx at *
  generalize mlC (((k', u', f', s', t', n', p'), o', (R', K', V'), (G', H', X', Y')), ((aR', cR'), (aK', cK'), (aV', cV')), (aG', cG'), (aH', cH'), (aX', cX'), (aY', cY')) = cy at *
  obtain ⟨W0, hW, hA, hC, hB, -⟩ := laid2 w cx 74 cy 74
  rw [HCX.out] at hA
  rw [HCY.out] at hC
  have HXI := Lib.hid (HX9.out.keep hB)
  have HYI := Lib.hid (HY9.out.keep hB)
  have HB0 := Lib.hid hB
  clear hx hy hB HX9 HY9 HCX HCY
  subst ek eu ef es et en
  have x0 := hA.at 0 rfl
  have y0 := hC.at 0 rfl
  have x1 := hA.at 1 rfl
  have y1 := hC.at 1 rfl
  have x2 := hA.at 2 rfl
  have y2 := hC.at 2 rfl
  have x3 := hA.at 3 rfl
  have y3 := hC.at 3 rfl
  have x4 := hA.at 4 rfl
  have y4 := hC.at 4 rfl
  have x5 := hA.at 5 rfl
  have y5 := hC.at 5 rfl
  have x6 := hA.at 6 rfl
  have y6 := hC.at 6 rfl
  have HE : Hid (sameMl ((k, u, f, s, t, n, p), o, (R, K, V), (G, H, X, Y)) ((k, u, f, s, t, n, p'), o', (R', K', V'), (G', H', X', Y')) = false) := sameMl_no (by intro e; apply ne; simp at e; simp [e])
  have d1 : (p == p') = false := by simpa using ne
  clear ne HXI HYI hA hC
  go_enter Tryz.func83, Tryz.ntmps83
  go_wp2
  go_ret
  exact ⟨ret_bool HE.out.symm, HB0.out⟩

set_option maxHeartbeats 4000000 in
set_option maxRecDepth 100000 in
theorem rsm_o (w : World) (x y : Mm) (hx : MlIn w x) (hy : MlIn w y) (ek : x.1.1.1 = y.1.1.1) (eu : x.1.1.2.1 = y.1.1.2.1) (ef : x.1.1.2.2.1 = y.1.1.2.2.1) (es : x.1.1.2.2.2.1 = y.1.1.2.2.2.1) (et : x.1.1.2.2.2.2.1 = y.1.1.2.2.2.2.1) (en : x.1.1.2.2.2.2.2.1 = y.1.1.2.2.2.2.2.1) (ep : x.1.1.2.2.2.2.2.2 = y.1.1.2.2.2.2.2.2) (ne : x.1.2.1 ≠ y.1.2.1) :
    Calls Tryz.prog 83 #[x.val, y.val] w fun e w' => e = .returned (.bool (sameMl x.1 y.1)) ∧ Below w.heap.size w w' := by
  obtain ⟨⟨⟨k, u, f, s, t, n, p⟩, o, ⟨R, K, V⟩, ⟨G, H, X, Y⟩⟩, ⟨⟨aR, cR⟩, ⟨aK, cK⟩, ⟨aV, cV⟩⟩, ⟨aG, cG⟩, ⟨aH, cH⟩, ⟨aX, cX⟩, ⟨aY, cY⟩⟩ := x
  obtain ⟨⟨⟨k', u', f', s', t', n', p'⟩, o', ⟨R', K', V'⟩, ⟨G', H', X', Y'⟩⟩, ⟨⟨aR', cR'⟩, ⟨aK', cK'⟩, ⟨aV', cV'⟩⟩, ⟨aG', cG'⟩, ⟨aH', cH'⟩, ⟨aX', cX'⟩, ⟨aY', cY'⟩⟩ := y
  simp only at ek eu ef es et en ep ne
  have HCX : Hid (mlC (((k, u, f, s, t, n, p), o, (R, K, V), (G, H, X, Y)), ((aR, cR), (aK, cK), (aV, cV)), (aG, cG), (aH, cH), (aX, cX), (aY, cY)) = [Value.int .i64 k, .int .i64 u, .int .i64 f, .int .i64 s, .int .i64 t, .int .i64 n, .int .i64 p, .int .i64 o.1, .int .i64 o.2.1, .int .i64 o.2.2.1.1, .int .i64 o.2.2.1.2.1, .int .i64 o.2.2.1.2.2, .int .i64 o.2.2.2.1, .int .i64 o.2.2.2.2, .slice aR R.length cR, .slice aK K.length cK, .slice aV V.length cV, .slice aG G.length cG, .slice aH H.length cH, .slice aX X.length cX, .slice aY Y.length cY]) := rfl
  have HCY : Hid (mlC (((k', u', f', s', t', n', p'), o', (R', K', V'), (G', H', X', Y')), ((aR', cR'), (aK', cK'), (aV', cV')), (aG', cG'), (aH', cH'), (aX', cX'), (aY', cY')) = [Value.int .i64 k', .int .i64 u', .int .i64 f', .int .i64 s', .int .i64 t', .int .i64 n', .int .i64 p', .int .i64 o'.1, .int .i64 o'.2.1, .int .i64 o'.2.2.1.1, .int .i64 o'.2.2.1.2.1, .int .i64 o'.2.2.1.2.2, .int .i64 o'.2.2.2.1, .int .i64 o'.2.2.2.2, .slice aR' R'.length cR', .slice aK' K'.length cK', .slice aV' V'.length cV', .slice aG' G'.length cG', .slice aH' H'.length cH', .slice aX' X'.length cX', .slice aY' Y'.length cY']) := rfl
  have HX9 := Lib.hid hx
  have HY9 := Lib.hid hy
  show Calls Tryz.prog _ #[.agg (mlC (((k, u, f, s, t, n, p), o, (R, K, V), (G, H, X, Y)), ((aR, cR), (aK, cK), (aV, cV)), (aG, cG), (aH, cH), (aX, cX), (aY, cY))).toArray, .agg (mlC (((k', u', f', s', t', n', p'), o', (R', K', V'), (G', H', X', Y')), ((aR', cR'), (aK', cK'), (aV', cV')), (aG', cG'), (aH', cH'), (aX', cX'), (aY', cY'))).toArray] w _
  generalize mlC (((k, u, f, s, t, n, p), o, (R, K, V), (G, H, X, Y)), ((aR, cR), (aK, cK), (aV, cV)), (aG, cG), (aH, cH), (aX, cX), (aY, cY)) = cx at *
  generalize mlC (((k', u', f', s', t', n', p'), o', (R', K', V'), (G', H', X', Y')), ((aR', cR'), (aK', cK'), (aV', cV')), (aG', cG'), (aH', cH'), (aX', cX'), (aY', cY')) = cy at *
  obtain ⟨W0, hW, hA, hC, hB, -⟩ := laid2 w cx 74 cy 74
  rw [HCX.out] at hA
  rw [HCY.out] at hC
  have HXI := Lib.hid (HX9.out.keep hB)
  have HYI := Lib.hid (HY9.out.keep hB)
  have HB0 := Lib.hid hB
  clear hx hy hB HX9 HY9 HCX HCY
  subst ek eu ef es et en ep
  have x0 := hA.at 0 rfl
  have y0 := hC.at 0 rfl
  have x1 := hA.at 1 rfl
  have y1 := hC.at 1 rfl
  have x2 := hA.at 2 rfl
  have y2 := hC.at 2 rfl
  have x3 := hA.at 3 rfl
  have y3 := hC.at 3 rfl
  have x4 := hA.at 4 rfl
  have y4 := hC.at 4 rfl
  have x5 := hA.at 5 rfl
  have y5 := hC.at 5 rfl
  have x6 := hA.at 6 rfl
  have y6 := hC.at 6 rfl
  have x7 := hA.at 7 rfl
  have y7 := hC.at 7 rfl
  have x8 := hA.at 8 rfl
  have y8 := hC.at 8 rfl
  have x9 := hA.at 9 rfl
  have y9 := hC.at 9 rfl
  have x10 := hA.at 10 rfl
  have y10 := hC.at 10 rfl
  have x11 := hA.at 11 rfl
  have y11 := hC.at 11 rfl
  have x12 := hA.at 12 rfl
  have y12 := hC.at 12 rfl
  have x13 := hA.at 13 rfl
  have y13 := hC.at 13 rfl
  have HE : Hid (sameMl ((k, u, f, s, t, n, p), o, (R, K, V), (G, H, X, Y)) ((k, u, f, s, t, n, p), o', (R', K', V'), (G', H', X', Y')) = false) := sameMl_no (by intro e; apply ne; simp at e; simp [e])
  have hq := run_eql_opg o o'
  have hgd := guard_op
  have do1 : decide (o = o') = false := by simpa using ne
  clear ne HXI HYI hA hC
  go_enter Tryz.func83, Tryz.ntmps83
  go_wp2
  go_ret
  exact ⟨ret_bool HE.out.symm, HB0.out⟩
end Go.Proofs.YtljbchkmoekpmadGreat

/- Mail held against mail by the reference: its view and delta. -/
namespace Go.Proofs.YtljbchkmoekpmadGreat
open Go.ChangeShapes Go.WideShapes Go.ChangeAt Go.RowKit
open Orangery (Pl Mv Vw Dl Ml noVw noDl noMl viewME deltaME ml1E mlsE mlE sameV sameD noOp)


theorem sameMl_delta {a : Int × Int × Int × Int × Int × Int × Int} {o : Mv} {v : Vw} {G G' : List Int} {H H' : List Pl} {X X' : List Int} {Y Y' : List Pl} : sameMl (a, o, v, (G, H, X, Y)) (a, o, v, (G', H', X', Y')) = sameD G G' H H' X X' Y Y' := by
  rw [Bool.eq_iff_iff, sameMl_iff]
  simp [sameD, and_assoc]

set_option maxHeartbeats 4000000 in
set_option maxRecDepth 100000 in
theorem rsm_rest (w : World) (x y : Mm) (hx : MlIn w x) (hy : MlIn w y) (ek : x.1.1.1 = y.1.1.1) (eu : x.1.1.2.1 = y.1.1.2.1) (ef : x.1.1.2.2.1 = y.1.1.2.2.1) (es : x.1.1.2.2.2.1 = y.1.1.2.2.2.1) (et : x.1.1.2.2.2.2.1 = y.1.1.2.2.2.2.1) (en : x.1.1.2.2.2.2.2.1 = y.1.1.2.2.2.2.2.1) (ep : x.1.1.2.2.2.2.2.2 = y.1.1.2.2.2.2.2.2) (eo : x.1.2.1 = y.1.2.1) :
    Calls Tryz.prog 83 #[x.val, y.val] w fun e w' => e = .returned (.bool (sameMl x.1 y.1)) ∧ Below w.heap.size w w' := by
  obtain ⟨⟨⟨k, u, f, s, t, n, p⟩, o, ⟨R, K, V⟩, ⟨G, H, X, Y⟩⟩, ⟨⟨aR, cR⟩, ⟨aK, cK⟩, ⟨aV, cV⟩⟩, ⟨aG, cG⟩, ⟨aH, cH⟩, ⟨aX, cX⟩, ⟨aY, cY⟩⟩ := x
  obtain ⟨⟨⟨k', u', f', s', t', n', p'⟩, o', ⟨R', K', V'⟩, ⟨G', H', X', Y'⟩⟩, ⟨⟨aR', cR'⟩, ⟨aK', cK'⟩, ⟨aV', cV'⟩⟩, ⟨aG', cG'⟩, ⟨aH', cH'⟩, ⟨aX', cX'⟩, ⟨aY', cY'⟩⟩ := y
  simp only at ek eu ef es et en ep eo
  have HCX : Hid (mlC (((k, u, f, s, t, n, p), o, (R, K, V), (G, H, X, Y)), ((aR, cR), (aK, cK), (aV, cV)), (aG, cG), (aH, cH), (aX, cX), (aY, cY)) = [Value.int .i64 k, .int .i64 u, .int .i64 f, .int .i64 s, .int .i64 t, .int .i64 n, .int .i64 p, .int .i64 o.1, .int .i64 o.2.1, .int .i64 o.2.2.1.1, .int .i64 o.2.2.1.2.1, .int .i64 o.2.2.1.2.2, .int .i64 o.2.2.2.1, .int .i64 o.2.2.2.2, .slice aR R.length cR, .slice aK K.length cK, .slice aV V.length cV, .slice aG G.length cG, .slice aH H.length cH, .slice aX X.length cX, .slice aY Y.length cY]) := rfl
  have HCY : Hid (mlC (((k', u', f', s', t', n', p'), o', (R', K', V'), (G', H', X', Y')), ((aR', cR'), (aK', cK'), (aV', cV')), (aG', cG'), (aH', cH'), (aX', cX'), (aY', cY')) = [Value.int .i64 k', .int .i64 u', .int .i64 f', .int .i64 s', .int .i64 t', .int .i64 n', .int .i64 p', .int .i64 o'.1, .int .i64 o'.2.1, .int .i64 o'.2.2.1.1, .int .i64 o'.2.2.1.2.1, .int .i64 o'.2.2.1.2.2, .int .i64 o'.2.2.2.1, .int .i64 o'.2.2.2.2, .slice aR' R'.length cR', .slice aK' K'.length cK', .slice aV' V'.length cV', .slice aG' G'.length cG', .slice aH' H'.length cH', .slice aX' X'.length cX', .slice aY' Y'.length cY']) := rfl
  have HX9 := Lib.hid hx
  have HY9 := Lib.hid hy
  show Calls Tryz.prog _ #[.agg (mlC (((k, u, f, s, t, n, p), o, (R, K, V), (G, H, X, Y)), ((aR, cR), (aK, cK), (aV, cV)), (aG, cG), (aH, cH), (aX, cX), (aY, cY))).toArray, .agg (mlC (((k', u', f', s', t', n', p'), o', (R', K', V'), (G', H', X', Y')), ((aR', cR'), (aK', cK'), (aV', cV')), (aG', cG'), (aH', cH'), (aX', cX'), (aY', cY'))).toArray] w _
  generalize mlC (((k, u, f, s, t, n, p), o, (R, K, V), (G, H, X, Y)), ((aR, cR), (aK, cK), (aV, cV)), (aG, cG), (aH, cH), (aX, cX), (aY, cY)) = cx at *
  generalize mlC (((k', u', f', s', t', n', p'), o', (R', K', V'), (G', H', X', Y')), ((aR', cR'), (aK', cK'), (aV', cV')), (aG', cG'), (aH', cH'), (aX', cX'), (aY', cY')) = cy at *
  obtain ⟨W0, hW, hA, hC, hB, -⟩ := laid2 w cx 74 cy 74
  rw [HCX.out] at hA
  rw [HCY.out] at hC
  have HXI := Lib.hid (HX9.out.keep hB)
  have HYI := Lib.hid (HY9.out.keep hB)
  have HB0 := Lib.hid hB
  clear hx hy hB HX9 HY9 HCX HCY
  subst ek eu ef es et en ep eo
  have x0 := hA.at 0 rfl
  have y0 := hC.at 0 rfl
  have x1 := hA.at 1 rfl
  have y1 := hC.at 1 rfl
  have x2 := hA.at 2 rfl
  have y2 := hC.at 2 rfl
  have x3 := hA.at 3 rfl
  have y3 := hC.at 3 rfl
  have x4 := hA.at 4 rfl
  have y4 := hC.at 4 rfl
  have x5 := hA.at 5 rfl
  have y5 := hC.at 5 rfl
  have x6 := hA.at 6 rfl
  have y6 := hC.at 6 rfl
  have x7 := hA.at 7 rfl
  have y7 := hC.at 7 rfl
  have x8 := hA.at 8 rfl
  have y8 := hC.at 8 rfl
  have x9 := hA.at 9 rfl
  have y9 := hC.at 9 rfl
  have x10 := hA.at 10 rfl
  have y10 := hC.at 10 rfl
  have x11 := hA.at 11 rfl
  have y11 := hC.at 11 rfl
  have x12 := hA.at 12 rfl
  have y12 := hC.at 12 rfl
  have x13 := hA.at 13 rfl
  have y13 := hC.at 13 rfl
  have x14 := hA.at 14 rfl
  have y14 := hC.at 14 rfl
  have x15 := hA.at 15 rfl
  have y15 := hC.at 15 rfl
  have x16 := hA.at 16 rfl
  have y16 := hC.at 16 rfl
  have hq := run_eql_opg o o
  have hgd := guard_op
  have do1 : decide (o = o) = true := by simp
  go_enter Tryz.func83, Tryz.ntmps83
  go_wp2_with fail
  clear hW
  refine (rsameV_any W0 aR aK aV aR' aK' aV' cR cK cV cR' cK' cV' R R' K K' V V' HXI.out.max.1.1 HXI.out.max.1.2.1 HXI.out.max.1.2.2 HXI.out.lr HXI.out.lk HXI.out.lv HYI.out.lr HYI.out.lk HYI.out.lv).mono ?_
  rintro e w1 ⟨rfl, hb1⟩
  have HB1 := Lib.hid (HB0.out.trans (hb1.mono HB0.out.size))
  have hA1 := hA.keep hb1
  have hC1 := hC.keep hb1
  have HX1 := Lib.hid (HXI.out.keep hb1)
  have HY1 := Lib.hid (HYI.out.keep hb1)
  clear hA hC hb1 HXI HYI hq hgd do1 x0 y0 x1 y1 x2 y2 x3 y3 x4 y4 x5 y5 x6 y6 x7 y7 x8 y8 x9 y9 x10 y10 x11 y11 x12 y12 x13 y13 x14 y14 x15 y15 x16 y16
  by_cases ev : (R, K, V) = (R', K', V')
  case neg =>
    have HE : Hid (sameMl ((k, u, f, s, t, n, p), o, (R, K, V), (G, H, X, Y)) ((k, u, f, s, t, n, p), o, (R', K', V'), (G', H', X', Y')) = false) := sameMl_no (by intro e; apply ev; simp at e; simp [e])
    have hs : sameV R R' K K' V V' = false := by
      cases hq : sameV R R' K K' V V'
      · rfl
      · exfalso; apply ev; simp [sameV, and_assoc] at hq; simp [hq]
    rw [hs]
    clear ev hs hA1 hC1 HX1 HY1
    go_wp2
    go_ret
    exact ⟨ret_bool HE.out.symm, HB1.out⟩
  simp only [Prod.mk.injEq] at ev
  obtain ⟨rfl, rfl, rfl⟩ := ev
  have hs : sameV R R K K V V = true := by simp [sameV]
  rw [hs]
  clear hs
  have HE : Hid (sameMl ((k, u, f, s, t, n, p), o, (R, K, V), (G, H, X, Y)) ((k, u, f, s, t, n, p), o, (R, K, V), (G', H', X', Y')) = sameD G G' H H' X X' Y Y') := sameMl_delta
  have x17 := hA1.at 17 rfl
  have y17 := hC1.at 17 rfl
  have x18 := hA1.at 18 rfl
  have y18 := hC1.at 18 rfl
  have x19 := hA1.at 19 rfl
  have y19 := hC1.at 19 rfl
  have x20 := hA1.at 20 rfl
  have y20 := hC1.at 20 rfl
  go_wp2_with fail
  refine (rsameD_any w1 aG aH aX aY aG' aH' aX' aY' cG cH cX cY cG' cH' cX' cY' G G' H H' X X' Y Y' HX1.out.max.2 HX1.out.lg HX1.out.lh HX1.out.lx HX1.out.ly HY1.out.lg HY1.out.lh HY1.out.lx HY1.out.ly).mono ?_
  rintro e w2 ⟨rfl, hb2⟩
  have HB2 := Lib.hid (HB1.out.trans (hb2.mono HB1.out.size))
  clear hb2 HB1 hA1 hC1 HX1 HY1 x17 x18 x19 x20 y17 y18 y19 y20
  generalize sameD G G' H H' X X' Y Y' = B at *
  go_wp2
  go_ret
  exact ⟨ret_bool HE.out.symm, HB2.out⟩
end Go.Proofs.YtljbchkmoekpmadGreat

