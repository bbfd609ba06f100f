/- 3 texts of the proof: way.used: all zero that a kind has no use for. way.checkOp, checkNews, checkMail. way.checkMail, Check, Same. -/
import Derived.Test.YtijjiccgpobjmaeGreatP15
import Derived.Test.YtijjiccgpobjmaeGreatP17
import Derived.Test.YtijjiccgpobjmaeGreatP09
import Derived.Test.YtijjiccgpobjmaeGreatP10
import Derived.Test.YtijjiccgpobjmaeGreatP07
/- way.used: all zero that a kind has no use for. -/
namespace Go.Proofs.YtijjiccgpobjmaeGreat
open Go.ChangeShapes Go.WideShapes Go.ChangeAt Go.RowKit
open Orangery (Pl Mv Vw Dl Ml noVw noDl noMl noOp)

def nilV : Ad × Ad × Ad := ((none, 0), (none, 0), (none, 0))
def nilD : Ad × Ad × Ad × Ad := ((none, 0), (none, 0), (none, 0), (none, 0))
def useOp (x : Mm) : Mm := (((x.1.1.1, x.1.1.2.1, 0, 0, 0, 0, 0), x.1.2.1, noVw, noDl), nilV, nilD)
def useNo (x : Mm) : Mm := (((x.1.1.1, x.1.1.2.1, x.1.1.2.2.1, x.1.1.2.2.2.1, x.1.1.2.2.2.2.1, x.1.1.2.2.2.2.2.1, 0), noOp, noVw, noDl), nilV, nilD)
def useV (x : Mm) : Mm := (((x.1.1.1, x.1.1.2.1, x.1.1.2.2.1, x.1.1.2.2.2.1, x.1.1.2.2.2.2.1, x.1.1.2.2.2.2.2.1, 0), noOp, x.1.2.2.1, noDl), x.2.1, nilD)
def useD (x : Mm) : Mm := (((x.1.1.1, x.1.1.2.1, x.1.1.2.2.1, x.1.1.2.2.2.1, x.1.1.2.2.2.2.1, x.1.1.2.2.2.2.2.1, x.1.1.2.2.2.2.2.2), noOp, noVw, x.1.2.2.2), nilV, x.2.2)
def usedM (x : Mm) : Mm := if x.1.1.1 = 1 then useOp x else if x.1.1.1 = 2 then useV x else useD x
theorem MlIn.useOp {w : World} {x : Mm} (_h : MlIn w x) : MlIn w (useOp x) :=
  ⟨Or.inl rfl, Or.inl rfl, Or.inl rfl, Or.inl rfl, Or.inl rfl, Or.inl rfl, Or.inl rfl, by simp [Go.Proofs.YtijjiccgpobjmaeGreat.useOp, noVw, noDl], ⟨fun _ => rfl, fun _ => rfl⟩⟩
theorem MlIn.useV {w : World} {x : Mm} (h : MlIn w x) : MlIn w (useV x) :=
  ⟨h.lr, h.lk, h.lv, Or.inl rfl, Or.inl rfl, Or.inl rfl, Or.inl rfl, ⟨h.few.1, h.few.2.1, h.few.2.2.1, by simp [Go.Proofs.YtijjiccgpobjmaeGreat.useV, noDl]⟩, h.nils⟩
theorem MlIn.useD {w : World} {x : Mm} (h : MlIn w x) : MlIn w (useD x) :=
  ⟨Or.inl rfl, Or.inl rfl, Or.inl rfl, h.lg, h.lh, h.lx, h.ly, ⟨by simp [Go.Proofs.YtijjiccgpobjmaeGreat.useD, noVw], by simp [Go.Proofs.YtijjiccgpobjmaeGreat.useD, noVw], by simp [Go.Proofs.YtijjiccgpobjmaeGreat.useD, noVw], h.few.2.2.2⟩, ⟨fun _ => rfl, fun _ => rfl⟩⟩

set_option maxHeartbeats 4000000 in
set_option maxRecDepth 100000 in
theorem wused_op (w : World) (x : Mm) (hx : MlIn w x) (hk : x.1.1.1 = 1) : Calls Tryz.prog 106 #[x.val] w fun e w' => ∃ y : Mm, e = .returned y.val ∧ y = usedM x ∧ MlIn w' y ∧ Below w.heap.size w w' := by
  obtain ⟨cx, hcx⟩ : ∃ c, c = mlC x := ⟨_, rfl⟩
  have HCX : Hid (cx = mlC x) := hcx
  show Calls Tryz.prog _ #[.agg (mlC x).toArray] w _
  rw [← hcx]
  clear hcx
  have HX := Lib.hid hx
  obtain ⟨W0, hW, hA, hC, hB, -⟩ := laid2 w cx 52 [Value.int .i64 0, .int .i64 0, .int .i64 0, .int .i64 0, .int .i64 0, .int .i64 0, .int .i64 0, .int .i64 0, .int .i64 0, .int .i64 0, .int .i64 0, .int .i64 0, .int .i64 0, .int .i64 0, .slice none 0 0, .slice none 0 0, .slice none 0 0, .slice none 0 0, .slice none 0 0, .slice none 0 0, .slice none 0 0] 52
  rw [HCX.out] at hA
  have HC : Hid (Blk W0 (w.heap.size + 1) zeroMail) := hC
  have HB0 := Lib.hid hB
  have HU : Hid (useOp x = usedM x) := by show _ = _; unfold usedM; rw [if_pos hk]
  have d1 : (x.1.1.1 == 1) = true := by simpa using hk
  have x0 := hA.at 0 rfl
  have x1 := hA.at 1 rfl
  have x7 := hA.at 7 rfl
  have x8 := hA.at 8 rfl
  have x9 := hA.at 9 rfl
  have x10 := hA.at 10 rfl
  have x11 := hA.at 11 rfl
  have x12 := hA.at 12 rfl
  have x13 := hA.at 13 rfl
  have HT : Hid (W0.there (w.heap.size + 1) 0 (mlC (useOp x)).toArray.size) := HC.out.there
  have HS : Hid ((Tryz.prog.info? 52).map (·.size) = some (mlC (useOp x)).toArray.size) := sizeMail
  have HO : Hid ((mlC (useOp x)).toArray.all (·.oneCell') = true) := all_oneCell_toArray (mlC_one (useOp x))
  clear hx hk hA hC hB HCX
  go_enter Tryz.func106, Tryz.ntmps106
  go_wp2_with (first | (with_reducible refine at_store 52 ?_; refine wpList_store_mid rfl 52 _ _ rfl (w.heap.size + 1) 0 (mlC (useOp x)).toArray rfl rfl HT.out HS.out HO.out ?_) | fail)
  have hR := HC.out.sets (mlC (useOp x)) rfl
  refine ret_cell Tryz.results106 rfl (hR.load Tryz.underlying52 rfl (sizeMailC (useOp x))) ?_
  have hb := below_sets HB0.out (w.heap.size + 1) (by omega) (mlC (useOp x)) 0
  exact ⟨useOp x, rfl, HU.out, (HX.out.keep hb).useOp, hb⟩

set_option maxHeartbeats 4000000 in
set_option maxRecDepth 100000 in
theorem wused_view (w : World) (x : Mm) (hx : MlIn w x) (hk : x.1.1.1 = 2) : Calls Tryz.prog 106 #[x.val] w fun e w' => ∃ y : Mm, e = .returned y.val ∧ y = usedM x ∧ MlIn w' y ∧ Below w.heap.size w w' := by
  obtain ⟨cx, hcx⟩ : ∃ c, c = mlC x := ⟨_, rfl⟩
  have HCX : Hid (cx = mlC x) := hcx
  show Calls Tryz.prog _ #[.agg (mlC x).toArray] w _
  rw [← hcx]
  clear hcx
  have HX := Lib.hid hx
  obtain ⟨W1, hW, hA, hC, hB, -⟩ := laid2 w cx 52 [Value.int .i64 0, .int .i64 0, .int .i64 0, .int .i64 0, .int .i64 0, .int .i64 0, .int .i64 0, .int .i64 0, .int .i64 0, .int .i64 0, .int .i64 0, .int .i64 0, .int .i64 0, .int .i64 0, .slice none 0 0, .slice none 0 0, .slice none 0 0, .slice none 0 0, .slice none 0 0, .slice none 0 0, .slice none 0 0] 52
  rw [HCX.out] at hA
  have HU : Hid (useV x = usedM x) := by show _ = _; unfold usedM; rw [if_neg (by omega), if_pos hk]
  have d1 : (x.1.1.1 == 1) = false := by simp; omega
  have d2 : (x.1.1.1 == 2) = true := by simp; omega
  have x0 := hA.at 0 rfl
  have x1 := hA.at 1 rfl
  have x2 := hA.at 2 rfl
  have x3 := hA.at 3 rfl
  have x4 := hA.at 4 rfl
  have x5 := hA.at 5 rfl
  obtain ⟨W0, hW0, hE, hB1, -⟩ := laid1 W1 [Value.int .i64 0, .int .i64 0, .int .i64 0, .int .i64 0, .int .i64 0, .int .i64 0, .int .i64 0, .int .i64 0, .int .i64 0, .int .i64 0, .int .i64 0, .int .i64 0, .int .i64 0, .int .i64 0, .slice none 0 0, .slice none 0 0, .slice none 0 0, .slice none 0 0, .slice none 0 0, .slice none 0 0, .slice none 0 0] 52
  have HA : Hid (Blk W0 w.heap.size (mlC x)) := hA.keep hB1
  have HC : Hid (Blk W0 (w.heap.size + 1) zeroMail) := hC.keep hB1
  have HEE : Hid (Blk W0 W1.heap.size zeroMail) := hE
  have HB0 := Lib.hid (hB.trans (hB1.mono hB.size))
  have HGL : Hid (w.heap.size + 1 < W1.heap.size) := hC.lt
  have HT : Hid (W0.there W1.heap.size 0 (mlC (useNo x)).toArray.size) := HEE.out.there
  have HS : Hid ((Tryz.prog.info? 52).map (·.size) = some (mlC (useNo x)).toArray.size) := sizeMail
  have HO : Hid ((mlC (useNo x)).toArray.all (·.oneCell') = true) := all_oneCell_toArray (mlC_one (useNo x))
  obtain ⟨W9, hW9⟩ : ∃ W9, W0.setCells W1.heap.size 0 (mlC (useNo x)) = W9 := ⟨_, rfl⟩
  have HW9 := Lib.hid hW9
  have hA9 : Blk W9 w.heap.size (mlC x) := by rw [← hW9]; exact HA.out.others (by have := HGL.out; omega) _ _
  have HC9 : Hid (Blk W9 (w.heap.size + 1) zeroMail) := by show Blk _ _ _; rw [← hW9]; exact HC.out.others (by have := HGL.out; omega) _ _
  have HE9 : Hid (Blk W9 W1.heap.size (mlC (useNo x))) := by show Blk _ _ _; rw [← hW9]; exact HEE.out.sets (mlC (useNo x)) rfl
  have HB9 : Hid (Below w.heap.size w W9) := by show Below _ _ _; rw [← hW9]; exact below_sets HB0.out W1.heap.size (by have := HGL.out; omega) _ _
  have HA9 := Lib.hid hA9
  have y0 := hA9.at 0 rfl
  clear hx hk hA hC hE hB hB1 HCX hW9 hA9 HA HC HEE HB0
  go_enter Tryz.func106, Tryz.ntmps106
  go_upto_region 3 with fail
  clear hW
  go_cut [3] from 14 to 26 (fun p wc => p = .pointer (some ⟨W1.heap.size, 0, none⟩) ∧ wc = W9)
  case first =>
    go_wp2_with (first | (with_reducible refine at_store 52 ?_; refine wpList_store_mid rfl 52 _ _ rfl W1.heap.size 0 (mlC (useNo x)).toArray rfl rfl HT.out HS.out HO.out ?_; rw [show W0.setCells W1.heap.size 0 (mlC (useNo x)).toArray.toList = W9 from HW9.out]) | fail)
    go_meet
    case rel => exact ⟨rfl, rfl⟩
  case rest =>
  obtain ⟨rfl, hwc⟩ := hcut
  subst hwc
  clear HT HS HO HW9 hW0 x0 x1 x2 x3 x4 x5
  have y14 := HA9.out.at 14 rfl
  have y15 := HA9.out.at 15 rfl
  have y16 := HA9.out.at 16 rfl
  have z14 := HE9.out.at 14 rfl
  have z15 := HE9.out.at 15 rfl
  have z16 := HE9.out.at 16 rfl
  have fz := HE9.out.frz
  have HGL9 : Hid (w.heap.size ≤ W1.heap.size) := by show _ ≤ _; have := HGL.out; omega
  go_upto_region 5 with fail
  obtain ⟨W5, hW5⟩ : ∃ W5, ((wc.setCell ⟨W1.heap.size, 14, none⟩ (.slice x.2.1.1.1 x.1.2.2.1.1.length x.2.1.1.2)).setCell ⟨W1.heap.size, 15, none⟩ (.slice x.2.1.2.1.1 x.1.2.2.1.2.1.length x.2.1.2.1.2)).setCell ⟨W1.heap.size, 16, none⟩ (.slice x.2.1.2.2.1 x.1.2.2.1.2.2.length x.2.1.2.2.2) = W5 := ⟨_, rfl⟩
  have hE5 : Blk W5 W1.heap.size (mlC (useV x)) := by
    rw [← hW5]
    exact ((HE9.out.set 14 (by show _ < 21; decide) (.slice x.2.1.1.1 x.1.2.2.1.1.length x.2.1.1.2)).set 15 (by show _ < 21; decide) (.slice x.2.1.2.1.1 x.1.2.2.1.2.1.length x.2.1.2.1.2)).set 16 (by show _ < 21; decide) (.slice x.2.1.2.2.1 x.1.2.2.1.2.2.length x.2.1.2.2.2)
  have HC5 : Hid (Blk W5 (w.heap.size + 1) zeroMail) := by show Blk _ _ _; rw [← hW5]; have := HGL.out; exact ((HC9.out.other (by omega) _ _).other (by omega) _ _).other (by omega) _ _
  have HB5 : Hid (Below w.heap.size w W5) := by show Below _ _ _; rw [← hW5]; have h9 := HGL9.out; exact ((HB9.out.setCell (by exact h9) _).setCell (by exact h9) _).setCell (by exact h9) _
  have HR5 := Lib.hid hE5.range
  have HT5 : Hid (W5.there (w.heap.size + 1) 0 (mlC (useV x)).toArray.size) := HC5.out.there
  have HS5 : Hid ((Tryz.prog.info? 52).map (·.size) = some (mlC (useV x)).toArray.size) := sizeMail
  have HO5 : Hid ((mlC (useV x)).toArray.all (·.oneCell') = true) := all_oneCell_toArray (mlC_one (useV x))
  clear hE5 HE9 HA9 HC9 HB9 y0
  go_wp2_with (first | (refine wpList_load_mid rfl 52 _ rfl W1.heap.size 0 rfl (mlC (useV x)) _ HR5.out Tryz.underlying52 rfl (sizeMailC (useV x)) ?_) | (with_reducible refine at_store 52 ?_; refine wpList_store_mid rfl 52 _ _ rfl (w.heap.size + 1) 0 (mlC (useV x)).toArray rfl rfl HT5.out HS5.out HO5.out ?_) | fail)
  have hR := HC5.out.sets (mlC (useV x)) rfl
  refine ret_cell Tryz.results106 rfl (hR.load Tryz.underlying52 rfl (sizeMailC (useV x))) ?_
  have hb := below_sets HB5.out (w.heap.size + 1) (by omega) (mlC (useV x)) 0
  exact ⟨useV x, rfl, HU.out, (HX.out.keep hb).useV, hb⟩

set_option maxHeartbeats 4000000 in
set_option maxRecDepth 100000 in
theorem wused_diff (w : World) (x : Mm) (hx : MlIn w x) (hk : x.1.1.1 = 3) : Calls Tryz.prog 106 #[x.val] w fun e w' => ∃ y : Mm, e = .returned y.val ∧ y = usedM x ∧ MlIn w' y ∧ Below w.heap.size w w' := by
  obtain ⟨cx, hcx⟩ : ∃ c, c = mlC x := ⟨_, rfl⟩
  have HCX : Hid (cx = mlC x) := hcx
  show Calls Tryz.prog _ #[.agg (mlC x).toArray] w _
  rw [← hcx]
  clear hcx
  have HX := Lib.hid hx
  obtain ⟨W1, hW, hA, hC, hB, -⟩ := laid2 w cx 52 [Value.int .i64 0, .int .i64 0, .int .i64 0, .int .i64 0, .int .i64 0, .int .i64 0, .int .i64 0, .int .i64 0, .int .i64 0, .int .i64 0, .int .i64 0, .int .i64 0, .int .i64 0, .int .i64 0, .slice none 0 0, .slice none 0 0, .slice none 0 0, .slice none 0 0, .slice none 0 0, .slice none 0 0, .slice none 0 0] 52
  rw [HCX.out] at hA
  have HU : Hid (useD x = usedM x) := by show _ = _; unfold usedM; rw [if_neg (by omega), if_neg (by omega)]
  have d1 : (x.1.1.1 == 1) = false := by simp; omega
  have d2 : (x.1.1.1 == 2) = false := by simp; omega
  have x0 := hA.at 0 rfl
  have x1 := hA.at 1 rfl
  have x2 := hA.at 2 rfl
  have x3 := hA.at 3 rfl
  have x4 := hA.at 4 rfl
  have x5 := hA.at 5 rfl
  obtain ⟨W0, hW0, hE, hB1, -⟩ := laid1 W1 [Value.int .i64 0, .int .i64 0, .int .i64 0, .int .i64 0, .int .i64 0, .int .i64 0, .int .i64 0, .int .i64 0, .int .i64 0, .int .i64 0, .int .i64 0, .int .i64 0, .int .i64 0, .int .i64 0, .slice none 0 0, .slice none 0 0, .slice none 0 0, .slice none 0 0, .slice none 0 0, .slice none 0 0, .slice none 0 0] 52
  have HA : Hid (Blk W0 w.heap.size (mlC x)) := hA.keep hB1
  have HC : Hid (Blk W0 (w.heap.size + 1) zeroMail) := hC.keep hB1
  have HEE : Hid (Blk W0 W1.heap.size zeroMail) := hE
  have HB0 := Lib.hid (hB.trans (hB1.mono hB.size))
  have HGL : Hid (w.heap.size + 1 < W1.heap.size) := hC.lt
  have HT : Hid (W0.there W1.heap.size 0 (mlC (useNo x)).toArray.size) := HEE.out.there
  have HS : Hid ((Tryz.prog.info? 52).map (·.size) = some (mlC (useNo x)).toArray.size) := sizeMail
  have HO : Hid ((mlC (useNo x)).toArray.all (·.oneCell') = true) := all_oneCell_toArray (mlC_one (useNo x))
  obtain ⟨W9, hW9⟩ : ∃ W9, W0.setCells W1.heap.size 0 (mlC (useNo x)) = W9 := ⟨_, rfl⟩
  have HW9 := Lib.hid hW9
  have hA9 : Blk W9 w.heap.size (mlC x) := by rw [← hW9]; exact HA.out.others (by have := HGL.out; omega) _ _
  have HC9 : Hid (Blk W9 (w.heap.size + 1) zeroMail) := by show Blk _ _ _; rw [← hW9]; exact HC.out.others (by have := HGL.out; omega) _ _
  have HE9 : Hid (Blk W9 W1.heap.size (mlC (useNo x))) := by show Blk _ _ _; rw [← hW9]; exact HEE.out.sets (mlC (useNo x)) rfl
  have HB9 : Hid (Below w.heap.size w W9) := by show Below _ _ _; rw [← hW9]; exact below_sets HB0.out W1.heap.size (by have := HGL.out; omega) _ _
  have HA9 := Lib.hid hA9
  have y0 := hA9.at 0 rfl
  clear hx hk hA hC hE hB hB1 HCX hW9 hA9 HA HC HEE HB0
  go_enter Tryz.func106, Tryz.ntmps106
  go_upto_region 3 with fail
  clear hW
  go_cut [3] from 14 to 26 (fun p wc => p = .pointer (some ⟨W1.heap.size, 0, none⟩) ∧ wc = W9)
  case first =>
    go_wp2_with (first | (with_reducible refine at_store 52 ?_; refine wpList_store_mid rfl 52 _ _ rfl W1.heap.size 0 (mlC (useNo x)).toArray rfl rfl HT.out HS.out HO.out ?_; rw [show W0.setCells W1.heap.size 0 (mlC (useNo x)).toArray.toList = W9 from HW9.out]) | fail)
    go_meet
    case rel => exact ⟨rfl, rfl⟩
  case rest =>
  obtain ⟨rfl, hwc⟩ := hcut
  subst hwc
  clear HT HS HO HW9 hW0 x0 x1 x2 x3 x4 x5
  have HGL9 : Hid (w.heap.size ≤ W1.heap.size) := by show _ ≤ _; have := HGL.out; omega
  have HNE : Hid (¬ w.heap.size = W1.heap.size) := by show ¬ _; have := HGL.out; omega
  go_upto_region 7 with fail
  clear y0
  refine wp_region_held_drew (S := fun w' => Blk w' w.heap.size (mlC x) ∧ Below w.heap.size w w') (by kernel_rfl) ⟨HA9.out.drew, HB9.out.drew⟩ (fun hHeld => ?_)
  refine take_yes 0 34 (v := ?_) rfl rfl (by kernel_rfl) (by kernel_rfl) (by kernel_rfl) (fun _ _ _ h => h) (by rfl) ?_ hHeld ?_
  rotate_left 1
  · (intro w9 hSw; skip; go_simp; try with_reducible rfl)
  simp only [Act.put, List.setIfInBounds_toArray, List.set_cons_succ, List.set_cons_zero]
  refine take_yes 1 35 (v := ?_) rfl rfl (by kernel_rfl) (by kernel_rfl) (by kernel_rfl) (fun _ _ _ h => h) (by rfl) ?_ hHeld ?_
  rotate_left 1
  · (intro w9 hSw; have q1 := hSw.1.at 6 rfl; go_simp; try with_reducible rfl)
  simp only [Act.put, List.setIfInBounds_toArray, List.set_cons_succ, List.set_cons_zero]
  refine take_yes 2 36 (v := ?_) rfl rfl (by kernel_rfl) (by kernel_rfl) (by kernel_rfl) (fun _ _ _ h => h) (by rfl) ?_ hHeld ?_
  rotate_left 1
  · (intro w9 hSw; skip; go_simp; try with_reducible rfl)
  simp only [Act.put, List.setIfInBounds_toArray, List.set_cons_succ, List.set_cons_zero]
  refine take_yes 3 37 (v := ?_) rfl rfl (by kernel_rfl) (by kernel_rfl) (by kernel_rfl) (fun _ _ _ h => h) (by rfl) ?_ hHeld ?_
  rotate_left 1
  · (intro w9 hSw; have q1 := hSw.1.at 17 rfl; have q2 := hSw.1.at 18 rfl; have q3 := hSw.1.at 19 rfl; have q4 := hSw.1.at 20 rfl; go_simp; try with_reducible rfl)
  simp only [Act.put, List.setIfInBounds_toArray, List.set_cons_succ, List.set_cons_zero]
  refine take_yes 4 38 (v := ?_) rfl rfl (by kernel_rfl) (by kernel_rfl) (by kernel_rfl) (fun _ _ _ h => h) (by rfl) ?_ hHeld ?_
  rotate_left 1
  · (intro w9 hSw; skip; go_simp; try with_reducible rfl)
  simp only [Act.put, List.setIfInBounds_toArray, List.set_cons_succ, List.set_cons_zero]
  have hE9 := HE9.out.drew
  have z6 := hE9.at 6 rfl
  have fz := hE9.frz 6
  refine wpAnyH_ready (rs := [5]) (by kernel_rfl) (by simp) ?_
  refine AllReadyH.cons rfl (fun KK hKK => ?_) AllReadyH.nil
  go_simp
  have hne := HNE.out
  refine hKK.out _ _ ⟨HA9.out.drew.other hne _ _, HB9.out.drew.setCell (by exact HGL9.out) _⟩ (fun hHeld => ?_)
  clear hKK KK z6 fz
  have hE6 := hE9.set 6 (by show _ < 21; decide) (.int .i64 x.1.1.2.2.2.2.2.2)
  clear hE9
  refine take_yes 6 39 (v := ?_) rfl rfl (by kernel_rfl) (by kernel_rfl) (by kernel_rfl) (fun _ _ _ h => h) (by rfl) ?_ hHeld ?_
  rotate_left 1
  · (intro w9 hSw; skip; go_simp; try with_reducible rfl)
  simp only [Act.put, List.setIfInBounds_toArray, List.set_cons_succ, List.set_cons_zero]
  refine wpAnyH_ready (rs := [7]) (by kernel_rfl) (by simp) ?_
  refine AllReadyH.cons rfl (fun KK hKK => ?_) AllReadyH.nil
  rw [if_pos (by rfl)]
  refine wp_store_mid 50 _ _ rfl W1.heap.size 17 #[Value.slice x.2.2.1.1 x.1.2.2.2.1.length x.2.2.1.2, .slice x.2.2.2.1.1 x.1.2.2.2.2.1.length x.2.2.2.1.2, .slice x.2.2.2.2.1.1 x.1.2.2.2.2.2.1.length x.2.2.2.2.1.2, .slice x.2.2.2.2.2.1 x.1.2.2.2.2.2.2.length x.2.2.2.2.2.2] rfl rfl (hE6.part (us := [Value.slice x.2.2.1.1 x.1.2.2.2.1.length x.2.2.1.2, .slice x.2.2.2.1.1 x.1.2.2.2.2.1.length x.2.2.2.1.2, .slice x.2.2.2.2.1.1 x.1.2.2.2.2.2.1.length x.2.2.2.2.1.2, .slice x.2.2.2.2.2.1 x.1.2.2.2.2.2.2.length x.2.2.2.2.2.2]) (by show 17 + 4 ≤ 21; decide)) sizeDelta (all_oneCell_toArray (by intro v hv; simp at hv; rcases hv with rfl | rfl | rfl | rfl <;> rfl)) ?_
  refine hKK.out _ _ ⟨hHeld.1.others hne _ _, below_sets hHeld.2 W1.heap.size HGL9.out _ _⟩ (fun hHeld => ?_)
  clear hKK KK
  refine wpAnyH_done (by kernel_rfl) ?_ _
  have hE7 := (((hE6.set 17 (by show _ < 21; decide) (.slice x.2.2.1.1 x.1.2.2.2.1.length x.2.2.1.2)).set 18 (by show _ < 21; decide) (.slice x.2.2.2.1.1 x.1.2.2.2.2.1.length x.2.2.2.1.2)).set 19 (by show _ < 21; decide) (.slice x.2.2.2.2.1.1 x.1.2.2.2.2.2.1.length x.2.2.2.2.1.2)).set 20 (by show _ < 21; decide) (.slice x.2.2.2.2.2.1 x.1.2.2.2.2.2.2.length x.2.2.2.2.2.2)
  have HB5 := Lib.hid hHeld.2
  have hne2 : ¬ w.heap.size + 1 = W1.heap.size := by have := HGL.out; omega
  have HC5 := Lib.hid ((HC9.out.drew.other hne2 6 (.int .i64 x.1.1.2.2.2.2.2.2)).others hne2 [Value.slice x.2.2.1.1 x.1.2.2.2.1.length x.2.2.1.2, .slice x.2.2.2.1.1 x.1.2.2.2.2.1.length x.2.2.2.1.2, .slice x.2.2.2.2.1.1 x.1.2.2.2.2.2.1.length x.2.2.2.2.1.2, .slice x.2.2.2.2.2.1 x.1.2.2.2.2.2.2.length x.2.2.2.2.2.2] 17)
  have HE7 : Hid (Blk (((wc.drew.setCell ⟨W1.heap.size, 6, none⟩ (.int .i64 x.1.1.2.2.2.2.2.2)).setCells W1.heap.size 17 [Value.slice x.2.2.1.1 x.1.2.2.2.1.length x.2.2.1.2, .slice x.2.2.2.1.1 x.1.2.2.2.2.1.length x.2.2.2.1.2, .slice x.2.2.2.2.1.1 x.1.2.2.2.2.2.1.length x.2.2.2.2.1.2, .slice x.2.2.2.2.2.1 x.1.2.2.2.2.2.2.length x.2.2.2.2.2.2])) W1.heap.size (mlC (useD x))) := hE7
  clear hHeld hE6 hE7 HE9 HC9 HA9 HB9 hne hne2
  have HWW : Hid (∀ (P : World → Prop), P ((wc.drew.setCell ⟨W1.heap.size, 6, none⟩ (.int .i64 x.1.1.2.2.2.2.2.2)).setCells W1.heap.size 17 [Value.slice x.2.2.1.1 x.1.2.2.2.1.length x.2.2.1.2, .slice x.2.2.2.1.1 x.1.2.2.2.2.1.length x.2.2.2.1.2, .slice x.2.2.2.2.1.1 x.1.2.2.2.2.2.1.length x.2.2.2.2.1.2, .slice x.2.2.2.2.2.1 x.1.2.2.2.2.2.2.length x.2.2.2.2.2.2]) → P ((wc.drew.setCell ⟨W1.heap.size, 6, none⟩ (.int .i64 x.1.1.2.2.2.2.2.2)).setCells W1.heap.size 17 [Value.slice x.2.2.1.1 x.1.2.2.2.1.length x.2.2.1.2, .slice x.2.2.2.1.1 x.1.2.2.2.2.1.length x.2.2.2.1.2, .slice x.2.2.2.2.1.1 x.1.2.2.2.2.2.1.length x.2.2.2.2.1.2, .slice x.2.2.2.2.2.1 x.1.2.2.2.2.2.2.length x.2.2.2.2.2.2])) := fun P h => h
  change Hid (Below w.heap.size w ((wc.drew.setCell ⟨W1.heap.size, 6, none⟩ (.int .i64 x.1.1.2.2.2.2.2.2)).setCells W1.heap.size 17 [Value.slice x.2.2.1.1 x.1.2.2.2.1.length x.2.2.1.2, .slice x.2.2.2.1.1 x.1.2.2.2.2.1.length x.2.2.2.1.2, .slice x.2.2.2.2.1.1 x.1.2.2.2.2.2.1.length x.2.2.2.2.1.2, .slice x.2.2.2.2.2.1 x.1.2.2.2.2.2.2.length x.2.2.2.2.2.2])) at HB5
  show Exit.then _ _ _ _ ((wc.drew.setCell ⟨W1.heap.size, 6, none⟩ (.int .i64 x.1.1.2.2.2.2.2.2)).setCells W1.heap.size 17 [Value.slice x.2.2.1.1 x.1.2.2.2.1.length x.2.2.1.2, .slice x.2.2.2.1.1 x.1.2.2.2.2.1.length x.2.2.2.1.2, .slice x.2.2.2.2.1.1 x.1.2.2.2.2.2.1.length x.2.2.2.2.1.2, .slice x.2.2.2.2.2.1 x.1.2.2.2.2.2.2.length x.2.2.2.2.2.2])
  clear HWW
  generalize (wc.drew.setCell ⟨W1.heap.size, 6, none⟩ (.int .i64 x.1.1.2.2.2.2.2.2)).setCells W1.heap.size 17 [Value.slice x.2.2.1.1 x.1.2.2.2.1.length x.2.2.1.2, .slice x.2.2.2.1.1 x.1.2.2.2.2.1.length x.2.2.2.1.2, .slice x.2.2.2.2.1.1 x.1.2.2.2.2.2.1.length x.2.2.2.2.1.2, .slice x.2.2.2.2.2.1 x.1.2.2.2.2.2.2.length x.2.2.2.2.2.2] = W5 at *
  have HR5 := Lib.hid HE7.out.range
  have HT5 : Hid (W5.there (w.heap.size + 1) 0 (mlC (useD x)).toArray.size) := HC5.out.there
  have HS5 : Hid ((Tryz.prog.info? 52).map (·.size) = some (mlC (useD x)).toArray.size) := sizeMail
  have HO5 : Hid ((mlC (useD x)).toArray.all (·.oneCell') = true) := all_oneCell_toArray (mlC_one (useD x))
  clear HE7
  go_wp2_with (first | (refine wpList_load_mid rfl 52 _ rfl W1.heap.size 0 rfl (mlC (useD x)) _ HR5.out Tryz.underlying52 rfl (sizeMailC (useD x)) ?_) | (with_reducible refine at_store 52 ?_; refine wpList_store_mid rfl 52 _ _ rfl (w.heap.size + 1) 0 (mlC (useD x)).toArray rfl rfl HT5.out HS5.out HO5.out ?_) | fail)
  have hR := HC5.out.sets (mlC (useD x)) rfl
  refine ret_cell Tryz.results106 rfl (hR.load Tryz.underlying52 rfl (sizeMailC (useD x))) ?_
  have hb := below_sets HB5.out (w.heap.size + 1) (by omega) (mlC (useD x)) 0
  exact ⟨useD x, rfl, HU.out, (HX.out.keep hb).useD, hb⟩

theorem wused_any (w : World) (x : Mm) (hx : MlIn w x) (hk : 1 ≤ x.1.1.1 ∧ x.1.1.1 ≤ 3) : Calls Tryz.prog 106 #[x.val] w fun e w' => ∃ y : Mm, e = .returned y.val ∧ y = usedM x ∧ MlIn w' y ∧ Below w.heap.size w w' := by
  have h : x.1.1.1 = 1 ∨ x.1.1.1 = 2 ∨ x.1.1.1 = 3 := by omega
  rcases h with h | h | h
  · exact wused_op w x hx h
  · exact wused_view w x hx h
  · exact wused_diff w x hx h
end Go.Proofs.YtijjiccgpobjmaeGreat

/- way.checkOp, checkNews, checkMail. -/
namespace Go.Proofs.YtijjiccgpobjmaeGreat
open Go.ChangeShapes Go.WideShapes Go.ChangeAt Go.RowKit
open Orangery (Pl Mv Vw Dl Ml noVw noDl noMl noOp checkOp viewME deltaME viewE deltaE orI seeRange seeUse opUse noV noD ml1E)

theorem noV_iff (v : Vw) : noV v = true ↔ v = noVw := by
  obtain ⟨a, b, c⟩ := v
  simp [noV, noVw, and_assoc]
theorem noD_iff (d : Dl) : noD d = true ↔ d = noDl := by
  obtain ⟨a, b, c, e⟩ := d
  simp [noD, noDl, and_assoc]
theorem noView : viewE [] [] [] = 0 := by decide +kernel
theorem noDelta : deltaE [] [] [] [] = 0 := by decide +kernel
/-- what is told of a mail whose kind and client may be, as the program does it -/
theorem ml1_used {x : Mm} (h1 : 1 ≤ x.1.1.1 ∧ x.1.1.1 ≤ 3) (h2 : 0 ≤ x.1.1.2.1 ∧ x.1.1.2.1 ≤ 2) :
    ml1E x.1 = if sameMl x.1 (usedM x).1 = false then 4 else if x.1.1.1 = 1 then (if x.1.2.1.2.1 ≠ x.1.1.2.1 then 4 else checkOp x.1.2.1)
      else if seeRange x.1 = true then orI (viewME x.1.2.2.1) (deltaME x.1.2.2.2) else 3 := by
  obtain ⟨⟨⟨k, u, f, s, t, n, p⟩, o, v, d⟩, r⟩ := x
  simp only at h1 h2
  have hkk : k = 1 ∨ k = 2 ∨ k = 3 := by omega
  rcases hkk with rfl | rfl | rfl
  · have hu : (usedM (((1, u, f, s, t, n, p), o, v, d), r)).1 = ((1, u, 0, 0, 0, 0, 0), o, noVw, noDl) := rfl
    rw [hu]
    have hE : ml1E ((1, u, f, s, t, n, p), o, v, d) = if opUse ((1, u, f, s, t, n, p), o, v, d) = true then checkOp o else 4 := by
      unfold ml1E
      simp only
      rw [if_neg (by omega), if_neg (by omega), if_pos trivial]
    show ml1E ((1, u, f, s, t, n, p), o, v, d) = if _ then 4 else if (1 : Int) = 1 then (if o.2.1 ≠ u then 4 else checkOp o) else _
    rw [hE, if_pos (rfl : (1 : Int) = 1)]
    by_cases hs : ((1, u, f, s, t, n, p), o, v, d) = (((1, u, 0, 0, 0, 0, 0), o, noVw, noDl) : Ml)
    · have hs2 := (sameMl_iff _ _).2 hs
      rw [hs2, if_neg (show ¬ true = false by decide)]
      simp only [Prod.mk.injEq, true_and] at hs
      obtain ⟨⟨rfl, rfl, rfl, rfl, rfl⟩, rfl, rfl⟩ := hs
      by_cases hw : o.2.1 = u
      · have ho : opUse ((1, u, 0, 0, 0, 0, 0), o, noVw, noDl) = true := by unfold opUse; simp [hw, noV, noVw, noD, noDl]
        rw [ho, if_pos rfl, if_neg (by simp [hw])]
      · have ho : opUse ((1, u, 0, 0, 0, 0, 0), o, noVw, noDl) = false := by unfold opUse; simp [hw]
        rw [ho, if_neg (by decide), if_pos hw]
    · rw [if_pos (sameMl_no hs), if_neg]
      intro h
      apply hs
      unfold opUse at h
      simp only [Bool.and_eq_true, decide_eq_true_eq, noV_iff, noD_iff] at h
      obtain ⟨⟨⟨⟨⟨⟨⟨e1, e2⟩, e3⟩, e4⟩, e5⟩, e6⟩, e7⟩, _⟩ := h
      subst e1 e2 e3 e4 e5 e6 e7
      rfl
  · have hu : (usedM (((2, u, f, s, t, n, p), o, v, d), r)).1 = ((2, u, f, s, t, n, 0), noOp, v, noDl) := rfl
    rw [hu]
    have hE : ml1E ((2, u, f, s, t, n, p), o, v, d) = if seeUse ((2, u, f, s, t, n, p), o, v, d) = false then 4 else if seeRange ((2, u, f, s, t, n, p), o, v, d) = false then 3 else viewME v := by
      unfold ml1E
      simp only
      rw [if_neg (by omega), if_neg (by omega), if_neg (by omega)]
      rfl
    show ml1E ((2, u, f, s, t, n, p), o, v, d) = if _ then 4 else if (2 : Int) = 1 then (if o.2.1 ≠ u then 4 else checkOp o) else if seeRange ((2, u, f, s, t, n, p), o, v, d) = true then orI (viewME v) (deltaME d) else 3
    rw [hE, if_neg (show ¬ (2 : Int) = 1 by omega)]
    by_cases hs : ((2, u, f, s, t, n, p), o, v, d) = (((2, u, f, s, t, n, 0), noOp, v, noDl) : Ml)
    · have hs2 := (sameMl_iff _ _).2 hs
      rw [hs2, if_neg (show ¬ true = false by decide)]
      simp only [Prod.mk.injEq, true_and] at hs
      obtain ⟨rfl, rfl, rfl⟩ := hs
      have hsu : seeUse ((2, u, f, s, t, n, 0), noOp, v, noDl) = true := by unfold seeUse; simp [noD, noDl]
      rw [hsu, if_neg (show ¬ true = false by decide)]
      have e : deltaME noDl = 0 := noDelta
      have e2 : orI (viewME v) 0 = viewME v := by
        unfold orI
        split
        · rfl
        · rename_i h
          have h2 : viewME v = 0 := by simpa using h
          rw [h2]
      rw [e, e2]
      cases hr : seeRange ((2, u, f, s, t, n, 0), noOp, v, noDl) <;> simp
    · rw [if_pos (sameMl_no hs), if_pos]
      cases h : seeUse ((2, u, f, s, t, n, p), o, v, d)
      · rfl
      · exfalso
        apply hs
        unfold seeUse at h
        simp only [Bool.and_eq_true, Bool.or_eq_true, decide_eq_true_eq, Bool.not_eq_true', decide_eq_false_iff_not, noV_iff, noD_iff, not_true_eq_false, false_or] at h
        obtain ⟨⟨e1, e2, e3⟩, _⟩ := h
        subst e1 e2 e3
        rfl
  · have hu : (usedM (((3, u, f, s, t, n, p), o, v, d), r)).1 = ((3, u, f, s, t, n, p), noOp, noVw, d) := rfl
    rw [hu]
    have hE : ml1E ((3, u, f, s, t, n, p), o, v, d) = if seeUse ((3, u, f, s, t, n, p), o, v, d) = false then 4 else if seeRange ((3, u, f, s, t, n, p), o, v, d) = false then 3 else deltaME d := by
      unfold ml1E
      simp only
      rw [if_neg (by omega), if_neg (by omega), if_neg (by omega)]
      rfl
    show ml1E ((3, u, f, s, t, n, p), o, v, d) = if _ then 4 else if (3 : Int) = 1 then (if o.2.1 ≠ u then 4 else checkOp o) else if seeRange ((3, u, f, s, t, n, p), o, v, d) = true then orI (viewME v) (deltaME d) else 3
    rw [hE, if_neg (show ¬ (3 : Int) = 1 by omega)]
    by_cases hs : ((3, u, f, s, t, n, p), o, v, d) = (((3, u, f, s, t, n, p), noOp, noVw, d) : Ml)
    · have hs2 := (sameMl_iff _ _).2 hs
      rw [hs2, if_neg (show ¬ true = false by decide)]
      simp only [Prod.mk.injEq, true_and] at hs
      obtain ⟨rfl, rfl, -⟩ := hs
      have hsu : seeUse ((3, u, f, s, t, n, p), noOp, noVw, d) = true := by unfold seeUse; simp [noV, noVw]
      rw [hsu, if_neg (show ¬ true = false by decide)]
      have e : viewME noVw = 0 := noView
      have e2 : orI 0 (deltaME d) = deltaME d := rfl
      rw [e, e2]
      cases hr : seeRange ((3, u, f, s, t, n, p), noOp, noVw, d) <;> simp
    · rw [if_pos (sameMl_no hs), if_pos]
      cases h : seeUse ((3, u, f, s, t, n, p), o, v, d)
      · rfl
      · exfalso
        apply hs
        unfold seeUse at h
        simp only [Bool.and_eq_true, Bool.or_eq_true, decide_eq_true_eq, Bool.not_eq_true', decide_eq_false_iff_not, noV_iff, noD_iff, not_true_eq_false, false_or] at h
        obtain ⟨⟨e1, _⟩, e2⟩ := h
        subst e1 e2
        rfl

set_option maxHeartbeats 1000000 in
set_option maxRecDepth 100000 in
theorem wcheckOp_any (w : World) (x : Mm) : Calls Tryz.prog 107 #[x.val] w fun e w' => e = .returned (.int .i64 (if x.1.2.1.2.1 ≠ x.1.1.2.1 then 4 else checkOp x.1.2.1)) ∧ Below w.heap.size w w' := by
  obtain ⟨E, hE⟩ : ∃ E, E = (if x.1.2.1.2.1 ≠ x.1.1.2.1 then 4 else checkOp x.1.2.1) := ⟨_, rfl⟩
  rw [← hE]
  obtain ⟨cx, hcx⟩ : ∃ c, c = mlC x := ⟨_, rfl⟩
  have HCX : Hid (cx = mlC x) := hcx
  show Calls Tryz.prog _ #[.agg (mlC x).toArray] w _
  rw [← hcx]
  clear hcx
  obtain ⟨W0, hW, hA, hB, -⟩ := laid1 w cx 52
  rw [HCX.out] at hA
  have HB0 := Lib.hid hB
  clear hB
  have x1 := hA.at 1 rfl
  have x7 := hA.at 7 rfl
  have x8 := hA.at 8 rfl
  have x9 := hA.at 9 rfl
  have x10 := hA.at 10 rfl
  have x11 := hA.at 11 rfl
  have x12 := hA.at 12 rfl
  have x13 := hA.at 13 rfl
  clear hA HCX
  by_cases hne : x.1.2.1.2.1 = x.1.1.2.1
  case neg =>
    have d1 : (x.1.2.1.2.1 != x.1.1.2.1) = true := by simpa using hne
    have HE : Hid (E = 4) := by show _ = _; rw [hE]; exact if_pos hne
    clear hne hE
    go_enter Tryz.func107, Tryz.ntmps107
    go_wp2
    go_ret
    exact ⟨ret_int HE.out.symm, HB0.out⟩
  have d1 : (x.1.2.1.2.1 != x.1.1.2.1) = false := by simpa using hne
  have HE : Hid (E = checkOp x.1.2.1) := by show _ = _; rw [hE]; exact if_neg (by simpa using hne)
  clear hne hE
  go_enter Tryz.func107, Tryz.ntmps107
  go_wp2_with fail
  clear hW
  refine (moveCheck_any W0 x.1.2.1).mono ?_
  rintro e w1 ⟨rfl, hb⟩
  have HB1 := Lib.hid (HB0.out.trans (hb.mono HB0.out.size))
  clear hb x1 x7 x8 x9 x10 x11 x12 x13
  go_wp2
  go_ret
  exact ⟨ret_int HE.out.symm, HB1.out⟩

set_option maxHeartbeats 4000000 in
set_option maxRecDepth 100000 in
theorem wcheckNews_any (w : World) (x : Mm) (hx : MlIn w x) : Calls Tryz.prog 108 #[x.val] w fun e w' => e = .returned (.int .i64 (if seeRange x.1 = true then orI (viewME x.1.2.2.1) (deltaME x.1.2.2.2) else 3)) ∧ Below w.heap.size w w' := by
  have HX := Lib.hid hx
  clear hx
  have HSR : Hid (seeRange x.1 = (inB x.1.1.2.2.1 1 50 && inB x.1.1.2.2.2.1 0 30 && inB x.1.1.2.2.2.2.1 0 10000 && inB x.1.1.2.2.2.2.2.1 1 60 && inB x.1.1.2.2.2.2.2.2 0 (x.1.1.2.2.2.2.2.1 - 1))) := by
    show _ = _
    have h1 : decide (0 ≤ x.1.1.2.2.2.2.2.2 ∧ x.1.1.2.2.2.2.2.2 < x.1.1.2.2.2.2.2.1) = decide (0 ≤ x.1.1.2.2.2.2.2.2 ∧ x.1.1.2.2.2.2.2.2 ≤ x.1.1.2.2.2.2.2.1 - 1) := by
      by_cases h : 0 ≤ x.1.1.2.2.2.2.2.2 ∧ x.1.1.2.2.2.2.2.2 < x.1.1.2.2.2.2.2.1
      · rw [decide_eq_true h, decide_eq_true (by omega)]
      · rw [decide_eq_false h, decide_eq_false (by omega)]
    show (_ && decide (0 ≤ x.1.1.2.2.2.2.2.2 ∧ x.1.1.2.2.2.2.2.2 < x.1.1.2.2.2.2.2.1)) = _
    rw [h1]
    rfl
  obtain ⟨E, hE⟩ : ∃ E, E = (if seeRange x.1 = true then orI (viewME x.1.2.2.1) (deltaME x.1.2.2.2) else 3) := ⟨_, rfl⟩
  have H3 : Hid (seeRange x.1 = false → E = 3) := fun h => by rw [hE, h]; rfl
  have H0 : Hid (seeRange x.1 = true → E = orI (viewE x.1.2.2.1.1 x.1.2.2.1.2.1 x.1.2.2.1.2.2) (deltaE x.1.2.2.2.1 x.1.2.2.2.2.1 x.1.2.2.2.2.2.1 x.1.2.2.2.2.2.2)) := fun h => by rw [hE, h]; rfl
  rw [← hE]
  clear hE
  obtain ⟨cx, hcx⟩ : ∃ c, c = mlC x := ⟨_, rfl⟩
  have HCX : Hid (cx = mlC x) := hcx
  show Calls Tryz.prog _ #[.agg (mlC x).toArray] w _
  rw [← hcx]
  clear hcx
  obtain ⟨W0, hW, hA, hB, -⟩ := laid1 w cx 52
  rw [HCX.out] at hA
  have HB0 := Lib.hid hB
  clear hB
  clear HCX
  go_enter Tryz.func108, Tryz.ntmps108
  have x2 := hA.at 2 rfl
  go_wp2_with fail
  clear hW
  refine (wwithin_any W0 x.1.1.2.2.1 1 50).mono ?_
  rintro e w1 ⟨rfl, hb⟩
  have hA := hA.keep hb
  have HB0 := Lib.hid (HB0.out.trans (hb.mono HB0.out.size))
  clear hb x2
  obtain ⟨b0, hb0⟩ : ∃ b : Bool, b = inB x.1.1.2.2.1 1 50 := ⟨_, rfl⟩
  rw [← hb0] at HSR ⊢
  clear hb0
  cases b0
  case false =>
    have HE := Lib.hid (H3.out (by rw [HSR.out]; rfl))
    clear hA
    go_wp2
    go_ret
    exact ⟨ret_int HE.out.symm, HB0.out⟩
  have x3 := hA.at 3 rfl
  go_wp2_with fail
  refine (wwithin_any w1 x.1.1.2.2.2.1 0 30).mono ?_
  rintro e w2 ⟨rfl, hb⟩
  have hA := hA.keep hb
  have HB0 := Lib.hid (HB0.out.trans (hb.mono HB0.out.size))
  clear hb x3
  obtain ⟨b1, hb1⟩ : ∃ b : Bool, b = inB x.1.1.2.2.2.1 0 30 := ⟨_, rfl⟩
  rw [← hb1] at HSR ⊢
  clear hb1
  cases b1
  case false =>
    have HE := Lib.hid (H3.out (by rw [HSR.out]; rfl))
    clear hA
    go_wp2
    go_ret
    exact ⟨ret_int HE.out.symm, HB0.out⟩
  have x4 := hA.at 4 rfl
  go_wp2_with fail
  refine (wwithin_any w2 x.1.1.2.2.2.2.1 0 10000).mono ?_
  rintro e w3 ⟨rfl, hb⟩
  have hA := hA.keep hb
  have HB0 := Lib.hid (HB0.out.trans (hb.mono HB0.out.size))
  clear hb x4
  obtain ⟨b2, hb2⟩ : ∃ b : Bool, b = inB x.1.1.2.2.2.2.1 0 10000 := ⟨_, rfl⟩
  rw [← hb2] at HSR ⊢
  clear hb2
  cases b2
  case false =>
    have HE := Lib.hid (H3.out (by rw [HSR.out]; rfl))
    clear hA
    go_wp2
    go_ret
    exact ⟨ret_int HE.out.symm, HB0.out⟩
  have x5 := hA.at 5 rfl
  go_wp2_with fail
  refine (wwithin_any w3 x.1.1.2.2.2.2.2.1 1 60).mono ?_
  rintro e w4 ⟨rfl, hb⟩
  have hA := hA.keep hb
  have HB0 := Lib.hid (HB0.out.trans (hb.mono HB0.out.size))
  clear hb x5
  obtain ⟨b3, hb3⟩ : ∃ b : Bool, b = inB x.1.1.2.2.2.2.2.1 1 60 := ⟨_, rfl⟩
  have HN6 : Hid (b3 = true → 1 ≤ x.1.1.2.2.2.2.2.1 ∧ x.1.1.2.2.2.2.2.1 ≤ 60) := by intro h; rw [hb3] at h; simpa [inB] using h
  rw [← hb3] at HSR ⊢
  clear hb3
  cases b3
  case false =>
    have HE := Lib.hid (H3.out (by rw [HSR.out]; rfl))
    clear hA
    go_wp2
    go_ret
    exact ⟨ret_int HE.out.symm, HB0.out⟩
  have hn60 := HN6.out rfl
  have hnw : IntKind.i64.wrap (x.1.1.2.2.2.2.2.1 - 1) = x.1.1.2.2.2.2.2.1 - 1 := by rw [IntKind.wrap_i64]; omega
  have hnw2 : wrap64 (x.1.1.2.2.2.2.2.1 - 1) = x.1.1.2.2.2.2.2.1 - 1 := by unfold wrap64; omega
  clear HN6
  have x6 := hA.at 6 rfl
  have x5 := hA.at 5 rfl
  go_wp2_with fail
  refine (wwithin_any w4 x.1.1.2.2.2.2.2.2 0 (x.1.1.2.2.2.2.2.1 - 1)).mono ?_
  rintro e w5 ⟨rfl, hb⟩
  have hA := hA.keep hb
  have HB0 := Lib.hid (HB0.out.trans (hb.mono HB0.out.size))
  clear hb x6 x5
  obtain ⟨b4, hb4⟩ : ∃ b : Bool, b = inB x.1.1.2.2.2.2.2.2 0 (x.1.1.2.2.2.2.2.1 - 1) := ⟨_, rfl⟩
  rw [← hb4] at HSR ⊢
  clear hb4
  cases b4
  case false =>
    have HE := Lib.hid (H3.out (by rw [HSR.out]; rfl))
    clear hA
    go_wp2
    go_ret
    exact ⟨ret_int HE.out.symm, HB0.out⟩
  clear hn60 hnw hnw2
  have HE := Lib.hid (H0.out (by rw [HSR.out]; rfl))
  have HA := Lib.hid hA
  clear H3 H0 HSR hA
  go_upto_region 2 with fail
  refine wp_region_held_drew (S := fun w' => Blk w' w.heap.size (mlC x) ∧ Below w.heap.size w w') (by kernel_rfl) ⟨HA.out.drew, HB0.out.drew⟩ (fun hHeld => ?_)
  refine take_yes 0 34 (v := ?_) rfl rfl (by kernel_rfl) (by kernel_rfl) (by kernel_rfl) (fun _ _ _ h => h) (by rfl) ?_ hHeld ?_
  rotate_left 1
  · (intro w9 hSw; skip; go_simp; try with_reducible rfl)
  simp only [Act.put, List.setIfInBounds_toArray, List.set_cons_succ, List.set_cons_zero]
  refine take_yes 1 35 (v := ?_) rfl rfl (by kernel_rfl) (by kernel_rfl) (by kernel_rfl) (fun _ _ _ h => h) (by rfl) ?_ hHeld ?_
  rotate_left 1
  · (intro w9 hSw; have q1 := hSw.1.at 14 rfl; have q2 := hSw.1.at 15 rfl; have q3 := hSw.1.at 16 rfl; go_simp; try with_reducible rfl)
  simp only [Act.put, List.setIfInBounds_toArray, List.set_cons_succ, List.set_cons_zero]
  refine take_yes 3 37 (v := ?_) rfl rfl (by kernel_rfl) (by kernel_rfl) (by kernel_rfl) (fun _ _ _ h => h) (by rfl) ?_ hHeld ?_
  rotate_left 1
  · (intro w9 hSw; skip; go_simp; try with_reducible rfl)
  simp only [Act.put, List.setIfInBounds_toArray, List.set_cons_succ, List.set_cons_zero]
  refine take_yes 4 38 (v := ?_) rfl rfl (by kernel_rfl) (by kernel_rfl) (by kernel_rfl) (fun _ _ _ h => h) (by rfl) ?_ hHeld ?_
  rotate_left 1
  · (intro w9 hSw; have q1 := hSw.1.at 17 rfl; have q2 := hSw.1.at 18 rfl; have q3 := hSw.1.at 19 rfl; have q4 := hSw.1.at 20 rfl; go_simp; try with_reducible rfl)
  simp only [Act.put, List.setIfInBounds_toArray, List.set_cons_succ, List.set_cons_zero]
  refine wpAnyH_ready (rs := [2]) (by kernel_rfl) (by simp) ?_
  refine AllReadyH.cons rfl (fun KK hKK => ?_) AllReadyH.nil
  go_simp
  refine (vcheck_any w5.drew x.2.1.1.1 x.2.1.2.1.1 x.2.1.2.2.1 x.2.1.1.2 x.2.1.2.1.2 x.2.1.2.2.2 x.1.2.2.1.1 x.1.2.2.1.2.1 x.1.2.2.1.2.2 HX.out.max.1.1 HX.out.max.1.2.1 HX.out.max.1.2.2 HX.out.nils.2 (HX.out.keep hHeld.2).lr (HX.out.keep hHeld.2).lk (HX.out.keep hHeld.2).lv).mono ?_
  rintro e w6 ⟨rfl, hb⟩
  have hHeld2 := hHeld
  refine hKK.out _ _ ⟨hHeld2.1.keep hb, hHeld2.2.trans (hb.mono hHeld2.2.size)⟩ (fun hHeld => ?_)
  clear hKK KK hHeld2 hb
  refine wpAnyH_ready (rs := [5]) (by kernel_rfl) (by simp) ?_
  refine AllReadyH.cons rfl (fun KK hKK => ?_) AllReadyH.nil
  go_simp
  refine (dcheck_any w6 x.2.2.1.1 x.2.2.2.1.1 x.2.2.2.2.1.1 x.2.2.2.2.2.1 x.2.2.1.2 x.2.2.2.1.2 x.2.2.2.2.1.2 x.2.2.2.2.2.2 x.1.2.2.2.1 x.1.2.2.2.2.1 x.1.2.2.2.2.2.1 x.1.2.2.2.2.2.2 HX.out.max.2 (HX.out.keep hHeld.2).lg (HX.out.keep hHeld.2).lh (HX.out.keep hHeld.2).lx (HX.out.keep hHeld.2).ly).mono ?_
  rintro e w7 ⟨rfl, hb⟩
  have hHeld2 := hHeld
  refine hKK.out _ _ ⟨hHeld2.1.keep hb, hHeld2.2.trans (hb.mono hHeld2.2.size)⟩ (fun hHeld => ?_)
  clear hKK KK hHeld2 hb
  generalize viewE x.1.2.2.1.1 x.1.2.2.1.2.1 x.1.2.2.1.2.2 = e1 at *
  generalize deltaE x.1.2.2.2.1 x.1.2.2.2.2.1 x.1.2.2.2.2.2.1 x.1.2.2.2.2.2.2 = e2 at *
  refine wpAnyH_ready (rs := [6]) (by kernel_rfl) (by simp) ?_
  refine AllReadyH.cons rfl (fun KK hKK => ?_) AllReadyH.nil
  go_simp
  have hHeld2 := hHeld
  have hN := Blk.new w7 [Value.int .i64 e1, .int .i64 e2] 33
  refine hKK.out _ _ ⟨hHeld2.1.alloc _, hHeld2.2.alloc hHeld2.2.size _⟩ (fun hHeld => ?_)
  clear hKK KK hHeld2
  have hHN : Hid (Blk (w7.alloc (Obj.cells [Value.int .i64 e1, .int .i64 e2].toArray 33)) w7.heap.size [Value.int .i64 e1, .int .i64 e2]) := hN
  clear hN
  refine wpAnyH_ready (rs := [7]) (by kernel_rfl) (by simp) ?_
  refine AllReadyH.cons rfl (fun KK hKK => ?_) AllReadyH.nil
  go_simp
  refine (orE_any _ w7.heap.size 2 e1 e2 (hHN.out.at 0 rfl) (hHN.out.at 1 rfl)).mono ?_
  rintro e w8 ⟨rfl, hw8⟩
  have hHeld2 := hHeld
  refine hKK.out _ _ (by rw [hw8]; exact hHeld2) (fun hHeld => ?_)
  clear hKK KK hHeld2
  refine take_yes 8 2 (v := ?_) rfl rfl (by kernel_rfl) (by kernel_rfl) (by kernel_rfl) (fun _ _ _ h => h) (by rfl) ?_ hHeld ?_
  rotate_left 1
  · (intro w9 hSw; skip; go_simp; try with_reducible rfl)
  simp only [Act.put, List.setIfInBounds_toArray, List.set_cons_succ, List.set_cons_zero]
  refine wpAnyH_done (by kernel_rfl) ?_ _
  have HB9 := Lib.hid hHeld.2
  clear hHeld hw8 hHN
  generalize orI e1 e2 = e3 at *
  go_wp2
  go_ret
  exact ⟨ret_int HE.out.symm, HB9.out⟩
end Go.Proofs.YtijjiccgpobjmaeGreat

/- way.checkMail, Check, Same. -/
namespace Go.Proofs.YtijjiccgpobjmaeGreat
open Go.ChangeShapes Go.WideShapes Go.ChangeAt Go.RowKit
open Orangery (Pl Mv Vw Dl Ml noVw noDl noMl noOp checkOp viewME deltaME viewE deltaE orI seeRange ml1E mlsE mlE)

set_option maxHeartbeats 4000000 in
set_option maxRecDepth 100000 in
theorem wcheckMail_any (w : World) (x : Mm) (hx : MlIn w x) : Calls Tryz.prog 80 #[x.val] w fun e w' => e = .returned (.int .i64 (ml1E x.1)) ∧ Below w.heap.size w w' := by
  obtain ⟨E, hE⟩ : ∃ E, E = ml1E x.1 := ⟨_, rfl⟩
  have H4 : Hid (¬ (1 ≤ x.1.1.1 ∧ x.1.1.1 ≤ 3) → E = 4) := fun h => by rw [hE]; unfold ml1E; rw [if_pos h]
  have H5 : Hid ((1 ≤ x.1.1.1 ∧ x.1.1.1 ≤ 3) → ¬ (0 ≤ x.1.1.2.1 ∧ x.1.1.2.1 ≤ 2) → E = 5) := fun h1 h => by rw [hE]; unfold ml1E; rw [if_neg (by simpa using h1), if_pos h]
  have HM : Hid ((1 ≤ x.1.1.1 ∧ x.1.1.1 ≤ 3) → (0 ≤ x.1.1.2.1 ∧ x.1.1.2.1 ≤ 2) → E = if sameMl x.1 (usedM x).1 = false then 4 else if x.1.1.1 = 1 then (if x.1.2.1.2.1 ≠ x.1.1.2.1 then 4 else checkOp x.1.2.1) else if seeRange x.1 = true then orI (viewME x.1.2.2.1) (deltaME x.1.2.2.2) else 3) := fun h1 h2 => by rw [hE]; exact ml1_used h1 h2
  rw [← hE]
  clear hE
  obtain ⟨cx, hcx⟩ : ∃ c, c = mlC x := ⟨_, rfl⟩
  show Calls Tryz.prog _ #[.agg (mlC x).toArray] w _
  rw [← hcx]
  obtain ⟨W0, hW, hA, hB, -⟩ := laid1 w cx 52
  have HAX : Hid (∀ W, Blk W w.heap.size cx → Blk W w.heap.size (mlC x)) := fun W h => by rw [← hcx]; exact h
  have HX := Lib.hid hx
  have HB0 := Lib.hid hB
  have HI1 : Hid ((Tryz.prog.info? 52).map (·.size) = some cx.length) := by show _ = _; rw [hcx]; exact sizeMailC x
  have HCU : Hid ((1 ≤ x.1.1.1 ∧ x.1.1.1 ≤ 3) → ∀ W, Below w.heap.size w W → Calls Tryz.prog 106 #[.agg cx.toArray] W fun e w' => ∃ y : Mm, e = .returned y.val ∧ y = usedM x ∧ MlIn w' y ∧ Below W.heap.size W w') := fun h W hb => by rw [hcx]; exact wused_any W x (hx.keep hb) h
  have HCA : Hid (∀ W (y : Mm), Below w.heap.size w W → MlIn W y → Calls Tryz.prog 105 #[.agg cx.toArray, y.val] W fun e w' => e = .returned (.bool (sameMl x.1 y.1)) ∧ Below W.heap.size W w') := fun W y hb hy => by rw [hcx]; exact walike_any W x y (hx.keep hb) hy
  have HCO : Hid (∀ W, Calls Tryz.prog 107 #[.agg cx.toArray] W fun e w' => e = .returned (.int .i64 (if x.1.2.1.2.1 ≠ x.1.1.2.1 then 4 else checkOp x.1.2.1)) ∧ Below W.heap.size W w') := fun W => by rw [hcx]; exact wcheckOp_any W x
  have HCN : Hid (∀ W, Below w.heap.size w W → Calls Tryz.prog 108 #[.agg cx.toArray] W fun e w' => e = .returned (.int .i64 (if seeRange x.1 = true then orI (viewME x.1.2.2.1) (deltaME x.1.2.2.2) else 3)) ∧ Below W.heap.size W w') := fun W hb => by rw [hcx]; exact wcheckNews_any W x (hx.keep hb)
  have x0 := (HAX.out _ hA).at 0 rfl
  have x1 := (HAX.out _ hA).at 1 rfl
  have HA := Lib.hid hA
  clear hx hB hA hcx
  by_cases hk : 1 ≤ x.1.1.1 ∧ x.1.1.1 ≤ 3
  case neg =>
    have HE := Lib.hid (H4.out hk)
    have d1 : (x.1.1.1 != 1) = true := by simp; omega
    have d2 : (x.1.1.1 != 2) = true := by simp; omega
    have d3 : (x.1.1.1 != 3) = true := by simp; omega
    clear hk H4 H5 HM
    go_enter Tryz.func80, Tryz.ntmps80
    go_wp2
    go_ret
    exact ⟨ret_int HE.out.symm, HB0.out⟩
  have HK := Lib.hid hk
  have hkk : x.1.1.1 = 1 ∨ x.1.1.1 = 2 ∨ x.1.1.1 = 3 := by omega
  have HKK := Lib.hid hkk
  clear hk H4
  go_enter Tryz.func80, Tryz.ntmps80
  go_upto_region 1 with fail
  clear hW
  go_cut [3] from 4 to 16 (fun v wc => v = .bool false ∧ wc = W0)
  case first =>
    rcases HKK.out with h | h | h
    · have d1 : (x.1.1.1 != 1) = false := by simp; omega
      clear h hkk
      go_wp2
      go_meet
      case rel => exact ⟨rfl, rfl⟩
    · have d1 : (x.1.1.1 != 1) = true := by simp; omega
      have d2 : (x.1.1.1 != 2) = false := by simp; omega
      clear h hkk
      go_wp2
      go_meet
      case rel => exact ⟨rfl, rfl⟩
    · have d1 : (x.1.1.1 != 1) = true := by simp; omega
      have d2 : (x.1.1.1 != 2) = true := by simp; omega
      have d3 : (x.1.1.1 != 3) = false := by simp; omega
      clear h hkk
      go_wp2
      go_meet
      case rel => exact ⟨rfl, rfl⟩
  case rest =>
  obtain ⟨rfl, hwc⟩ := hcut
  subst hwc
  clear hkk
  go_wp2_with fail
  refine (wwithin_any wc x.1.1.2.1 0 2).mono ?_
  rintro e w1 ⟨rfl, hb⟩
  have HA1 := Lib.hid (HA.out.keep hb)
  have HB1 := Lib.hid (HB0.out.trans (hb.mono HB0.out.size))
  clear hb HA HB0 x0 x1
  by_cases hu : 0 ≤ x.1.1.2.1 ∧ x.1.1.2.1 ≤ 2
  case neg =>
    have HE := Lib.hid (H5.out HK.out hu)
    have d1 : inB x.1.1.2.1 0 2 = false := by simp [inB]; omega
    rw [d1]
    clear hu d1 H5 HM
    go_wp2
    go_ret
    exact ⟨ret_int HE.out.symm, HB1.out⟩
  have HM1 := Lib.hid (HM.out HK.out hu)
  have d1 : inB x.1.1.2.1 0 2 = true := by simp [inB]; omega
  rw [d1]
  clear hu d1 H5 HM
  go_upto_region 5 with fail
  refine wp_region_held_drew (S := fun w' => Blk w' w.heap.size cx ∧ Below w.heap.size w w') (by kernel_rfl) ⟨HA1.out.drew, HB1.out.drew⟩ (fun hHeld => ?_)
  refine take_load 0 24 52 w.heap.size cx rfl rfl (by kernel_rfl) (by kernel_rfl) (by kernel_rfl) (fun _ _ _ h => h) (by rfl) (by rfl) (by rfl) (fun w hw => hw.1.range) Tryz.underlying52 rfl HI1.out hHeld ?_
  simp only [Act.put, List.setIfInBounds_toArray, List.set_cons_succ, List.set_cons_zero]
  refine take_load 1 25 52 w.heap.size cx rfl rfl (by kernel_rfl) (by kernel_rfl) (by kernel_rfl) (fun _ _ _ h => h) (by rfl) (by rfl) (by rfl) (fun w hw => hw.1.range) Tryz.underlying52 rfl HI1.out hHeld ?_
  simp only [Act.put, List.setIfInBounds_toArray, List.set_cons_succ, List.set_cons_zero]
  refine wpAnyH_ready (rs := [2]) (by kernel_rfl) (by simp) ?_
  refine AllReadyH.cons rfl (fun KK hKK => ?_) AllReadyH.nil
  go_simp
  refine (HCU.out HK.out w1.drew hHeld.2).mono ?_
  rintro e w2 ⟨y, rfl, hy, hyI, hb⟩
  have HY := Lib.hid hy
  have HYI := Lib.hid hyI
  have hHeld2 := hHeld
  refine hKK.out _ _ ⟨hHeld2.1.keep hb, hHeld2.2.trans (hb.mono hHeld2.2.size)⟩ (fun hHeld => ?_)
  clear hKK KK hHeld2 hb hy hyI
  refine wpAnyH_ready (rs := [3]) (by kernel_rfl) (by simp) ?_
  refine AllReadyH.cons rfl (fun KK hKK => ?_) AllReadyH.nil
  go_simp
  refine (HCA.out w2 y hHeld.2 HYI.out).mono ?_
  rintro e w3 ⟨rfl, hb⟩
  have hHeld2 := hHeld
  refine hKK.out _ _ ⟨hHeld2.1.keep hb, hHeld2.2.trans (hb.mono hHeld2.2.size)⟩ (fun hHeld => ?_)
  clear hKK KK hHeld2 hb HYI
  obtain ⟨sm, hsm⟩ : ∃ b : Bool, b = sameMl x.1 y.1 := ⟨_, rfl⟩
  have HSM : Hid (sm = sameMl x.1 (usedM x).1) := by show _ = _; rw [hsm, HY.out]
  rw [← hsm]
  rw [← HSM.out] at HM1
  clear hsm HY HSM
  refine take_yes 4 28 (v := ?_) rfl rfl (by kernel_rfl) (by kernel_rfl) (by kernel_rfl) (fun _ _ _ h => h) (by rfl) ?_ hHeld ?_
  rotate_left 1
  · (intro w9 hSw; go_simp; try with_reducible rfl)
  simp only [Act.put, List.setIfInBounds_toArray, List.set_cons_succ, List.set_cons_zero]
  refine take_yes 5 23 (v := ?_) rfl rfl (by kernel_rfl) (by kernel_rfl) (by kernel_rfl) (fun _ _ _ h => h) (by rfl) ?_ hHeld ?_
  rotate_left 1
  · (intro w9 hSw; go_simp; try with_reducible rfl)
  simp only [Act.put, List.setIfInBounds_toArray, List.set_cons_succ, List.set_cons_zero]
  refine wpAnyH_done (by kernel_rfl) ?_ _
  have HA3 := Lib.hid hHeld.1
  have HB3 := Lib.hid hHeld.2
  have x0 := (HAX.out _ hHeld.1).at 0 rfl
  clear hHeld
  cases sm
  case false =>
    have HE : Hid (E = 4) := HM1.out
    clear HM1
    go_wp2
    go_ret
    exact ⟨ret_int HE.out.symm, HB3.out⟩
  have HR3 := Lib.hid HA3.out.range
  by_cases h1 : x.1.1.1 = 1
  · have d1 : (x.1.1.1 == 1) = true := by simpa using h1
    have HE : Hid (E = if x.1.2.1.2.1 ≠ x.1.1.2.1 then 4 else checkOp x.1.2.1) := by show _ = _; rw [HM1.out, if_neg (by decide), if_pos h1]
    clear h1 HM1
    go_wp2_with (first | (refine wpList_load_mid rfl 52 _ rfl w.heap.size 0 rfl cx _ HR3.out Tryz.underlying52 rfl HI1.out ?_) | fail)
    refine (HCO.out w3).mono ?_
    rintro e w4 ⟨rfl, hb⟩
    have HB4 := Lib.hid (HB3.out.trans (hb.mono HB3.out.size))
    clear hb HB3 HA3 HR3 x0
    rw [← HE.out]
    go_wp2
    go_ret
    exact ⟨rfl, HB4.out⟩
  · have d1 : (x.1.1.1 == 1) = false := by simpa using h1
    have HE : Hid (E = if seeRange x.1 = true then orI (viewME x.1.2.2.1) (deltaME x.1.2.2.2) else 3) := by show _ = _; rw [HM1.out, if_neg (by decide), if_neg h1]
    clear h1 HM1
    go_wp2_with (first | (refine wpList_load_mid rfl 52 _ rfl w.heap.size 0 rfl cx _ HR3.out Tryz.underlying52 rfl HI1.out ?_) | fail)
    refine (HCN.out w3 HB3.out).mono ?_
    rintro e w4 ⟨rfl, hb⟩
    have HB4 := Lib.hid (HB3.out.trans (hb.mono HB3.out.size))
    clear hb HB3 HA3 HR3 x0
    rw [← HE.out]
    go_wp2
    go_ret
    exact ⟨rfl, HB4.out⟩

theorem mlsE_first' {l : List Ml} {k : Nat} (hk : k < l.length) (h1 : ∀ j, (hj : j < l.length) → j < k → ml1E l[j] = 0) (h2 : ml1E l[k] ≠ 0) : mlsE l = ml1E l[k] := by
  induction l generalizing k with
  | nil => simp at hk
  | cons x l ih =>
    cases k with
    | zero => show (if ml1E x ≠ 0 then ml1E x else mlsE l) = ml1E x; exact if_pos h2
    | succ k =>
      have h0 : ml1E x = 0 := h1 0 (by simp) (by omega)
      show (if ml1E x ≠ 0 then ml1E x else mlsE l) = _
      rw [if_neg (by simp [h0])]
      exact ih (by simpa using hk) (fun j hj hjk => h1 (j + 1) (by simpa using hj) (by omega)) h2
theorem mlsE_none' {l : List Ml} (h1 : ∀ j, (hj : j < l.length) → ml1E l[j] = 0) : mlsE l = 0 := by
  induction l with
  | nil => rfl
  | cons x l ih =>
    show (if ml1E x ≠ 0 then ml1E x else mlsE l) = 0
    have h0 : ml1E x = 0 := h1 0 (by simp)
    rw [if_neg (by simp [h0])]
    exact ih (fun j hj => h1 (j + 1) (by simpa using hj))

set_option maxHeartbeats 4000000 in
set_option maxRecDepth 100000 in
theorem wCheck_any (w : World) (a : Option Addr) (c : Nat) (X : List Mm) (l : List Ml) (hl : X.map (·.1) = l) (hm : X.length ≤ maxLen) (hX : SlM w a X) :
    Calls Tryz.prog 45 #[.slice a X.length c] w fun e w' => e = .returned (.int .i64 (mlE l)) ∧ Below w.heap.size w w' := by
  have hm' : X.length ≤ 9223372036854775807 := hm
  have HX := Lib.hid hX
  have HLL : Hid (X.length = l.length) := by show _ = _; rw [← hl]; simp
  have HAT : Hid (∀ k, (hk : k < X.length) → ∃ h : k < l.length, l[k] = X[k].1) := fun k hk => by subst hl; exact ⟨by simpa using hk, by simp⟩
  clear hX hl hm
  by_cases hbig : 30 < X.length
  · have HE : Hid (mlE l = 2) := by show _ = _; unfold mlE; rw [if_pos (by have := HLL.out; omega)]
    have d1 : decide ((X.length : Int) > 30) = true := by simp; omega
    go_enter Tryz.func45, Tryz.ntmps45
    go_wp2
    go_ret
    exact ⟨ret_int HE.out.symm, Below.refl _ _⟩
  have HE0 : Hid (mlE l = mlsE l) := by show _ = _; unfold mlE; rw [if_neg (by have := HLL.out; omega)]
  have d1 : decide ((X.length : Int) > 30) = false := by simp; omega
  clear hbig
  go_enter Tryz.func45, Tryz.ntmps45
  go_wp2
  clear d1
  go_loopw [11] (fun i W => ∃ k : Nat, k ≤ X.length ∧ i = .int .i64 k ∧ (∀ j, (hj : j < l.length) → j < k → ml1E l[j] = 0) ∧ Below w.heap.size w W) (fun i _ => X.length - (intOf i).toNat)
  case atStart => exact ⟨0, Nat.zero_le _, rfl, fun j _ hj => absurd hj (Nat.not_lt_zero _), Below.refl _ _⟩
  case round =>
    obtain ⟨j, hj, rfl, hno, hb⟩ := hrel
    have HNO := Lib.hid hno
    have HBr := Lib.hid hb
    clear hno hb
    by_cases hlt : j < X.length
    case neg =>
      have HE : Hid (mlE l = 0) := by show _ = _; rw [HE0.out]; exact mlsE_none' (fun i hi => HNO.out i hi (by have := HLL.out; omega))
      clear HNO HE0
      go_wp2
      go_ret
      exact ⟨ret_int HE.out.symm, HBr.out⟩
    have hXr := HX.out.keep HBr.out
    obtain ⟨hp, hpe⟩ := HAT.out j hlt
    obtain ⟨bx, ox, rfl, hbx, hrx⟩ := hXr.reads.at mlC_len j hlt
    have hxi := hXr.each _ (List.getElem_mem hlt)
    have HFI : Hid (ml1E X[j].1 ≠ 0 → mlE l = ml1E X[j].1) := by
      intro he
      rw [← hpe] at he ⊢
      rw [HE0.out]
      exact mlsE_first' hp HNO.out he
    have HNX : Hid (ml1E X[j].1 = 0 → ∀ i, (hi : i < l.length) → i < j + 1 → ml1E l[i] = 0) := by
      intro e i hi hij
      by_cases hij' : i < j
      · exact HNO.out i hi hij'
      · have : i = j := by omega
        subst this
        rw [← hpe] at e
        exact e
    have HRG : Hid (wr.rangeAt bx (ox + j * 21) (mlC X[j])) := hrx
    have HXI := Lib.hid hxi
    clear hrx hXr hpe HNO HE0 hxi
    have hlti : (j : Int) < (X.length : Int) := by omega
    obtain ⟨x, hx⟩ : ∃ x, x = X[j] := ⟨_, rfl⟩
    rw [← hx] at HFI HNX HRG HXI
    clear hx
    have HCL : Hid (∀ W', Below wr.heap.size wr W' → Calls Tryz.prog 80 #[.agg (mlC x).toArray] W' fun e w' => e = .returned (.int .i64 (ml1E x.1)) ∧ Below W'.heap.size W' w') := fun W' hb => wcheckMail_any W' x (HXI.out.keep hb)
    have HI1 := Lib.hid (sizeMailC x)
    have HS1 : Hid ((Tryz.prog.info? 52).map (·.size) = some (mlC x).toArray.size) := sizeMail
    have HO1 : Hid ((mlC x).toArray.all (·.oneCell') = true) := all_oneCell_toArray (mlC_one x)
    have hl1 : zeroMail.length = 21 := rfl
    have hl2 := mlC_len x
    have HZZ : Hid (zeroMail.toArray = #[Value.int .i64 0, .int .i64 0, .int .i64 0, .int .i64 0, .int .i64 0, .int .i64 0, .int .i64 0, .int .i64 0, .int .i64 0, .int .i64 0, .int .i64 0, .int .i64 0, .int .i64 0, .int .i64 0, .slice none 0 0, .slice none 0 0, .slice none 0 0, .slice none 0 0, .slice none 0 0, .slice none 0 0, .slice none 0 0]) := rfl
    generalize mlC x = cx at *
    generalize zeroMail = zc at *
    have hN1 := Blk.new wr zc 52
    have hB1 := Go.Joins.below_alloc1 wr (Obj.cells zc.toArray 52)
    have HT1 : Hid ((wr.alloc (Obj.cells zc.toArray 52)).there wr.heap.size 0 cx.toArray.size) := by show World.there _ _ _ _; have := hN1.there; rw [hl1] at this; simpa [hl2] using this
    have hN2 := hN1.sets cx (by rw [hl1, hl2])
    have hB2 : Below wr.heap.size wr ((wr.alloc (Obj.cells zc.toArray 52)).setCells wr.heap.size 0 cx) := below_sets hB1 wr.heap.size (Nat.le_refl _) cx 0
    rw [HZZ.out] at HT1 hN2 hB2
    have HRG2 := Lib.hid hN2.range
    have HB2 := Lib.hid hB2
    clear hN1 hB1 HZZ hl1 hl2 hN2 hB2
    go_wp2_with (first | (refine wpList_load_mid rfl 52 _ rfl bx (ox + j * 21) rfl cx _ HRG.out Tryz.underlying52 rfl HI1.out ?_) | (with_reducible refine at_store 52 ?_; refine wpList_store_mid rfl 52 _ _ rfl wr.heap.size 0 cx.toArray rfl rfl HT1.out HS1.out HO1.out ?_) | (refine wpList_load_mid rfl 52 _ rfl wr.heap.size 0 rfl cx _ HRG2.out Tryz.underlying52 rfl HI1.out ?_) | fail)
    clear HT1 HS1 HO1 HI1 HRG HRG2
    refine (HCL.out _ HB2.out).mono ?_
    rintro e w4 ⟨rfl, hb4⟩
    have HB4 : Hid (Below w.heap.size w w4) := HBr.out.trans ((HB2.out.trans (hb4.mono HB2.out.size)).mono HBr.out.size)
    clear hb4 HB2 HXI HCL
    by_cases hz : ml1E x.1 = 0
    · have HN9 := Lib.hid (HNX.out hz)
      rw [hz]
      clear hz HFI HNX
      go_wp2
      go_roundw
      case rel => exact ⟨j + 1, hlt, by go_num, HN9.out, HB4.out⟩
      case measure => simp [intOf]; omega
    · have HE := Lib.hid (HFI.out hz)
      have dz : (ml1E x.1 != 0) = true := by simpa using hz
      clear hz HFI HNX
      generalize ml1E x.1 = ez at *
      go_wp2
      go_ret
      exact ⟨ret_int HE.out.symm, HB4.out⟩

theorem enters_walike : ∀ args w, (callFunc 105 args).run Tryz.prog w = .ok (.enter 105 args) w := Go.Proofs.enters_of Tryz.func105 (by kernel_rfl) rfl
end Go.Proofs.YtijjiccgpobjmaeGreat

