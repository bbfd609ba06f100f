/- 5 texts of the proof: Mail in memory; slices.EqualFunc at mail; orangeryref.SameMail. way.within, way.headOf; heads held against each other. A region that draws its order, where a condition on the world holds until one operation (a store) has come up. way.alike: mail held against mail by the program. What is read lies in these blocks; what it is behind a writing of others. -/
import Derived.Test.YtljbchkmoekpmadGreatP03
import Derived.Test.YtljbchkmoekpmadGreatP07
import Derived.Test.YtljbchkmoekpmadGreatP08
import Derived.Test.YtljbchkmoekpmadGreatP09
import Derived.Test.YtljbchkmoekpmadGreatP05
/- Mail in memory; slices.EqualFunc at mail; orangeryref.SameMail. -/
namespace Go.Proofs.YtljbchkmoekpmadGreat
open Go.ChangeShapes Go.WideShapes Go.ChangeAt Go.RowKit
open Orangery (Pl Mv Vw Dl Ml noVw noDl noMl viewME deltaME ml1E mlsE mlE sameV sameD noOp)

/-- an address, and the room there -/
abbrev Ad := Option Addr × Nat
/-- mail in memory: it, where its lists lie -/
abbrev Mm := Ml × (Ad × Ad × Ad) × (Ad × Ad × Ad × Ad)
def mlC (x : Mm) : List Value := [.int .i64 x.1.1.1, .int .i64 x.1.1.2.1, .int .i64 x.1.1.2.2.1, .int .i64 x.1.1.2.2.2.1, .int .i64 x.1.1.2.2.2.2.1, .int .i64 x.1.1.2.2.2.2.2.1, .int .i64 x.1.1.2.2.2.2.2.2, .int .i64 x.1.2.1.1, .int .i64 x.1.2.1.2.1, .int .i64 x.1.2.1.2.2.1.1, .int .i64 x.1.2.1.2.2.1.2.1, .int .i64 x.1.2.1.2.2.1.2.2, .int .i64 x.1.2.1.2.2.2.1, .int .i64 x.1.2.1.2.2.2.2, .slice x.2.1.1.1 x.1.2.2.1.1.length x.2.1.1.2, .slice x.2.1.2.1.1 x.1.2.2.1.2.1.length x.2.1.2.1.2, .slice x.2.1.2.2.1 x.1.2.2.1.2.2.length x.2.1.2.2.2, .slice x.2.2.1.1 x.1.2.2.2.1.length x.2.2.1.2, .slice x.2.2.2.1.1 x.1.2.2.2.2.1.length x.2.2.2.1.2, .slice x.2.2.2.2.1.1 x.1.2.2.2.2.2.1.length x.2.2.2.2.1.2, .slice x.2.2.2.2.2.1 x.1.2.2.2.2.2.2.length x.2.2.2.2.2.2]
abbrev Mm.val (x : Mm) : Value := .agg (mlC x).toArray
theorem mlC_len (x : Mm) : (mlC x).length = 21 := rfl
theorem mlC_one (x : Mm) : ∀ v ∈ mlC x, v.oneCell' = true := by
  intro v hv
  simp only [mlC, List.mem_cons, List.not_mem_nil, or_false] at hv
  rcases hv with rfl | rfl | rfl | rfl | rfl | rfl | rfl | rfl | rfl | rfl | rfl | rfl | rfl | rfl | rfl | rfl | rfl | rfl | rfl | rfl | rfl <;> rfl
theorem ml_cells {w : World} {b o : Nat} {x : Mm} (h : w.rangeAt b o (mlC x)) :
    w.cell? ⟨b, o, none⟩ = some (.int .i64 x.1.1.1) ∧ w.cell? ⟨b, o + 1, none⟩ = some (.int .i64 x.1.1.2.1) ∧ w.cell? ⟨b, o + 2, none⟩ = some (.int .i64 x.1.1.2.2.1) ∧ w.cell? ⟨b, o + 3, none⟩ = some (.int .i64 x.1.1.2.2.2.1) ∧ w.cell? ⟨b, o + 4, none⟩ = some (.int .i64 x.1.1.2.2.2.2.1) ∧ w.cell? ⟨b, o + 5, none⟩ = some (.int .i64 x.1.1.2.2.2.2.2.1) ∧ w.cell? ⟨b, o + 6, none⟩ = some (.int .i64 x.1.1.2.2.2.2.2.2) ∧ w.cell? ⟨b, o + 7, none⟩ = some (.int .i64 x.1.2.1.1) ∧ w.cell? ⟨b, o + 8, none⟩ = some (.int .i64 x.1.2.1.2.1) ∧ w.cell? ⟨b, o + 9, none⟩ = some (.int .i64 x.1.2.1.2.2.1.1) ∧ w.cell? ⟨b, o + 10, none⟩ = some (.int .i64 x.1.2.1.2.2.1.2.1) ∧ w.cell? ⟨b, o + 11, none⟩ = some (.int .i64 x.1.2.1.2.2.1.2.2) ∧ w.cell? ⟨b, o + 12, none⟩ = some (.int .i64 x.1.2.1.2.2.2.1) ∧ w.cell? ⟨b, o + 13, none⟩ = some (.int .i64 x.1.2.1.2.2.2.2) ∧ w.cell? ⟨b, o + 14, none⟩ = some (.slice x.2.1.1.1 x.1.2.2.1.1.length x.2.1.1.2) ∧ w.cell? ⟨b, o + 15, none⟩ = some (.slice x.2.1.2.1.1 x.1.2.2.1.2.1.length x.2.1.2.1.2) ∧ w.cell? ⟨b, o + 16, none⟩ = some (.slice x.2.1.2.2.1 x.1.2.2.1.2.2.length x.2.1.2.2.2) ∧ w.cell? ⟨b, o + 17, none⟩ = some (.slice x.2.2.1.1 x.1.2.2.2.1.length x.2.2.1.2) ∧ w.cell? ⟨b, o + 18, none⟩ = some (.slice x.2.2.2.1.1 x.1.2.2.2.2.1.length x.2.2.2.1.2) ∧ w.cell? ⟨b, o + 19, none⟩ = some (.slice x.2.2.2.2.1.1 x.1.2.2.2.2.2.1.length x.2.2.2.2.1.2) ∧ w.cell? ⟨b, o + 20, none⟩ = some (.slice x.2.2.2.2.2.1 x.1.2.2.2.2.2.2.length x.2.2.2.2.2.2) :=
  ⟨h 0 _ rfl, h 1 _ rfl, h 2 _ rfl, h 3 _ rfl, h 4 _ rfl, h 5 _ rfl, h 6 _ rfl, h 7 _ rfl, h 8 _ rfl, h 9 _ rfl, h 10 _ rfl, h 11 _ rfl, h 12 _ rfl, h 13 _ rfl, h 14 _ rfl, h 15 _ rfl, h 16 _ rfl, h 17 _ rfl, h 18 _ rfl, h 19 _ rfl, h 20 _ rfl⟩
def zeroMail : List Value := [.int .i64 0, .int .i64 0, .int .i64 0, .int .i64 0, .int .i64 0, .int .i64 0, .int .i64 0, .int .i64 0, .int .i64 0, .int .i64 0, .int .i64 0, .int .i64 0, .int .i64 0, .int .i64 0, .slice none 0 0, .slice none 0 0, .slice none 0 0, .slice none 0 0, .slice none 0 0, .slice none 0 0, .slice none 0 0]
theorem sizeMail : (Tryz.prog.info? 74).map (·.size) = some 21 := by kernel_rfl
theorem sizeMailC (x : Mm) : (Tryz.prog.info? 74).map (·.size) = some (mlC x).length := sizeMail
/-- its lists are read -/
structure MlIn (w : World) (x : Mm) : Prop where
  lr : SlI w x.2.1.1.1 x.1.2.2.1.1
  lk : SlP w x.2.1.2.1.1 x.1.2.2.1.2.1
  lv : SlP w x.2.1.2.2.1 x.1.2.2.1.2.2
  lg : SlI w x.2.2.1.1 x.1.2.2.2.1
  lh : SlP w x.2.2.2.1.1 x.1.2.2.2.2.1
  lx : SlI w x.2.2.2.2.1.1 x.1.2.2.2.2.2.1
  ly : SlP w x.2.2.2.2.2.1 x.1.2.2.2.2.2.2
  few : x.1.2.2.1.1.length ≤ 17592186043904 ∧ x.1.2.2.1.2.1.length ≤ 17592186043904 ∧ x.1.2.2.1.2.2.length ≤ 17592186043904 ∧ x.1.2.2.2.1.length ≤ 17592186043904 ∧ x.1.2.2.2.2.1.length ≤ 17592186043904 ∧ x.1.2.2.2.2.2.1.length ≤ 17592186043904 ∧ x.1.2.2.2.2.2.2.length ≤ 17592186043904
  nils : (x.2.1.2.1.1 = none → x.2.1.2.1.2 = 0) ∧ (x.2.1.2.2.1 = none → x.2.1.2.2.2 = 0)
theorem MlIn.keep {w w' : World} {x : Mm} (h : MlIn w x) (hb : Below w.heap.size w w') : MlIn w' x :=
  ⟨h.lr.below hb, h.lk.below hb, h.lv.below hb, h.lg.below hb, h.lh.below hb, h.lx.below hb, h.ly.below hb, h.few, h.nils⟩
theorem MlIn.max {w : World} {x : Mm} (h : MlIn w x) : (x.1.2.2.1.1.length ≤ maxLen ∧ x.1.2.2.1.2.1.length ≤ maxLen ∧ x.1.2.2.1.2.2.length ≤ maxLen) ∧ (x.1.2.2.2.1.length ≤ maxLen ∧ x.1.2.2.2.2.1.length ≤ maxLen ∧ x.1.2.2.2.2.2.1.length ≤ maxLen ∧ x.1.2.2.2.2.2.2.length ≤ maxLen) := by
  have hf := h.few
  unfold maxLen
  omega
/-- a row of mail that is read -/
structure SlM (w : World) (a : Option Addr) (X : List Mm) : Prop where
  reads : SlE mlC w a X
  each : ∀ x ∈ X, MlIn w x
theorem SlM.keep {w w' : World} {a : Option Addr} {X : List Mm} (h : SlM w a X) (hb : Below w.heap.size w w') : SlM w' a X := ⟨h.reads.below hb, fun x hx => (h.each x hx).keep hb⟩
theorem SlM.nil {w : World} {a : Option Addr} : SlM w a [] := ⟨Or.inl rfl, fun x hx => by simp at hx⟩

def sameMl (x y : Ml) : Bool := decide (x.1 = y.1) && decide (x.2.1 = y.2.1) && decide (x.2.2.1 = y.2.2.1) && decide (x.2.2.2 = y.2.2.2)
theorem sameMl_iff (x y : Ml) : sameMl x y = true ↔ x = y := by
  obtain ⟨x1, x2, x3, x4⟩ := x
  obtain ⟨y1, y2, y3, y4⟩ := y
  simp [sameMl, and_assoc]
theorem sameMl_self (x : Ml) : sameMl x x = true := (sameMl_iff x x).2 rfl
theorem sameMl_no {x y : Ml} (h : x ≠ y) : sameMl x y = false := by
  cases hq : sameMl x y
  · rfl
  · exact absurd ((sameMl_iff x y).1 hq) h
def eqMs : List Mm → List Mm → Bool
  | [], [] => true
  | x :: X, y :: Y => sameMl x.1 y.1 && eqMs X Y
  | _, _ => false
theorem eqMs_iff (X : List Mm) : ∀ Y : List Mm, eqMs X Y = true ↔ X.map (·.1) = Y.map (·.1) := by
  induction X with
  | nil =>
    intro Y
    cases Y with
    | nil => simp [eqMs]
    | cons y Y => simp [eqMs]
  | cons x X ih =>
    intro Y
    cases Y with
    | nil => simp [eqMs]
    | cons y Y =>
      rw [eqMs, Bool.and_eq_true, sameMl_iff, ih Y]
      simp
theorem eqMs_yes {X Y : List Mm} (h : X.map (·.1) = Y.map (·.1)) : eqMs X Y = true := (eqMs_iff X Y).2 h
theorem eqMs_no {X Y : List Mm} (h : X.map (·.1) ≠ Y.map (·.1)) : eqMs X Y = false := by
  cases hq : eqMs X Y
  · rfl
  · exact absurd ((eqMs_iff X Y).1 hq) h
theorem mapM_ne {X Y : List Mm} {k : Nat} (hx : k < X.length) (hy : k < Y.length) (h : X[k].1 ≠ Y[k].1) : X.map (·.1) ≠ Y.map (·.1) := by
  intro e
  have h1 : (X.map (·.1))[k]? = some X[k].1 := by simp [hx]
  have h2 : (Y.map (·.1))[k]? = some Y[k].1 := by simp [hy]
  rw [e, h2] at h1
  exact h (by simpa using h1.symm)

set_option maxHeartbeats 4000000 in
set_option maxRecDepth 100000 in
theorem eqFuncM_any (w : World) (a a' : Option Addr) (c c' : Nat) (X Y : List Mm) (g : Nat) (hl : X.length ≤ maxLen) (hx : SlM w a X) (hy : SlM w a' Y)
    (eg : ∀ args w, (callFunc g args).run Tryz.prog w = .ok (.enter g args) w)
    (hg : ∀ W (x y : Mm), MlIn W x → MlIn W y → Calls Tryz.prog g #[x.val, y.val] W fun e w' => e = .returned (.bool (sameMl x.1 y.1)) ∧ Below W.heap.size W w') :
    Calls Tryz.prog 81 #[.slice a X.length c, .slice a' Y.length c', .func (.func g) #[] #[]] w
      fun e w' => e = .returned (.bool (eqMs X Y)) ∧ Below w.heap.size w w' := by
  have hl' : X.length ≤ 9223372036854775807 := hl
  have HX := Lib.hid hx
  have HY := Lib.hid hy
  have HG := Lib.hid hg
  clear hx hy hg hl
  by_cases hlen : X.length = Y.length
  case neg =>
    have d1 : ((X.length : Int) != (Y.length : Int)) = true := by simp; omega
    have HE : Hid (eqMs X Y = false) := eqMs_no (by intro e; have := congrArg List.length e; simp at this; omega)
    clear hlen
    go_enter Tryz.func81, Tryz.ntmps81
    go_wp2
    go_ret
    exact ⟨ret_bool HE.out.symm, Below.refl _ _⟩
  have d1 : ((X.length : Int) != (Y.length : Int)) = false := by simp; omega
  have hl2 : Y.length ≤ 9223372036854775807 := by omega
  have HLEN : Hid (X.length = Y.length) := hlen
  clear hlen
  go_enter Tryz.func81, Tryz.ntmps81
  go_wp2
  go_loopw [17] (fun i W => ∃ k : Nat, k ≤ X.length ∧ i = .int .i64 k ∧ (X.take k).map (·.1) = (Y.take k).map (·.1) ∧ Below w.heap.size w W) (fun i _ => X.length - (intOf i).toNat)
  case atStart => exact ⟨0, Nat.zero_le _, rfl, rfl, Below.refl _ _⟩
  case round =>
    obtain ⟨j, hj, rfl, hpre, hb⟩ := hrel
    have HP : Hid ((X.take j).map (·.1) = (Y.take j).map (·.1)) := hpre
    have HB := Lib.hid hb
    clear hpre hb
    by_cases hlt : j < X.length
    case neg =>
      have HE : Hid (eqMs X Y = true) := by
        refine eqMs_yes ?_
        have e := HP.out
        rw [List.take_of_length_le (by omega), List.take_of_length_le (by have := HLEN.out; omega)] at e
        exact e
      go_wp2
      go_ret
      exact ⟨ret_bool HE.out.symm, HB.out⟩
    have hlt2 : j < Y.length := by have := HLEN.out; omega
    have hXr := HX.out.keep HB.out
    have hYr := HY.out.keep HB.out
    obtain ⟨bx, ox, rfl, hbx, hrx⟩ := hXr.reads.at mlC_len j hlt
    obtain ⟨by', oy, rfl, hby, hry⟩ := hYr.reads.at mlC_len j hlt2
    have HRX := Lib.hid (hXr.each _ (List.getElem_mem hlt))
    have HRY := Lib.hid (hYr.each _ (List.getElem_mem hlt2))
    have HTA : Hid ((X.take (j + 1)).map (·.1) = (X.take j).map (·.1) ++ [X[j].1]) := by show _ = _; rw [List.take_succ_eq_append_getElem hlt, List.map_append]; rfl
    have HTB : Hid ((Y.take (j + 1)).map (·.1) = (Y.take j).map (·.1) ++ [Y[j].1]) := by show _ = _; rw [List.take_succ_eq_append_getElem hlt2, List.map_append]; rfl
    have HNE : Hid (X[j].1 ≠ Y[j].1 → X.map (·.1) ≠ Y.map (·.1)) := mapM_ne hlt hlt2
    have HRGX : Hid (wr.rangeAt bx (ox + j * 21) (mlC X[j])) := hrx
    have HRGY : Hid (wr.rangeAt by' (oy + j * 21) (mlC Y[j])) := hry
    clear hrx hry hXr hYr
    have hlti : (j : Int) < (Y.length : Int) := by omega
    generalize X[j] = x at *
    generalize Y[j] = y at *
    have HGC : Hid (∀ W', Below wr.heap.size wr W' → Calls Tryz.prog g #[.agg (mlC x).toArray, .agg (mlC y).toArray] W' fun e w' => e = .returned (.bool (sameMl x.1 y.1)) ∧ Below W'.heap.size W' w') := fun W' hw => HG.out W' x y (HRX.out.keep hw) (HRY.out.keep hw)
    have HI1 := Lib.hid (sizeMailC x)
    have HI2 := Lib.hid (sizeMailC y)
    have HS1 : Hid ((Tryz.prog.info? 74).map (·.size) = some (mlC x).toArray.size) := sizeMail
    have HS2 : Hid ((Tryz.prog.info? 74).map (·.size) = some (mlC y).toArray.size) := sizeMail
    have HO1 : Hid ((mlC x).toArray.all (·.oneCell') = true) := all_oneCell_toArray (mlC_one x)
    have HO2 : Hid ((mlC y).toArray.all (·.oneCell') = true) := all_oneCell_toArray (mlC_one y)
    have hl1 : zeroMail.length = 21 := rfl
    have hl2 := mlC_len x
    have hl3 := mlC_len y
    have HZZ : Hid (zeroMail.toArray = #[Value.int .i64 0, .int .i64 0, .int .i64 0, .int .i64 0, .int .i64 0, .int .i64 0, .int .i64 0, .int .i64 0, .int .i64 0, .int .i64 0, .int .i64 0, .int .i64 0, .int .i64 0, .int .i64 0, .slice none 0 0, .slice none 0 0, .slice none 0 0, .slice none 0 0, .slice none 0 0, .slice none 0 0, .slice none 0 0]) := rfl
    generalize mlC x = cx at *
    generalize mlC y = cy at *
    generalize zeroMail = zc at *
    have hN1 := Blk.new wr zc 74
    have hB1 := Go.Joins.below_alloc1 wr (Obj.cells zc.toArray 74)
    have HT1 : Hid ((wr.alloc (Obj.cells zc.toArray 74)).there wr.heap.size 0 cx.toArray.size) := by show World.there _ _ _ _; have := hN1.there; rw [hl1] at this; simpa [hl2] using this
    have hN2 := hN1.sets cx (by rw [hl1, hl2])
    have hB2 : Below wr.heap.size wr ((wr.alloc (Obj.cells zc.toArray 74)).setCells wr.heap.size 0 cx) := below_sets hB1 wr.heap.size (Nat.le_refl _) cx 0
    have HRY2 : Hid (((wr.alloc (Obj.cells zc.toArray 74)).setCells wr.heap.size 0 cx).rangeAt by' (oy + j * 21) cy) := fun i v hv => by rw [hB2.cell (by exact hby)]; exact HRGY.out i v hv
    have hz2 : ((wr.alloc (Obj.cells zc.toArray 74)).setCells wr.heap.size 0 cx).heap.size = wr.heap.size + 1 := by simp
    have hN3 := Blk.new ((wr.alloc (Obj.cells zc.toArray 74)).setCells wr.heap.size 0 cx) zc 74
    rw [hz2] at hN3
    have hM3 := hN2.alloc (Obj.cells zc.toArray 74)
    have hB3 : Below wr.heap.size wr (((wr.alloc (Obj.cells zc.toArray 74)).setCells wr.heap.size 0 cx).alloc (Obj.cells zc.toArray 74)) := hB2.alloc hB2.size _
    have HT3 : Hid ((((wr.alloc (Obj.cells zc.toArray 74)).setCells wr.heap.size 0 cx).alloc (Obj.cells zc.toArray 74)).there (wr.heap.size + 1) 0 cy.toArray.size) := by show World.there _ _ _ _; have := hN3.there; rw [hl1] at this; simpa [hl3] using this
    have hN4 := hN3.sets cy (by rw [hl1, hl3])
    have hM4 := hM3.others (by omega : wr.heap.size ≠ wr.heap.size + 1) cy 0
    have HB4 : Hid (Below wr.heap.size wr ((((wr.alloc (Obj.cells zc.toArray 74)).setCells wr.heap.size 0 cx).alloc (Obj.cells zc.toArray 74)).setCells (wr.heap.size + 1) 0 cy)) := below_sets hB3 (wr.heap.size + 1) (by omega) cy 0
    have HX4 : Hid (((((wr.alloc (Obj.cells zc.toArray 74)).setCells wr.heap.size 0 cx).alloc (Obj.cells zc.toArray 74)).setCells (wr.heap.size + 1) 0 cy).rangeAt wr.heap.size 0 cx) := hM4.range
    have HY4 : Hid (((((wr.alloc (Obj.cells zc.toArray 74)).setCells wr.heap.size 0 cx).alloc (Obj.cells zc.toArray 74)).setCells (wr.heap.size + 1) 0 cy).rangeAt (wr.heap.size + 1) 0 cy) := hN4.range
    clear hN1 hB1 hN2 hB2 hN3 hM3 hB3 hN4 hM4 hz2 hl1 hl2 hl3
    rw [HZZ.out] at HT1 HRY2 HT3 HB4 HX4 HY4
    clear HZZ
    go_wp2_with (first | (refine wpList_load_mid rfl 74 _ rfl bx (ox + j * 21) rfl cx _ HRGX.out Tryz.underlying74 rfl HI1.out ?_) | (refine wpList_load_mid rfl 74 _ rfl by' (oy + j * 21) rfl cy _ HRY2.out Tryz.underlying74 rfl HI2.out ?_) | (refine wpList_load_mid rfl 74 _ rfl wr.heap.size 0 rfl cx _ HX4.out Tryz.underlying74 rfl HI1.out ?_) | (refine wpList_load_mid rfl 74 _ rfl (wr.heap.size + 1) 0 rfl cy _ HY4.out Tryz.underlying74 rfl HI2.out ?_) | (with_reducible refine at_store 74 ?_; refine wpList_store_mid rfl 74 _ _ rfl wr.heap.size 0 cx.toArray rfl rfl HT1.out HS1.out HO1.out ?_) | (with_reducible refine at_store 74 ?_; refine wpList_store_mid rfl 74 _ _ rfl (wr.heap.size + 1) 0 cy.toArray rfl rfl HT3.out HS2.out HO2.out ?_) | fail)
    clear HT1 HT3 HRY2 HRGX HRGY HX4 HY4 HI1 HI2 HO1 HO2 HS1 HS2
    refine (HGC.out _ HB4.out).mono ?_
    rintro e w3 ⟨rfl, hb3⟩
    have HB3 := Lib.hid (HB.out.trans ((HB4.out.trans (hb3.mono HB4.out.size)).mono HB.out.size))
    clear hb3 HRX HRY HB4 HGC
    by_cases hq : x.1 = y.1
    · rw [(sameMl_iff _ _).2 hq]
      have HQ : Hid (x.1 = y.1) := hq
      clear hq
      go_wp2
      go_roundw
      case rel => exact ⟨j + 1, hlt, by go_num, by rw [HTA.out, HTB.out, HP.out, HQ.out], HB3.out⟩
      case measure => simp [intOf]; omega
    · rw [sameMl_no hq]
      have HE : Hid (eqMs X Y = false) := eqMs_no (HNE.out hq)
      clear hq
      go_wp2
      go_ret
      exact ⟨ret_bool HE.out.symm, HB3.out⟩
end Go.Proofs.YtljbchkmoekpmadGreat

/- way.within, way.headOf; heads held against each other. -/
namespace Go.Proofs.YtljbchkmoekpmadGreat
open Go.ChangeShapes Go.WideShapes Go.ChangeAt Go.RowKit
open Orangery (Pl Mv Vw Dl Ml noVw noDl noMl)

set_option maxHeartbeats 1000000 in
theorem wwithin_any (w : World) (n a b : Int) : Calls Tryz.prog 113 #[.int .i64 n, .agg #[.int .i64 a, .int .i64 b]] w fun e w' => e = .returned (.bool (inB n a b)) ∧ Below w.heap.size w w' := by
  obtain ⟨W0, hW, hA, hB, -⟩ := laid1 w [Value.int .i64 a, .int .i64 b] 152
  have x0 := hA.at 0 rfl
  have x1 := hA.at 1 rfl
  have HB := Lib.hid hB
  clear hA hB
  by_cases h1 : a ≤ n
  case neg =>
    have HE : Hid (inB n a b = false) := by show _ = _; simp [inB]; omega
    go_enter Tryz.func113, Tryz.ntmps113
    go_wp2
    go_ret
    exact ⟨ret_bool HE.out.symm, HB.out⟩
  by_cases h2 : n ≤ b
  · have HE : Hid (inB n a b = true) := by show _ = _; simp [inB]; omega
    go_enter Tryz.func113, Tryz.ntmps113
    go_wp2
    go_ret
    exact ⟨ret_bool HE.out.symm, HB.out⟩
  · have HE : Hid (inB n a b = false) := by show _ = _; simp [inB]; omega
    go_enter Tryz.func113, Tryz.ntmps113
    go_wp2
    go_ret
    exact ⟨ret_bool HE.out.symm, HB.out⟩

/-- all of a mail that has no lists -/
def hdC (m : Ml) : List Value := [.int .i64 m.1.1, .int .i64 m.1.2.1, .int .i64 m.1.2.2.1, .int .i64 m.1.2.2.2.1, .int .i64 m.1.2.2.2.2.1, .int .i64 m.1.2.2.2.2.2.1, .int .i64 m.1.2.2.2.2.2.2, .int .i64 m.2.1.1, .int .i64 m.2.1.2.1, .int .i64 m.2.1.2.2.1.1, .int .i64 m.2.1.2.2.1.2.1, .int .i64 m.2.1.2.2.1.2.2, .int .i64 m.2.1.2.2.2.1, .int .i64 m.2.1.2.2.2.2]
theorem sizeHead : (Tryz.prog.info? 154).map (·.size) = some 14 := by kernel_rfl
set_option maxHeartbeats 2000000 in
set_option maxRecDepth 100000 in
theorem whead_any (w : World) (x : Mm) : Calls Tryz.prog 117 #[x.val] w fun e w' => e = .returned (.agg (hdC x.1).toArray) ∧ Below w.heap.size w w' := by
  obtain ⟨cx, hcx⟩ : ∃ c, c = mlC x := ⟨_, rfl⟩
  have HCX : Hid (cx = mlC x) := hcx
  show Calls Tryz.prog _ #[.agg (mlC x).toArray] w _
  rw [← hcx]
  clear hcx
  obtain ⟨W0, hW, hA, hC, hB, -⟩ := laid2 w cx 74 [Value.int .i64 0, .int .i64 0, .int .i64 0, .int .i64 0, .int .i64 0, .int .i64 0, .int .i64 0, .int .i64 0, .int .i64 0, .int .i64 0, .int .i64 0, .int .i64 0, .int .i64 0, .int .i64 0] 154
  rw [HCX.out] at hA
  have x0 := hA.at 0 rfl
  have x1 := hA.at 1 rfl
  have x2 := hA.at 2 rfl
  have x3 := hA.at 3 rfl
  have x4 := hA.at 4 rfl
  have x5 := hA.at 5 rfl
  have x6 := hA.at 6 rfl
  have x7 := hA.at 7 rfl
  have x8 := hA.at 8 rfl
  have x9 := hA.at 9 rfl
  have x10 := hA.at 10 rfl
  have x11 := hA.at 11 rfl
  have x12 := hA.at 12 rfl
  have x13 := hA.at 13 rfl
  have HC := Lib.hid hC
  have HB := Lib.hid hB
  clear hA hB hC HCX
  have HT : Hid (W0.there (w.heap.size + 1) 0 (hdC x.1).toArray.size) := HC.out.there
  have HO : Hid ((hdC x.1).toArray.all (·.oneCell') = true) := all_oneCell_toArray (by intro v hv; simp only [hdC, List.mem_cons, List.not_mem_nil, or_false] at hv; rcases hv with rfl | rfl | rfl | rfl | rfl | rfl | rfl | rfl | rfl | rfl | rfl | rfl | rfl | rfl <;> rfl)
  have HS : Hid ((Tryz.prog.info? 154).map (·.size) = some (hdC x.1).toArray.size) := sizeHead
  go_enter Tryz.func117, Tryz.ntmps117
  go_wp2_with (first | (with_reducible refine at_store 154 ?_; refine wpList_store_mid rfl 154 _ _ rfl (w.heap.size + 1) 0 (hdC x.1).toArray rfl rfl HT.out HS.out HO.out ?_) | fail)
  have hR := HC.out.sets (hdC x.1) rfl
  refine ret_cell Tryz.results117 rfl (hR.load Tryz.underlying154 rfl sizeHead) ?_
  exact ⟨rfl, below_sets HB.out (w.heap.size + 1) (by omega) _ _⟩

theorem eqg_head (n : Nat) (a b : Ml) (w : World) :
    (Op.equalIn (n + 4) 154 (.agg (hdC a).toArray) (.agg (hdC b).toArray)).run Tryz.prog w = .ok (decide (a.1 = b.1 ∧ a.2.1 = b.2.1)) w := by
  obtain ⟨⟨a1, a2, a3, a4, a5, a6, a7⟩, o, -⟩ := a
  obtain ⟨⟨b1, b2, b3, b4, b5, b6, b7⟩, p, -⟩ := b
  have u3 := Tryz.underlying3
  have a3' := Tryz.isAgg3
  have z3 := Tryz.sizeOf3
  have a4' := Tryz.isAgg35
  have z4 := Tryz.sizeOf35
  have hS : Tryz.prog.underlying 154 = some (.struct (Tryz.prog.fieldsOf 154)) := by kernel_rfl
  have hp : Tryz.prog.stoodInHeld 154 = false := by kernel_rfl
  have hop := eqg_op n o p
  simp only [hdC]
  rw [run_equalIn_agg w (n + 3) 154 _ _ hS hp]
  simp only [Program.fieldsOf, Tryz.underlying154]
  go_simp
  by_cases h1 : a1 = b1
  case neg => simp [h1]
  by_cases h2 : a2 = b2
  case neg => simp [h1, h2]
  by_cases h3 : a3 = b3
  case neg => simp [h1, h2, h3]
  by_cases h4 : a4 = b4
  case neg => simp [h1, h2, h3, h4]
  by_cases h5 : a5 = b5
  case neg => simp [h1, h2, h3, h4, h5]
  by_cases h6 : a6 = b6
  case neg => simp [h1, h2, h3, h4, h5, h6]
  by_cases h7 : a7 = b7
  case neg => simp [h1, h2, h3, h4, h5, h6, h7]
  by_cases h8 : o = p <;> simp [h1, h2, h3, h4, h5, h6, h7, h8]
theorem run_eql_head (a b : Ml) (w : World) : (binOp .eql 154 (.agg (hdC a).toArray) (.agg (hdC b).toArray)).run Tryz.prog w = .ok (.bool (decide (a.1 = b.1 ∧ a.2.1 = b.2.1))) w := by
  have e1 := eqg_head 9996 a b w
  rw [run_eql_struct, show (10000 : Nat) = 9996 + 4 from rfl, e1]
  rfl
theorem guard_head (op : BinOp) (x y : Operand) (xs ys : Array Value) (w : World) : (eqGuard op 154 x y (.agg xs) (.agg ys)).run Tryz.prog w = .ok () w :=
  run_eqGuard_agg w op 154 x y xs ys (by kernel_rfl)
end Go.Proofs.YtljbchkmoekpmadGreat

/- A region that draws its order, where a condition on the world holds until one operation (a store) has come up. -/
namespace Go.Proofs.YtljbchkmoekpmadGreat
open Go.ChangeShapes Go.WideShapes Go.ChangeAt Go.RowKit

/-- does operation st wait for operation i (by whatever others)? -/
def waitsOn (md : Region.Mode) (ops : Array Oper) (i : Nat) : Nat → Nat → Bool
  | 0, _ => false
  | n + 1, st => ((ops[st]?).map fun o => o.after.any fun e => Region.binds md e && (e.on == i || waitsOn md ops i n e.on)).getD false
/-- whatever has come up: what it waited for has come up -/
def closedB (md : Region.Mode) (ops : Array Oper) (listed : Array Bool) : Bool :=
  (List.range ops.size).all fun j => !listed.getD j false || ((ops[j]?).map fun o => o.after.all fun e => !Region.binds md e || listed.getD e.on false).getD true

section
variable {P : Program} {ops : Array Oper} {Q : Exit → Act → World → Prop} {md : Region.Mode} {S : World → Prop}

theorem closed_at {listed : Array Bool} (h : closedB md ops listed = true) {j : Nat} {o : Oper} (ho : ops[j]? = some o) (hl : listed.getD j false = true) {e : Edge} (he : e ∈ o.after) (hb : Region.binds md e = true) : listed.getD e.on false = true := by
  have hj : j < ops.size := (Array.getElem?_eq_some_iff.1 ho).1
  unfold closedB at h
  rw [List.all_eq_true] at h
  have h1 := h j (List.mem_range.2 hj)
  rw [ho, hl] at h1
  simp only [Bool.not_true, Bool.false_or, Option.map_some, Option.getD_some, Array.all_eq_true_iff_forall_mem] at h1
  have h2 := h1 e he
  rw [hb] at h2
  simpa using h2
theorem closed_set {listed : Array Bool} (h : closedB md ops listed = true) {j : Nat} (hr : j ∈ Region.ready md ops listed) : closedB md ops (listed.setIfInBounds j true) = true := by
  obtain ⟨_, oj, hoj, hall⟩ := mem_ready.1 hr
  unfold closedB
  rw [List.all_eq_true]
  intro k hk
  cases ho : ops[k]? with
  | none => simp
  | some o =>
    cases hl : (listed.setIfInBounds j true).getD k false with
    | false => simp
    | true =>
      simp only [Bool.not_true, Bool.false_or, Option.map_some, Option.getD_some, Array.all_eq_true_iff_forall_mem]
      intro e he
      cases hb : Region.binds md e with
      | false => simp
      | true =>
        simp only [Bool.not_true, Bool.false_or]
        refine getD_set_true ?_
        by_cases hkj : j = k
        · subst hkj
          rw [hoj] at ho
          obtain rfl : oj = o := by simpa using ho
          exact hall e he hb
        · rw [getD_set_ne false hkj] at hl
          exact closed_at h ho hl he hb
theorem listed_of_ready {listed : Array Bool} {i : Nat} (h : closedB md ops listed = true) : ∀ (n st : Nat), waitsOn md ops i n st = true → (listed.getD st false = true ∨ st ∈ Region.ready md ops listed) → listed.getD i false = true := by
  intro n
  induction n with
  | zero => intro st hw; simp [waitsOn] at hw
  | succ n ih =>
    intro st hw hs
    unfold waitsOn at hw
    cases ho : ops[st]? with
    | none => rw [ho] at hw; simp at hw
    | some o =>
      rw [ho] at hw
      simp only [Option.map_some, Option.getD_some, Array.any_eq_true] at hw
      obtain ⟨k, hk, hw⟩ := hw
      simp only [Bool.and_eq_true, Bool.or_eq_true, beq_iff_eq] at hw
      obtain ⟨hb, hw⟩ := hw
      have hle : listed.getD (o.after[k]).on false = true := by
        rcases hs with hs | hs
        · exact closed_at h ho hs (Array.getElem_mem hk) hb
        · obtain ⟨_, o', ho', hall⟩ := mem_ready.1 hs
          rw [ho] at ho'
          obtain rfl : o = o' := by simpa using ho'
          exact hall _ (Array.getElem_mem hk) hb
      rcases hw with hw | hw
      · rw [← hw]; exact hle
      · exact ih _ hw (Or.inl hle)

/-- Whatever order is picked from here on, and S holds behind every operation, until operation st has come up. -/
def wpAnyU (P : Program) (md : Region.Mode) (ops : Array Oper) (Q : Exit → Act → World → Prop) (S : World → Prop) (st : Nat) : Nat → Array Bool → Act → World → Prop
  | 0, listed, a, w => Region.ready md ops listed = [] ∧ Q .normal a w
  | fuel + 1, listed, a, w =>
    (Region.ready md ops listed = [] → Q .normal a w) ∧
    ∀ i ∈ Region.ready md ops listed, wpOp P ops Q i (fun a' w' => ((i = st ∨ listed.getD st false = true) ∨ S w') ∧ wpAnyU P md ops Q S st fuel (listed.setIfInBounds i true) a' w') a w

theorem wpAny_of_until {st : Nat} : ∀ (fuel : Nat) (listed : Array Bool) (a : Act) (w : World), wpAnyU P md ops Q S st fuel listed a w → wpAny P md ops Q fuel listed a w
  | 0, _, _, _, h => h
  | fuel + 1, _, _, _, h => ⟨h.1, fun i hi => wpOp_mono (fun a' w' h' => wpAny_of_until fuel _ a' w' h'.2) (h.2 i hi)⟩

theorem wpAnyU_first {st n i : Nat} {oi : Oper} {v : Value} (hi : ops[i]? = some oi) (hsel : ∀ (j : Nat) (o : Oper) cs b, ops[j]? = some o → o.op ≠ .select cs b)
    (hQ : ∀ c a w, Q (.panic c) (a.put oi.dst v) w → Q (.panic c) a w) (hst : i ≠ st) (hwt : waitsOn md ops i n st = true) :
    ∀ (fuel : Nat) (listed : Array Bool) (a : Act) (w : World), closedB md ops listed = true →
      (∀ j oj, ops[j]? = some oj → j ≠ i → listed.getD j true = false → (∀ e ∈ oj.after, Region.binds md e = true → e.on ≠ i) → oi.apart ops oj = true) →
      i ∈ Region.ready md ops listed → YieldsIf P ops S oi v a → S w →
      wpAnyU P md ops Q S st fuel (listed.setIfInBounds i true) (a.put oi.dst v) w → wpAnyU P md ops Q S st (fuel + 1) listed a w := by
  intro fuel
  induction fuel with
  | zero =>
    intro listed a w _ _ hr hy hS H
    refine ⟨fun h => (by rw [h] at hr; cases hr), fun j hj => ?_⟩
    by_cases hji : j = i
    · subst hji; exact hy.wpOp hi hS ⟨Or.inr hS, H⟩
    · have := ready_mono hj hji
      rw [H.1] at this
      cases this
  | succ fuel ih =>
    intro listed a w hcl hfree hr hy hS H
    refine ⟨fun h => (by rw [h] at hr; cases hr), fun j hj => ?_⟩
    by_cases hji : j = i
    · subst hji; exact hy.wpOp hi hS ⟨Or.inr hS, H⟩
    · have hun : listed.getD i false = false := by
        have h0 := (mem_ready.1 hr).1
        rcases Nat.lt_or_ge i listed.size with h' | h'
        · simp [h'] at h0 ⊢; exact h0
        · simp [Array.getElem?_eq_none h'] at h0
      have hjs : j ≠ st := by
        intro e
        subst e
        have := listed_of_ready hcl n j hwt (Or.inr hj)
        rw [hun] at this
        cases this
      have hsu : listed.getD st false = false := by
        cases hq : listed.getD st false
        · rfl
        · have := listed_of_ready hcl n st hwt (Or.inl hq)
          rw [hun] at this
          cases this
      have h1 := H.2 j (ready_mono hj hji)
      obtain ⟨hjun, oj, hoj, hall⟩ := mem_ready.1 hj
      have hnot : ∀ e ∈ oj.after, Region.binds md e = true → e.on ≠ i := fun e he hb heq => by
        have h1 := hall e he hb
        rw [heq, hun] at h1
        cases h1
      have h2 := wpOp_putIf hoj (hfree j oj hoj hji hjun hnot) (fun cs b => hsel i oi cs b hi) (fun cs b => hsel j oj cs b hoj) hQ hy h1
      have hfree' : ∀ k ok, ops[k]? = some ok → k ≠ i → (listed.setIfInBounds j true).getD k true = false →
          (∀ e ∈ ok.after, Region.binds md e = true → e.on ≠ i) → oi.apart ops ok = true := fun k ok hk hki hun' hno => by
        refine hfree k ok hk hki ?_ hno
        by_cases hjk : j = k
        · subst hjk; exact hjun
        · rw [getD_set_ne true hjk] at hun'; exact hun'
      refine wpOp_mono (fun a' w' h3 => ?_) h2
      obtain ⟨h4, h5, h6⟩ := h3
      have hSw : S w' := by
        rcases h5 with (h5 | h5) | h5
        · exact absurd h5 hjs
        · rw [getD_set_ne false hst, hsu] at h5; cases h5
        · exact h5
      refine ⟨Or.inr hSw, ih (listed.setIfInBounds j true) a' w' (closed_set hcl hj) hfree' (ready_mono hr (Ne.symm hji)) h4 hSw ?_⟩
      rw [Array.setIfInBounds_comm _ _ hji]
      exact h6

theorem wpAnyU_take {st : Nat} (n : Nat) {i : Nat} {oi : Oper} {v : Value} {fuel : Nat} {listed : Array Bool} {a : Act} {w : World} (hi : ops[i]? = some oi)
    (hs : Region.noSelect ops = true) (hf : Region.free md ops listed i = true) (hr : (Region.ready md ops listed).contains i = true) (hcl : closedB md ops listed = true) (hst : i ≠ st) (hwt : waitsOn md ops i n st = true)
    (hQ : ∀ c a w, Q (.panic c) (a.put oi.dst v) w → Q (.panic c) a w) (hy : YieldsIf P ops S oi v a) (hS : S w)
    (h : wpAnyU P md ops Q S st fuel (listed.setIfInBounds i true) (a.put oi.dst v) w) : wpAnyU P md ops Q S st (fuel + 1) listed a w :=
  wpAnyU_first hi (Region.noSelect_spec hs) hQ hst hwt fuel listed a w hcl (Region.free_spec hi hf) (by simpa using hr) hy hS h

/-- each of those that may come up, S handed on -/
def AllReadyU (P : Program) (md : Region.Mode) (ops : Array Oper) (Q : Exit → Act → World → Prop) (S : World → Prop) (st : Nat) (fuel : Nat) (listed : Array Bool) (a : Act) (w : World) (rs : List Nat) : Prop :=
  ∀ i ∈ rs, wpOp P ops Q i (fun a' w' => ((i = st ∨ listed.getD st false = true) ∨ S w') ∧ wpAnyU P md ops Q S st fuel (listed.setIfInBounds i true) a' w') a w
theorem AllReadyU.nil {st fuel : Nat} {listed : Array Bool} {a : Act} {w : World} : AllReadyU P md ops Q S st fuel listed a w [] := fun _ h => by cases h
theorem AllReadyU.cons {st fuel : Nat} {listed : Array Bool} {a : Act} {w : World} {i : Nat} {o : Oper} {rs : List Nat} (ho : ops[i]? = some o)
    (h : ∀ K' : Act → World → Prop, Shut (∀ a w, S w → (S w → wpAnyU P md ops Q S st fuel (listed.setIfInBounds i true) a w) → K' a w) → if Region.wanted o (yielded ops a.tmps) = true then Oper.wp P o a w K' Q else K' (a.put o.dst undef) w)
    (hs : AllReadyU P md ops Q S st fuel listed a w rs) : AllReadyU P md ops Q S st fuel listed a w (i :: rs) := fun j hj => by
  rcases List.mem_cons.1 hj with rfl | hj
  · exact wpOp_step ho (fun K' hK => h K' (fun a w hS hW => hK a w ⟨Or.inr hS, hW hS⟩))
  · exact hs j hj
theorem wpAnyU_ready {st : Nat} {rs : List Nat} {fuel : Nat} {listed : Array Bool} {a : Act} {w : World} (hr : Region.ready md ops listed = rs) (hne : rs ≠ [])
    (h : AllReadyU P md ops Q S st fuel listed a w rs) : wpAnyU P md ops Q S st (fuel + 1) listed a w := ⟨fun h0 => absurd (hr ▸ h0) hne, hr ▸ h⟩
/-- the operation until which S held comes up, alone -/
theorem wpAnyU_last {st : Nat} {fuel : Nat} {listed : Array Bool} {a : Act} {w : World} {o : Oper} (hr : Region.ready md ops listed = [st]) (ho : ops[st]? = some o)
    (h : ∀ K' : Act → World → Prop, Shut (∀ a w, wpAnyU P md ops Q S st fuel (listed.setIfInBounds st true) a w → K' a w) → if Region.wanted o (yielded ops a.tmps) = true then Oper.wp P o a w K' Q else K' (a.put o.dst undef) w) : wpAnyU P md ops Q S st (fuel + 1) listed a w := by
  refine wpAnyU_ready hr (by simp) (fun j hj => ?_)
  rcases List.mem_cons.1 hj with rfl | hj
  · exact wpOp_step ho (fun K' hK => h K' (fun a w hW => hK a w ⟨Or.inl (Or.inl rfl), hW⟩))
  · cases hj
theorem wpAnyU_done {st : Nat} {listed : Array Bool} {a : Act} {w : World} (hr : Region.ready md ops listed = []) (h : Q .normal a w) :
    ∀ fuel, wpAnyU P md ops Q S st fuel listed a w
  | 0 => ⟨hr, h⟩
  | _ + 1 => ⟨fun _ => h, by rw [hr]; simp⟩
theorem wp_region_until (st : Nat) {id : Nat} {a : Act} {w : World} (hm : P.follows .mixedOrders = true) (hS : S w.drew)
    (h : S w.drew → wpAnyU P .any ops Q S st ops.size (Array.replicate ops.size false) a w.drew) : (Code.region id ops true).wp P Q a w :=
  wp_region_any hm (wpAny_of_until _ _ _ _ (h hS))
end

/-- a wanted operation is taken first -/
theorem takeU_yes {P : Program} {md : Region.Mode} {ops : Array Oper} {Q : Exit → Act → World → Prop} {S : World → Prop} {st : Nat} (n i d : Nat) {oi : Oper} {v : Value} {fuel : Nat} {listed : Array Bool} {a : Act} {w : World} (hi : ops[i]? = some oi) (hd : oi.dst = some d)
    (hs : Region.noSelect ops = true) (hf : Region.free md ops listed i = true) (hr : (Region.ready md ops listed).contains i = true) (hcl : closedB md ops listed = true) (hst : i ≠ st) (hwt : waitsOn md ops i n st = true)
    (hQ : ∀ c a w, Q (.panic c) (a.put oi.dst v) w → Q (.panic c) a w) (hw : Region.wanted oi (yielded ops a.tmps) = true) (hy : ∀ w, S w → (execOp a.eval oi).run P w = .ok (.value v) w) (hS : S w)
    (h : wpAnyU P md ops Q S st fuel (listed.setIfInBounds i true) (a.put (some d) v) w) : wpAnyU P md ops Q S st (fuel + 1) listed a w :=
  wpAnyU_take n hi hs hf hr hcl hst hwt hQ (Or.inl ⟨hw, hy⟩) hS (by rw [hd]; exact h)
end Go.Proofs.YtljbchkmoekpmadGreat

/- way.alike: mail held against mail by the program. -/
namespace Go.Proofs.YtljbchkmoekpmadGreat
open Go.ChangeShapes Go.WideShapes Go.ChangeAt Go.RowKit
open Orangery (Pl Mv Vw Dl Ml noVw noDl noMl sameV sameD)

theorem sameMl_parts (x y : Ml) : sameMl x y = (decide (x.1 = y.1 ∧ x.2.1 = y.2.1) && sameV x.2.2.1.1 y.2.2.1.1 x.2.2.1.2.1 y.2.2.1.2.1 x.2.2.1.2.2 y.2.2.1.2.2 && sameD x.2.2.2.1 y.2.2.2.1 x.2.2.2.2.1 y.2.2.2.2.1 x.2.2.2.2.2.1 y.2.2.2.2.2.1 x.2.2.2.2.2.2 y.2.2.2.2.2.2) := by
  obtain ⟨x1, x2, ⟨x3, x4, x5⟩, x6, x7, x8, x9⟩ := x
  obtain ⟨y1, y2, ⟨y3, y4, y5⟩, y6, y7, y8, y9⟩ := y
  rw [Bool.eq_iff_iff, sameMl_iff]
  simp [sameV, sameD, and_assoc]

set_option maxHeartbeats 4000000 in
set_option maxRecDepth 100000 in
theorem walike_any (w : World) (x y : Mm) (hx : MlIn w x) (hy : MlIn w y) : Calls Tryz.prog 82 #[x.val, y.val] w fun e w' => e = .returned (.bool (sameMl x.1 y.1)) ∧ Below w.heap.size w w' := by
  have HE : Hid (sameMl x.1 y.1 = _) := sameMl_parts x.1 y.1
  obtain ⟨cx, hcx⟩ : ∃ c, c = mlC x := ⟨_, rfl⟩
  obtain ⟨cy, hcy⟩ : ∃ c, c = mlC y := ⟨_, rfl⟩
  have HH : Hid (∀ W (z : Mm) (c : List Value), c = mlC z → Calls Tryz.prog 117 #[.agg c.toArray] W fun e w' => e = .returned (.agg (hdC z.1).toArray) ∧ Below W.heap.size W w') := fun W z c hc => by subst hc; exact whead_any W z
  show Calls Tryz.prog _ #[.agg (mlC x).toArray, .agg (mlC y).toArray] w _
  rw [← hcx, ← hcy]
  obtain ⟨W0, hW, hA, hC, hB, -⟩ := laid2 w cx 74 cy 74
  have HAX : Hid (∀ W, Blk W w.heap.size cx → Blk W w.heap.size (mlC x)) := fun W h => by rw [← hcx]; exact h
  have HCY : Hid (∀ W, Blk W (w.heap.size + 1) cy → Blk W (w.heap.size + 1) (mlC y)) := fun W h => by rw [← hcy]; exact h
  have HA := Lib.hid hA
  have HC := Lib.hid hC
  have HX := Lib.hid hx
  have HY := Lib.hid hy
  have HB0 := Lib.hid hB
  have HCX := Lib.hid hcx
  have HCW := Lib.hid hcy
  have HI1 : Hid ((Tryz.prog.info? 74).map (·.size) = some cx.length) := by show _ = _; rw [hcx]; exact sizeMailC x
  have HI2 : Hid ((Tryz.prog.info? 74).map (·.size) = some cy.length) := by show _ = _; rw [hcy]; exact sizeMailC y
  have hrh := run_eql_head x.1 y.1
  have hgd := guard_head
  clear hx hy hB hA hC hcx hcy
  go_enter Tryz.func82, Tryz.ntmps82
  go_upto_region 1 with fail
  clear hW
  refine wp_region_held_drew (S := fun w' => Blk w' w.heap.size cx ∧ Blk w' (w.heap.size + 1) cy ∧ Below w.heap.size w w') (by kernel_rfl) ⟨HA.out.drew, HC.out.drew, HB0.out.drew⟩ (fun hHeld => ?_)
  refine take_load 0 5 74 w.heap.size cx rfl rfl (by kernel_rfl) (by kernel_rfl) (by kernel_rfl) (fun _ _ _ h => h) (by rfl) (by rfl) (by rfl) (fun w hw => hw.1.range) Tryz.underlying74 rfl HI1.out hHeld ?_
  simp only [Act.put, List.setIfInBounds_toArray, List.set_cons_succ, List.set_cons_zero]
  refine take_load 2 7 74 (w.heap.size + 1) cy rfl rfl (by kernel_rfl) (by kernel_rfl) (by kernel_rfl) (fun _ _ _ h => h) (by rfl) (by rfl) (by rfl) (fun w hw => hw.2.1.range) Tryz.underlying74 rfl HI2.out hHeld ?_
  simp only [Act.put, List.setIfInBounds_toArray, List.set_cons_succ, List.set_cons_zero]
  refine wpAnyH_ready (rs := [1]) (by kernel_rfl) (by simp) ?_
  refine AllReadyH.cons rfl (fun KK hKK => ?_) AllReadyH.nil
  go_simp
  refine (HH.out W0.drew x cx HCX.out).mono ?_
  rintro e w2 ⟨rfl, hb⟩
  have hHeld2 := hHeld
  refine hKK.out _ _ ⟨hHeld2.1.keep hb, hHeld2.2.1.keep hb, hHeld2.2.2.trans (hb.mono hHeld2.2.2.size)⟩ (fun hHeld => ?_)
  clear hKK KK hHeld2 hb
  refine wpAnyH_ready (rs := [3]) (by kernel_rfl) (by simp) ?_
  refine AllReadyH.cons rfl (fun KK hKK => ?_) AllReadyH.nil
  go_simp
  refine (HH.out w2 y cy HCW.out).mono ?_
  rintro e w3 ⟨rfl, hb⟩
  have hHeld2 := hHeld
  refine hKK.out _ _ ⟨hHeld2.1.keep hb, hHeld2.2.1.keep hb, hHeld2.2.2.trans (hb.mono hHeld2.2.2.size)⟩ (fun hHeld => ?_)
  clear hKK KK hHeld2 hb
  obtain ⟨hq, hhq⟩ : ∃ b : Bool, b = decide (x.1.1 = y.1.1 ∧ x.1.2.1 = y.1.2.1) := ⟨_, rfl⟩
  rw [← hhq] at hrh HE
  clear hhq
  refine take_yes 4 9 (v := ?_) rfl rfl (by kernel_rfl) (by kernel_rfl) (by kernel_rfl) (fun _ _ _ h => h) (by rfl) ?_ hHeld ?_
  rotate_left 1
  · (intro w9 hSw; skip; go_simp; try with_reducible rfl)
  simp only [Act.put, List.setIfInBounds_toArray, List.set_cons_succ, List.set_cons_zero]
  refine take_yes 5 10 (v := ?_) rfl rfl (by kernel_rfl) (by kernel_rfl) (by kernel_rfl) (fun _ _ _ h => h) (by rfl) ?_ hHeld ?_
  rotate_left 1
  · (intro w9 hSw; skip; go_simp; try with_reducible rfl)
  simp only [Act.put, List.setIfInBounds_toArray, List.set_cons_succ, List.set_cons_zero]
  cases hq
  case false =>
    refine take_no 6 11 rfl rfl (by kernel_rfl) (by kernel_rfl) (by kernel_rfl) (fun _ _ _ h => h) (by rfl) hHeld ?_
    simp only [Act.put, List.setIfInBounds_toArray, List.set_cons_succ, List.set_cons_zero]
    refine take_no 7 12 rfl rfl (by kernel_rfl) (by kernel_rfl) (by kernel_rfl) (fun _ _ _ h => h) (by rfl) hHeld ?_
    simp only [Act.put, List.setIfInBounds_toArray, List.set_cons_succ, List.set_cons_zero]
    refine take_no 8 13 rfl rfl (by kernel_rfl) (by kernel_rfl) (by kernel_rfl) (fun _ _ _ h => h) (by rfl) hHeld ?_
    simp only [Act.put, List.setIfInBounds_toArray, List.set_cons_succ, List.set_cons_zero]
    refine take_no 9 14 rfl rfl (by kernel_rfl) (by kernel_rfl) (by kernel_rfl) (fun _ _ _ h => h) (by rfl) hHeld ?_
    simp only [Act.put, List.setIfInBounds_toArray, List.set_cons_succ, List.set_cons_zero]
    refine take_no 10 15 rfl rfl (by kernel_rfl) (by kernel_rfl) (by kernel_rfl) (fun _ _ _ h => h) (by rfl) hHeld ?_
    simp only [Act.put, List.setIfInBounds_toArray, List.set_cons_succ, List.set_cons_zero]
    refine take_yes 11 16 (v := ?_) rfl rfl (by kernel_rfl) (by kernel_rfl) (by kernel_rfl) (fun _ _ _ h => h) (by rfl) ?_ hHeld ?_
    rotate_left 1
    · (intro w9 hSw; skip; go_simp; try with_reducible rfl)
    simp only [Act.put, List.setIfInBounds_toArray, List.set_cons_succ, List.set_cons_zero]
    refine take_yes 12 17 (v := ?_) rfl rfl (by kernel_rfl) (by kernel_rfl) (by kernel_rfl) (fun _ _ _ h => h) (by rfl) ?_ hHeld ?_
    rotate_left 1
    · (intro w9 hSw; skip; go_simp; try with_reducible rfl)
    simp only [Act.put, List.setIfInBounds_toArray, List.set_cons_succ, List.set_cons_zero]
    refine take_no 13 18 rfl rfl (by kernel_rfl) (by kernel_rfl) (by kernel_rfl) (fun _ _ _ h => h) (by rfl) hHeld ?_
    simp only [Act.put, List.setIfInBounds_toArray, List.set_cons_succ, List.set_cons_zero]
    refine take_no 14 19 rfl rfl (by kernel_rfl) (by kernel_rfl) (by kernel_rfl) (fun _ _ _ h => h) (by rfl) hHeld ?_
    simp only [Act.put, List.setIfInBounds_toArray, List.set_cons_succ, List.set_cons_zero]
    refine take_no 15 20 rfl rfl (by kernel_rfl) (by kernel_rfl) (by kernel_rfl) (fun _ _ _ h => h) (by rfl) hHeld ?_
    simp only [Act.put, List.setIfInBounds_toArray, List.set_cons_succ, List.set_cons_zero]
    refine take_no 16 21 rfl rfl (by kernel_rfl) (by kernel_rfl) (by kernel_rfl) (fun _ _ _ h => h) (by rfl) hHeld ?_
    simp only [Act.put, List.setIfInBounds_toArray, List.set_cons_succ, List.set_cons_zero]
    refine take_no 17 22 rfl rfl (by kernel_rfl) (by kernel_rfl) (by kernel_rfl) (fun _ _ _ h => h) (by rfl) hHeld ?_
    simp only [Act.put, List.setIfInBounds_toArray, List.set_cons_succ, List.set_cons_zero]
    refine take_yes 18 23 (v := ?_) rfl rfl (by kernel_rfl) (by kernel_rfl) (by kernel_rfl) (fun _ _ _ h => h) (by rfl) ?_ hHeld ?_
    rotate_left 1
    · (intro w9 hSw; skip; go_simp; try with_reducible rfl)
    simp only [Act.put, List.setIfInBounds_toArray, List.set_cons_succ, List.set_cons_zero]
    refine take_yes 19 4 (v := ?_) rfl rfl (by kernel_rfl) (by kernel_rfl) (by kernel_rfl) (fun _ _ _ h => h) (by rfl) ?_ hHeld ?_
    rotate_left 1
    · (intro w9 hSw; skip; go_simp; try with_reducible rfl)
    simp only [Act.put, List.setIfInBounds_toArray, List.set_cons_succ, List.set_cons_zero]
    refine wpAnyH_done (by kernel_rfl) ?_ _
    have HB9 := Lib.hid hHeld.2.2
    clear hHeld hrh
    go_wp2
    go_ret
    exact ⟨ret_bool (by rw [HE.out]; rfl), HB9.out⟩
  clear hrh hgd
  refine take_yes 6 11 (v := ?_) rfl rfl (by kernel_rfl) (by kernel_rfl) (by kernel_rfl) (fun _ _ _ h => h) (by rfl) ?_ hHeld ?_
  rotate_left 1
  · (intro w9 hSw; skip; go_simp; try with_reducible rfl)
  simp only [Act.put, List.setIfInBounds_toArray, List.set_cons_succ, List.set_cons_zero]
  refine take_yes 7 12 (v := ?_) rfl rfl (by kernel_rfl) (by kernel_rfl) (by kernel_rfl) (fun _ _ _ h => h) (by rfl) ?_ hHeld ?_
  rotate_left 1
  · (intro w9 hSw; have q1 := (HAX.out _ hSw.1).at 14 rfl; have q2 := (HAX.out _ hSw.1).at 15 rfl; have q3 := (HAX.out _ hSw.1).at 16 rfl; go_simp; try with_reducible rfl)
  simp only [Act.put, List.setIfInBounds_toArray, List.set_cons_succ, List.set_cons_zero]
  refine take_yes 8 13 (v := ?_) rfl rfl (by kernel_rfl) (by kernel_rfl) (by kernel_rfl) (fun _ _ _ h => h) (by rfl) ?_ hHeld ?_
  rotate_left 1
  · (intro w9 hSw; skip; go_simp; try with_reducible rfl)
  simp only [Act.put, List.setIfInBounds_toArray, List.set_cons_succ, List.set_cons_zero]
  refine take_yes 9 14 (v := ?_) rfl rfl (by kernel_rfl) (by kernel_rfl) (by kernel_rfl) (fun _ _ _ h => h) (by rfl) ?_ hHeld ?_
  rotate_left 1
  · (intro w9 hSw; have q1 := (HCY.out _ hSw.2.1).at 14 rfl; have q2 := (HCY.out _ hSw.2.1).at 15 rfl; have q3 := (HCY.out _ hSw.2.1).at 16 rfl; go_simp; try with_reducible rfl)
  simp only [Act.put, List.setIfInBounds_toArray, List.set_cons_succ, List.set_cons_zero]
  have HXk : Hid (∀ W, Below w.heap.size w W → MlIn W x ∧ MlIn W y) := fun W hb => ⟨HX.out.keep hb, HY.out.keep hb⟩
  refine wpAnyH_ready (rs := [10]) (by kernel_rfl) (by simp) ?_
  refine AllReadyH.cons rfl (fun KK hKK => ?_) AllReadyH.nil
  go_simp
  refine (vsame_any w3 x.2.1.1.1 x.2.1.2.1.1 x.2.1.2.2.1 y.2.1.1.1 y.2.1.2.1.1 y.2.1.2.2.1 x.2.1.1.2 x.2.1.2.1.2 x.2.1.2.2.2 y.2.1.1.2 y.2.1.2.1.2 y.2.1.2.2.2 x.1.2.2.1.1 y.1.2.2.1.1 x.1.2.2.1.2.1 y.1.2.2.1.2.1 x.1.2.2.1.2.2 y.1.2.2.1.2.2 HX.out.max.1.1 HX.out.max.1.2.1 HX.out.max.1.2.2 (HXk.out _ hHeld.2.2).1.lr (HXk.out _ hHeld.2.2).1.lk (HXk.out _ hHeld.2.2).1.lv (HXk.out _ hHeld.2.2).2.lr (HXk.out _ hHeld.2.2).2.lk (HXk.out _ hHeld.2.2).2.lv).mono ?_
  rintro e w4 ⟨rfl, hb⟩
  have hHeld2 := hHeld
  refine hKK.out _ _ ⟨hHeld2.1.keep hb, hHeld2.2.1.keep hb, hHeld2.2.2.trans (hb.mono hHeld2.2.2.size)⟩ (fun hHeld => ?_)
  clear hKK KK hHeld2 hb
  obtain ⟨hv, hhv⟩ : ∃ b : Bool, b = sameV x.1.2.2.1.1 y.1.2.2.1.1 x.1.2.2.1.2.1 y.1.2.2.1.2.1 x.1.2.2.1.2.2 y.1.2.2.1.2.2 := ⟨_, rfl⟩
  rw [← hhv] at HE
  rw [← hhv]
  clear hhv
  refine take_yes 11 16 (v := ?_) rfl rfl (by kernel_rfl) (by kernel_rfl) (by kernel_rfl) (fun _ _ _ h => h) (by rfl) ?_ hHeld ?_
  rotate_left 1
  · (intro w9 hSw; skip; go_simp; try with_reducible rfl)
  simp only [Act.put, List.setIfInBounds_toArray, List.set_cons_succ, List.set_cons_zero]
  refine take_yes 12 17 (v := ?_) rfl rfl (by kernel_rfl) (by kernel_rfl) (by kernel_rfl) (fun _ _ _ h => h) (by rfl) ?_ hHeld ?_
  rotate_left 1
  · (intro w9 hSw; skip; go_simp; try with_reducible rfl)
  simp only [Act.put, List.setIfInBounds_toArray, List.set_cons_succ, List.set_cons_zero]
  cases hv
  case false =>
    refine take_no 13 18 rfl rfl (by kernel_rfl) (by kernel_rfl) (by kernel_rfl) (fun _ _ _ h => h) (by rfl) hHeld ?_
    simp only [Act.put, List.setIfInBounds_toArray, List.set_cons_succ, List.set_cons_zero]
    refine take_no 14 19 rfl rfl (by kernel_rfl) (by kernel_rfl) (by kernel_rfl) (fun _ _ _ h => h) (by rfl) hHeld ?_
    simp only [Act.put, List.setIfInBounds_toArray, List.set_cons_succ, List.set_cons_zero]
    refine take_no 15 20 rfl rfl (by kernel_rfl) (by kernel_rfl) (by kernel_rfl) (fun _ _ _ h => h) (by rfl) hHeld ?_
    simp only [Act.put, List.setIfInBounds_toArray, List.set_cons_succ, List.set_cons_zero]
    refine take_no 16 21 rfl rfl (by kernel_rfl) (by kernel_rfl) (by kernel_rfl) (fun _ _ _ h => h) (by rfl) hHeld ?_
    simp only [Act.put, List.setIfInBounds_toArray, List.set_cons_succ, List.set_cons_zero]
    refine take_no 17 22 rfl rfl (by kernel_rfl) (by kernel_rfl) (by kernel_rfl) (fun _ _ _ h => h) (by rfl) hHeld ?_
    simp only [Act.put, List.setIfInBounds_toArray, List.set_cons_succ, List.set_cons_zero]
    refine take_yes 18 23 (v := ?_) rfl rfl (by kernel_rfl) (by kernel_rfl) (by kernel_rfl) (fun _ _ _ h => h) (by rfl) ?_ hHeld ?_
    rotate_left 1
    · (intro w9 hSw; skip; go_simp; try with_reducible rfl)
    simp only [Act.put, List.setIfInBounds_toArray, List.set_cons_succ, List.set_cons_zero]
    refine take_yes 19 4 (v := ?_) rfl rfl (by kernel_rfl) (by kernel_rfl) (by kernel_rfl) (fun _ _ _ h => h) (by rfl) ?_ hHeld ?_
    rotate_left 1
    · (intro w9 hSw; skip; go_simp; try with_reducible rfl)
    simp only [Act.put, List.setIfInBounds_toArray, List.set_cons_succ, List.set_cons_zero]
    refine wpAnyH_done (by kernel_rfl) ?_ _
    have HB9 := Lib.hid hHeld.2.2
    clear hHeld
    go_wp2
    go_ret
    exact ⟨ret_bool (by rw [HE.out]; rfl), HB9.out⟩
  refine take_yes 13 18 (v := ?_) rfl rfl (by kernel_rfl) (by kernel_rfl) (by kernel_rfl) (fun _ _ _ h => h) (by rfl) ?_ hHeld ?_
  rotate_left 1
  · (intro w9 hSw; skip; go_simp; try with_reducible rfl)
  simp only [Act.put, List.setIfInBounds_toArray, List.set_cons_succ, List.set_cons_zero]
  refine take_yes 14 19 (v := ?_) rfl rfl (by kernel_rfl) (by kernel_rfl) (by kernel_rfl) (fun _ _ _ h => h) (by rfl) ?_ hHeld ?_
  rotate_left 1
  · (intro w9 hSw; have q17 := (HAX.out _ hSw.1).at 17 rfl; have q18 := (HAX.out _ hSw.1).at 18 rfl; have q19 := (HAX.out _ hSw.1).at 19 rfl; have q20 := (HAX.out _ hSw.1).at 20 rfl; go_simp; try with_reducible rfl)
  simp only [Act.put, List.setIfInBounds_toArray, List.set_cons_succ, List.set_cons_zero]
  refine take_yes 15 20 (v := ?_) rfl rfl (by kernel_rfl) (by kernel_rfl) (by kernel_rfl) (fun _ _ _ h => h) (by rfl) ?_ hHeld ?_
  rotate_left 1
  · (intro w9 hSw; skip; go_simp; try with_reducible rfl)
  simp only [Act.put, List.setIfInBounds_toArray, List.set_cons_succ, List.set_cons_zero]
  refine take_yes 16 21 (v := ?_) rfl rfl (by kernel_rfl) (by kernel_rfl) (by kernel_rfl) (fun _ _ _ h => h) (by rfl) ?_ hHeld ?_
  rotate_left 1
  · (intro w9 hSw; have q17 := (HCY.out _ hSw.2.1).at 17 rfl; have q18 := (HCY.out _ hSw.2.1).at 18 rfl; have q19 := (HCY.out _ hSw.2.1).at 19 rfl; have q20 := (HCY.out _ hSw.2.1).at 20 rfl; go_simp; try with_reducible rfl)
  simp only [Act.put, List.setIfInBounds_toArray, List.set_cons_succ, List.set_cons_zero]
  refine wpAnyH_ready (rs := [17]) (by kernel_rfl) (by simp) ?_
  refine AllReadyH.cons rfl (fun KK hKK => ?_) AllReadyH.nil
  go_simp
  refine (dsame_any w4 x.2.2.1.1 x.2.2.2.1.1 x.2.2.2.2.1.1 x.2.2.2.2.2.1 y.2.2.1.1 y.2.2.2.1.1 y.2.2.2.2.1.1 y.2.2.2.2.2.1 x.2.2.1.2 x.2.2.2.1.2 x.2.2.2.2.1.2 x.2.2.2.2.2.2 y.2.2.1.2 y.2.2.2.1.2 y.2.2.2.2.1.2 y.2.2.2.2.2.2 x.1.2.2.2.1 y.1.2.2.2.1 x.1.2.2.2.2.1 y.1.2.2.2.2.1 x.1.2.2.2.2.2.1 y.1.2.2.2.2.2.1 x.1.2.2.2.2.2.2 y.1.2.2.2.2.2.2 HX.out.max.2 (HXk.out _ hHeld.2.2).1.lg (HXk.out _ hHeld.2.2).1.lh (HXk.out _ hHeld.2.2).1.lx (HXk.out _ hHeld.2.2).1.ly (HXk.out _ hHeld.2.2).2.lg (HXk.out _ hHeld.2.2).2.lh (HXk.out _ hHeld.2.2).2.lx (HXk.out _ hHeld.2.2).2.ly).mono ?_
  rintro e w5 ⟨rfl, hb⟩
  have hHeld2 := hHeld
  refine hKK.out _ _ ⟨hHeld2.1.keep hb, hHeld2.2.1.keep hb, hHeld2.2.2.trans (hb.mono hHeld2.2.2.size)⟩ (fun hHeld => ?_)
  clear hKK KK hHeld2 hb
  obtain ⟨hd, hhd⟩ : ∃ b : Bool, b = sameD x.1.2.2.2.1 y.1.2.2.2.1 x.1.2.2.2.2.1 y.1.2.2.2.2.1 x.1.2.2.2.2.2.1 y.1.2.2.2.2.2.1 x.1.2.2.2.2.2.2 y.1.2.2.2.2.2.2 := ⟨_, rfl⟩
  rw [← hhd] at HE
  rw [← hhd]
  clear hhd
  refine take_yes 18 23 (v := ?_) rfl rfl (by kernel_rfl) (by kernel_rfl) (by kernel_rfl) (fun _ _ _ h => h) (by rfl) ?_ hHeld ?_
  rotate_left 1
  · (intro w9 hSw; skip; go_simp; try with_reducible rfl)
  simp only [Act.put, List.setIfInBounds_toArray, List.set_cons_succ, List.set_cons_zero]
  refine take_yes 19 4 (v := ?_) rfl rfl (by kernel_rfl) (by kernel_rfl) (by kernel_rfl) (fun _ _ _ h => h) (by rfl) ?_ hHeld ?_
  rotate_left 1
  · (intro w9 hSw; skip; go_simp; try with_reducible rfl)
  simp only [Act.put, List.setIfInBounds_toArray, List.set_cons_succ, List.set_cons_zero]
  refine wpAnyH_done (by kernel_rfl) ?_ _
  have HB9 := Lib.hid hHeld.2.2
  clear hHeld
  go_wp2
  go_ret
  exact ⟨ret_bool (by rw [HE.out]; rfl), HB9.out⟩
end Go.Proofs.YtljbchkmoekpmadGreat

/- What is read lies in these blocks; what it is behind a writing of others. -/
namespace Go.Proofs.YtljbchkmoekpmadGreat
open Go.ChangeShapes Go.WideShapes Go.ChangeAt Go.RowKit
open Orangery (Pl)

theorem SlE.apartH {α : Type} {enc : α → List Value} {w w' : World} {a : Option Addr} {l : List α} (h : SlE enc w a l) (hs : w.heap.size ≤ w'.heap.size)
    (hk : ∀ b off, a = some ⟨b, off, none⟩ → b < w.heap.size → w'.heap[b]? = w.heap[b]?) : SlE enc w' a l := by
  rcases h with h | ⟨b, off, ha, hb, hr⟩
  · exact Or.inl h
  · refine Or.inr ⟨b, off, ha, by omega, fun j v hv => ?_⟩
    rw [World.cell?_of_block (w := w) (w' := w') (a := ⟨b, off + j, none⟩) (hk b off ha hb)]
    exact hr j v hv
theorem SlI.apartH {w w' : World} {a : Option Addr} {l : List Int} (h : SlI w a l) (hs : w.heap.size ≤ w'.heap.size)
    (hk : ∀ b off, a = some ⟨b, off, none⟩ → b < w.heap.size → w'.heap[b]? = w.heap[b]?) : SlI w' a l := by
  rcases h with h | ⟨b, off, ha, hb, hr⟩
  · exact Or.inl h
  · refine Or.inr ⟨b, off, ha, by omega, fun j hj => ?_⟩
    rw [World.cell?_of_block (w := w) (w' := w') (a := ⟨b, off + j, none⟩) (hk b off ha hb)]
    exact hr j hj
theorem SlP.apartH {w w' : World} {a : Option Addr} {l : List Pl} (h : SlP w a l) (hs : w.heap.size ≤ w'.heap.size)
    (hk : ∀ b off, a = some ⟨b, off, none⟩ → b < w.heap.size → w'.heap[b]? = w.heap[b]?) : SlP w' a l := by
  rcases h with h | ⟨b, off, ha, hb, hr⟩
  · exact Or.inl h
  · refine Or.inr ⟨b, off, ha, by omega, fun i hi => ?_⟩
    have hbl := hk b off ha hb
    obtain ⟨h1, h2, h3⟩ := hr i hi
    exact ⟨by rw [World.cell?_of_block (w := w) (w' := w') (by exact hbl)]; exact h1, by rw [World.cell?_of_block (w := w) (w' := w') (by exact hbl)]; exact h2, by rw [World.cell?_of_block (w := w) (w' := w') (by exact hbl)]; exact h3⟩

/-- what is read there is not in block g -/
def OffL {α : Type} (g : Nat) (a : Option Addr) (l : List α) : Prop := l = [] ∨ ∀ b off, a = some ⟨b, off, none⟩ → b ≠ g
theorem SlE.off {α : Type} {enc : α → List Value} {w : World} {a : Option Addr} {l : List α} {g : Nat} (h : SlE enc w a l) (hg : w.heap.size ≤ g) : OffL g a l := by
  rcases h with h | ⟨b, off, ha, hb, _⟩
  · exact Or.inl h
  · refine Or.inr (fun b' off' e => ?_)
    rw [ha] at e
    obtain ⟨rfl, _⟩ : b = b' ∧ off = off' := by simpa using e
    omega
theorem SlI.off {w : World} {a : Option Addr} {l : List Int} {g : Nat} (h : SlI w a l) (hg : w.heap.size ≤ g) : OffL g a l := by
  rcases h with h | ⟨b, off, ha, hb, _⟩
  · exact Or.inl h
  · refine Or.inr (fun b' off' e => ?_)
    rw [ha] at e
    obtain ⟨rfl, _⟩ : b = b' ∧ off = off' := by simpa using e
    omega
theorem SlP.off {w : World} {a : Option Addr} {l : List Pl} {g : Nat} (h : SlP w a l) (hg : w.heap.size ≤ g) : OffL g a l := by
  rcases h with h | ⟨b, off, ha, hb, _⟩
  · exact Or.inl h
  · refine Or.inr (fun b' off' e => ?_)
    rw [ha] at e
    obtain ⟨rfl, _⟩ : b = b' ∧ off = off' := by simpa using e
    omega
theorem row_off {α : Type} {w : World} {base n k c : Nat} {e : TypeId} {a : Option Addr} {cs : List Value} {l : List α} {g : Nat} (h : w.ownsRow base e k (.slice a n c) n cs) (hg : g < base) : OffL g a l := by
  refine Or.inr (fun b off ha => ?_)
  rcases h.2 with ⟨h', _⟩ | ⟨g', cap, cur, h', hb, _⟩
  · simp [ha] at h'
  · rw [ha] at h'
    obtain ⟨⟨rfl, _⟩, _⟩ : (b = g' ∧ off = 0) ∧ _ := by simpa using h'
    omega
theorem sets_heap (b g : Nat) (hne : b ≠ g) : ∀ (us : List Value) (o : Nat) (w : World), (w.setCells g o us).heap[b]? = w.heap[b]?
  | [], _, _ => rfl
  | u :: us, o, w => by
    show ((w.setCell ⟨g, o, none⟩ u).setCells g (o + 1) us).heap[b]? = _
    rw [sets_heap b g hne us (o + 1) _]
    exact heap_setCell_other w ⟨g, o, none⟩ b u hne
theorem SlE.sets {α : Type} {enc : α → List Value} {w : World} {a : Option Addr} {l : List α} {g : Nat} (h : SlE enc w a l) (ho : OffL g a l) (us : List Value) (o : Nat) : SlE enc (w.setCells g o us) a l := by
  rcases ho with rfl | ho
  · exact Or.inl rfl
  · exact h.apartH (by simp [Go.Sort.size_setCells]) (fun b off ha _ => sets_heap b g (ho b off ha) us o w)
theorem SlI.setsO {w : World} {a : Option Addr} {l : List Int} {g : Nat} (h : SlI w a l) (ho : OffL g a l) (us : List Value) (o : Nat) : SlI (w.setCells g o us) a l := by
  rcases ho with rfl | ho
  · exact Or.inl rfl
  · exact h.apartH (by simp [Go.Sort.size_setCells]) (fun b off ha _ => sets_heap b g (ho b off ha) us o w)
theorem SlP.sets {w : World} {a : Option Addr} {l : List Pl} {g : Nat} (h : SlP w a l) (ho : OffL g a l) (us : List Value) (o : Nat) : SlP (w.setCells g o us) a l := by
  rcases ho with rfl | ho
  · exact Or.inl rfl
  · exact h.apartH (by simp [Go.Sort.size_setCells]) (fun b off ha _ => sets_heap b g (ho b off ha) us o w)
theorem set_sets (w : World) (g o : Nat) (u : Value) : w.setCell ⟨g, o, none⟩ u = w.setCells g o [u] := rfl

/-- what is read there is in a block of D -/
def InL {α : Type} (D : Nat → Prop) (a : Option Addr) (l : List α) : Prop := l = [] ∨ ∀ b off, a = some ⟨b, off, none⟩ → D b
theorem InL.off {α : Type} {D : Nat → Prop} {a : Option Addr} {l : List α} {g : Nat} (h : InL D a l) (hg : ∀ b, D b → b ≠ g) : OffL g a l := by
  rcases h with h | h
  · exact Or.inl h
  · exact Or.inr (fun b off e => hg b (h b off e))
theorem InL.imp {α : Type} {D D' : Nat → Prop} {a : Option Addr} {l : List α} (h : InL D a l) (hg : ∀ b, D b → D' b) : InL D' a l := by
  rcases h with h | h
  · exact Or.inl h
  · exact Or.inr (fun b off e => hg b (h b off e))
theorem InL.and {α : Type} {D D' : Nat → Prop} {a : Option Addr} {l : List α} (h : InL D a l) (h' : InL D' a l) : InL (fun b => D b ∧ D' b) a l := by
  rcases h with h | h
  · exact Or.inl h
  · rcases h' with h' | h'
    · exact Or.inl h'
    · exact Or.inr (fun b off e => ⟨h b off e, h' b off e⟩)
theorem SlE.isin {α : Type} {enc : α → List Value} {w : World} {a : Option Addr} {l : List α} (h : SlE enc w a l) : InL (· < w.heap.size) a l := by
  rcases h with h | ⟨b, off, ha, hb, _⟩
  · exact Or.inl h
  · refine Or.inr (fun b' off' e => ?_)
    rw [ha] at e
    obtain ⟨rfl, _⟩ : b = b' ∧ off = off' := by simpa using e
    exact hb
theorem SlI.isin {w : World} {a : Option Addr} {l : List Int} (h : SlI w a l) : InL (· < w.heap.size) a l := by
  rcases h with h | ⟨b, off, ha, hb, _⟩
  · exact Or.inl h
  · refine Or.inr (fun b' off' e => ?_)
    rw [ha] at e
    obtain ⟨rfl, _⟩ : b = b' ∧ off = off' := by simpa using e
    exact hb
theorem SlP.isin {w : World} {a : Option Addr} {l : List Pl} (h : SlP w a l) : InL (· < w.heap.size) a l := by
  rcases h with h | ⟨b, off, ha, hb, _⟩
  · exact Or.inl h
  · refine Or.inr (fun b' off' e => ?_)
    rw [ha] at e
    obtain ⟨rfl, _⟩ : b = b' ∧ off = off' := by simpa using e
    exact hb
theorem row_in {α : Type} {w : World} {base n k c : Nat} {e : TypeId} {a : Option Addr} {cs : List Value} {l : List α} (h : w.ownsRow base e k (.slice a n c) n cs) : InL (base ≤ ·) a l := by
  refine Or.inr (fun b off ha => ?_)
  rcases h.2 with ⟨h', _⟩ | ⟨g', cap, cur, h', hb, _⟩
  · simp [ha] at h'
  · rw [ha] at h'
    obtain ⟨⟨rfl, _⟩, _⟩ : (b = g' ∧ off = 0) ∧ _ := by simpa using h'
    exact hb

/-- a row of the call's own -/
theorem own_blk {α : Type} {enc : α → List Value} {k : Nat} {e : TypeId} {w : World} {base g cap : Nat} {l : List α} (h : OwnE enc k e w base (.slice (some ⟨g, 0, none⟩) l.length cap) l) : Blk w g (l.flatMap enc) ∧ base ≤ g := by
  rcases h.2 with ⟨h', _⟩ | ⟨g', cap', cur, h', hb, hg, hn, hm, hs, ht⟩
  · simp at h'
  · obtain ⟨rfl, rfl⟩ : g = g' ∧ cap = cap' := by simpa using h'
    refine ⟨⟨blk_lt hg, fun j => ?_, fun i v hv => ?_⟩, hb⟩
    · unfold World.frozen?
      simp only [hg]
      simp
    · rw [← ht] at hv
      rw [Go.Joins.cell_of_block hg]
      have hi : i < l.length * k := by
        have := (List.getElem?_eq_some_iff.1 hv).1
        simp at this
        omega
      rw [List.getElem?_take_of_lt hi] at hv
      simpa using hv

end Go.Proofs.YtljbchkmoekpmadGreat

