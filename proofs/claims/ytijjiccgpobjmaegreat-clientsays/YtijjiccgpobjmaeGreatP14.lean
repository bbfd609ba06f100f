/- 8 texts of the proof: The program's client: what isn't accepted, one by one; Check. Deleting what is true of a list, whatever its elements. Plain facts on histories: operations by their stamps, done one by one: runT (the tree), runS (the steps), srt (by rank, of like ranks the first one). Plain facts on chapter 3: what Fold, Check and Insert answer, of operations and steps as lists. history's small functions: has, bySt -/
import Derived.OwnWalk
import Derived.Deep.DeepCutAuto
import Derived.Test.YtijjiccgpobjmaeGreatP13
import Derived.Test.YtijjiccgpobjmaeGreatP10
import Derived.Test.YtijjiccgpobjmaeGreatP04
import Derived.Test.YtijjiccgpobjmaeGreatP02
import Derived.Test.YtijjiccgpobjmaeGreatP05
import Derived.Test.YtijjiccgpobjmaeGreatP06
import Derived.Test.YtijjiccgpobjmaeGreatP07
/- The program's client: what isn't accepted, one by one; Check. -/
namespace Go.Proofs.YtijjiccgpobjmaeGreat
open Go.ChangeShapes Go.WideShapes Go.ChangeAt Go.RowKit
open Orangery (Pl Mv Vw Cl noCl clRange clForm pendE clE viewME viewE checkOp noOp noVw)

set_option maxHeartbeats 8000000 in
set_option maxRecDepth 100000 in
theorem ccheckPending_any (w : World) (x : Cm) (me : Int) (hx : ClIn w x) (hr : clRange x.1 = true) (h8 : x.1.2.1.length ≤ 8) :
    Calls Tryz.prog 41 #[x.val, .int .i64 me] w fun e w' => e = .returned (.int .i64 (pendE me x.1.1.1 x.1.1.2.1 (x.1.1.2.2.1 - x.1.2.1.length) 0 x.1.2.1)) ∧ Below w.heap.size w w' := by
  obtain ⟨⟨⟨f, t, s, v⟩, P, R, K, V⟩, ⟨aP, cP⟩, ⟨aR, cR⟩, ⟨aK, cK⟩, ⟨aV, cV⟩⟩ := x
  obtain ⟨E, hE⟩ : ∃ E, E = pendE me f t (s - P.length) 0 P := ⟨_, rfl⟩
  show Calls Tryz.prog _ #[.agg #[Value.int .i64 f, .int .i64 t, .int .i64 s, .slice aP P.length cP, .int .i64 v, .slice aR R.length cR, .slice aK K.length cK, .slice aV V.length cV], .int .i64 me] w fun e w' => e = .returned (.int .i64 (pendE me f t (s - P.length) 0 P)) ∧ _
  rw [← hE]
  have HP0 : Hid (pendE me f t (s - P.length) 0 P = E) := hE.symm
  have H8 : Hid (P.length ≤ 8) := h8
  have HSR : Hid (0 ≤ s ∧ s ≤ 30) := by
    show _ ∧ _
    unfold clRange at hr
    simp only [Bool.and_eq_true, decide_eq_true_eq] at hr
    omega
  have q0 : P.length ≤ 17592186043904 := hx.few.1
  obtain ⟨W0, hW, hN, hB, -⟩ := laid1 w [Value.int .i64 f, .int .i64 t, .int .i64 s, .slice aP P.length cP, .int .i64 v, .slice aR R.length cR, .slice aK K.length cK, .slice aV V.length cV] 28
  have HB := Lib.hid hB
  have HX := Lib.hid (hx.keep hB)
  have HN := Lib.hid hN
  clear hB hE hx hr h8
  have x2 := hN.at 2 rfl
  have x3 := hN.at 3 rfl
  clear hN
  obtain ⟨s0, hs0⟩ : ∃ z : Int, z = s - P.length := ⟨_, rfl⟩
  have HS0 : Hid (-8 ≤ s0 ∧ s0 ≤ 30) := by show _ ∧ _; have := HSR.out; have := H8.out; omega
  rw [← hs0] at HP0
  have p0 : wrap64 (s - P.length) = s0 := by have := HS0.out; rw [← hs0]; unfold wrap64; omega
  have P0 := Lib.hid p0
  clear hs0 HSR
  go_enter Tryz.func41, Tryz.ntmps41
  go_wp2
  clear p0 x2 x3 hW
  go_loopw [5, 6, 20] (fun sv lv i W => ∃ (k : Nat) (y la : Int), k ≤ P.length ∧ sv = .int .i64 y ∧ lv = .int .i64 la ∧ i = .int .i64 k ∧ y = s0 + k ∧ pendE me f t y la (P.drop k) = E ∧ Below W0.heap.size W0 W) (fun _ _ i _ => P.length - (intOf i).toNat)
  case atStart => exact ⟨0, s0, 0, Nat.zero_le _, congrArg _ P0.out, rfl, rfl, by simp, HP0.out, Below.refl _ _⟩
  case round =>
    obtain ⟨k, y, la, hk, rfl, rfl, rfl, hy, hp, hb⟩ := hrel
    have HY := Lib.hid hy
    have HB5 := Lib.hid (HB.out.trans (hb.mono HB.out.size))
    have HBW := Lib.hid hb
    have HNr := Lib.hid (HN.out.keep hb)
    by_cases hlt : k < P.length
    case neg =>
      have HE : Hid (E = 0) := by
        show _ = _
        rw [← hp, List.drop_of_length_le (by omega)]
        rfl
      clear hp hy hb HY HP0 HN HNr
      go_wp2
      go_ret
      exact ⟨ret_int HE.out.symm, HB5.out⟩
    obtain ⟨z, hz⟩ : ∃ z : Int, z = y + 1 := ⟨_, rfl⟩
    have pz : wrap64 (y + 1) = z := by have := HS0.out; have := H8.out; rw [hz]; unfold wrap64; omega
    have PZ := Lib.hid pz
    obtain ⟨b, off, rfl, hbl, hr⟩ := (HX.out.keep hb).lp.at opC_len k hlt
    obtain ⟨g0, g1, g2, g3, g4, g5, g6⟩ := op_cells hr
    have hs := Orangery.pend_step (me := me) (life := f) (time := t) (s := y) (t := la) hlt
    rw [hp, ← hz] at hs
    have HST := Lib.hid hs
    have HZ := Lib.hid hz
    have HLT := Lib.hid hlt
    clear hs hr hp hy hz hb HP0 HN
    have hlt' : (k : Int) < (P.length : Int) := by omega
    generalize P[k] = o at *
    obtain ⟨o1, o2, ⟨o3, o4, o5⟩, o6, o7⟩ := o
    simp only at g0 g1 g2 g3 g4 g5 g6
    obtain ⟨W2, hW2, hN, hBn, -⟩ := laid1 wr [Value.int IntKind.i64 o1, Value.int IntKind.i64 o2, Value.int IntKind.i64 o3, Value.int IntKind.i64 o4, Value.int IntKind.i64 o5, Value.int IntKind.i64 o6, Value.int IntKind.i64 o7] 32
    have n0 := hN.at 0 rfl
    have n1 := hN.at 1 rfl
    have n2 := hN.at 2 rfl
    have n3 := hN.at 3 rfl
    have n4 := hN.at 4 rfl
    have n5 := hN.at 5 rfl
    have n6 := hN.at 6 rfl
    have HN2 := Lib.hid hN
    have HNr2 := Lib.hid (HNr.out.keep hBn)
    have HB6 := Lib.hid (HB5.out.trans (hBn.mono HB5.out.size))
    have HBW2 := Lib.hid (HBW.out.trans (hBn.mono HBW.out.size))
    clear hN hBn HNr HB5 HBW
    go_wp2_with fail
    refine (moveCheck_any W2 (o1, o2, (o3, o4, o5), o6, o7)).mono ?_
    rintro e w3 ⟨rfl, hb3⟩
    have HN3 := Lib.hid (HN2.out.keep hb3)
    have HNr3 := Lib.hid (HNr2.out.keep hb3)
    have HB7 := Lib.hid (HB6.out.trans (hb3.mono HB6.out.size))
    have HBW3 := Lib.hid (HBW2.out.trans (hb3.mono HBW2.out.size))
    clear HN2 HNr2 HB6 HBW2 hb3 hW2 n0 n1 n2 n3 n4 n5 n6 g0 g1 g2 g3 g4 g5 g6
    by_cases hc : checkOp (o1, o2, (o3, o4, o5), o6, o7) = 0
    case neg =>
      have HE : Hid (E = checkOp (o1, o2, (o3, o4, o5), o6, o7)) := by show _ = _; rw [HST.out]; exact if_pos hc
      have hc' : (checkOp (o1, o2, (o3, o4, o5), o6, o7) != 0) = true := by simpa using hc
      clear hc HST
      generalize checkOp (o1, o2, (o3, o4, o5), o6, o7) = F at *
      go_wp2
      go_ret
      exact ⟨ret_int HE.out.symm, HB7.out⟩
    have HE4 : Hid (¬ (o2 = me ∧ o6 = f ∧ o7 = z ∧ la < o1 ∧ o1 ≤ t) → E = 4) := by
      intro h
      rw [HST.out, if_neg (by simpa using hc)]
      exact if_pos h
    have HEN : Hid ((o2 = me ∧ o6 = f ∧ o7 = z ∧ la < o1 ∧ o1 ≤ t) → pendE me f t z o1 (P.drop (k + 1)) = E) := by
      intro h
      rw [HST.out, if_neg (by simpa using hc), if_neg (by simpa using h)]
    rw [hc]
    clear hc HST
    have m0 := HN3.out.at 0 rfl
    have m1 := HN3.out.at 1 rfl
    have m5 := HN3.out.at 5 rfl
    have m6 := HN3.out.at 6 rfl
    have y0 := HNr3.out.at 0 rfl
    have y1 := HNr3.out.at 1 rfl
    clear HN3 HNr3
    by_cases e1 : o2 = me
    case neg =>
      have d1 : (o2 == me) = false := by simpa using e1
      have HE : Hid (E = 4) := HE4.out (fun h => e1 (by simp [h]))
      clear e1 HE4 HEN
      go_wp2
      go_ret
      exact ⟨ret_int HE.out.symm, HB7.out⟩
    have d1 : (o2 == me) = true := by simpa using e1
    by_cases e2 : o6 = f
    case neg =>
      have d2 : (o6 == f) = false := by simpa using e2
      have HE : Hid (E = 4) := HE4.out (fun h => e2 (by simp [h]))
      clear e1 e2 HE4 HEN
      go_wp2
      go_ret
      exact ⟨ret_int HE.out.symm, HB7.out⟩
    have d2 : (o6 == f) = true := by simpa using e2
    by_cases e3 : o7 = z
    case neg =>
      have d3 : (o7 == z) = false := by simpa using e3
      have HE : Hid (E = 4) := HE4.out (fun h => e3 (by simp [h]))
      clear e1 e2 e3 HE4 HEN
      go_wp2
      go_ret
      exact ⟨ret_int HE.out.symm, HB7.out⟩
    have d3 : (o7 == z) = true := by simpa using e3
    by_cases e4 : o1 ≤ t
    case neg =>
      have d4 : decide (o1 > t) = true := by simpa using e4
      have HE : Hid (E = 4) := HE4.out (fun h => e4 (by simp [h]))
      clear e1 e2 e3 e4 HE4 HEN
      go_wp2
      go_ret
      exact ⟨ret_int HE.out.symm, HB7.out⟩
    have d4 : decide (o1 > t) = false := by simpa using e4
    by_cases e5 : la < o1
    case neg =>
      have d5 : decide (o1 ≤ la) = true := by simpa using e5
      have HE : Hid (E = 4) := HE4.out (fun h => e5 (by simp [h]))
      clear e1 e2 e3 e4 e5 HE4 HEN
      go_wp2
      go_ret
      exact ⟨ret_int HE.out.symm, HB7.out⟩
    have d5 : decide (o1 ≤ la) = false := by simpa using e5
    have HP1 := Lib.hid (HEN.out ⟨e1, e2, e3, e5, e4⟩)
    clear e1 e2 e3 e4 e5 HE4 HEN
    go_wp2
    go_roundw
    case rel => exact ⟨k + 1, z, o1, HLT.out, by rw [PZ.out], rfl, by go_num, by rw [HZ.out, HY.out]; omega, HP1.out, HBW3.out⟩
    case measure => have := HLT.out; simp [intOf]; omega

set_option maxHeartbeats 8000000 in
set_option maxRecDepth 100000 in
theorem ccheck_any (w : World) (x : Cm) (me : Int) (hx : ClIn w x) :
    Calls Tryz.prog 14 #[x.val, .int .i64 me] w fun e w' => e = .returned (.int .i64 (clE x.1 me)) ∧ Below w.heap.size w w' := by
  have CR := Lib.hid (fun W => cinRange_any W x)
  have CF := Lib.hid (fun W h => cholds_any W x h)
  have CP := Lib.hid (fun W h1 h2 h3 => ccheckPending_any W x me h1 h2 h3)
  obtain ⟨⟨⟨f, t, s, v⟩, P, R, K, V⟩, ⟨aP, cP⟩, ⟨aR, cR⟩, ⟨aK, cK⟩, ⟨aV, cV⟩⟩ := x
  obtain ⟨E, hE⟩ : ∃ E, E = clE ((f, t, s, v), P, R, K, V) me := ⟨_, rfl⟩
  show Calls Tryz.prog _ #[.agg #[Value.int .i64 f, .int .i64 t, .int .i64 s, .slice aP P.length cP, .int .i64 v, .slice aR R.length cR, .slice aK K.length cK, .slice aV V.length cV], .int .i64 me] w fun e w' => e = .returned (.int .i64 (clE ((f, t, s, v), P, R, K, V) me)) ∧ _
  rw [← hE]
  have HEQ := Lib.hid hE
  obtain ⟨W0, hW, hN, hB, -⟩ := laid1 w [Value.int .i64 f, .int .i64 t, .int .i64 s, .slice aP P.length cP, .int .i64 v, .slice aR R.length cR, .slice aK K.length cK, .slice aV V.length cV] 28
  have HB := Lib.hid hB
  have HXI := Lib.hid (hx.keep hB)
  have HN := Lib.hid hN
  clear hB hE hx hN
  go_enter Tryz.func14, Tryz.ntmps14
  go_wp2_with fail
  clear hW
  refine (cwithin_any _ me 0 2).mono ?_
  rintro e w2 ⟨rfl, rfl⟩
  by_cases hme : 0 ≤ me ∧ me ≤ 2
  case neg =>
    have d1 : inB me 0 2 = false := by simp [inB]; omega
    have HE : Hid (E = 5) := by show _ = _; rw [HEQ.out]; exact Orangery.clE_who hme
    rw [d1]
    clear hme d1 HXI HN CR CF CP
    go_wp2
    go_ret
    exact ⟨ret_int HE.out.symm, HB.out⟩
  have d1 : inB me 0 2 = true := by simp [inB]; omega
  rw [d1]
  have HME := Lib.hid hme
  clear hme d1
  rename World => W1
  have HRG := Lib.hid HN.out.range
  go_wp2_with (first | (refine wpList_load_mid rfl 28 _ rfl w.heap.size 0 rfl [Value.int .i64 f, .int .i64 t, .int .i64 s, .slice aP P.length cP, .int .i64 v, .slice aR R.length cR, .slice aK K.length cK, .slice aV V.length cV] _ HRG.out Tryz.underlying28 rfl sizeClient ?_) | fail)
  refine (CR.out W1).mono ?_
  rintro e w2 ⟨rfl, hb2⟩
  have HB2 := Lib.hid (HB.out.trans (hb2.mono HB.out.size))
  have HX2 := Lib.hid (HXI.out.keep hb2)
  have HN2 := Lib.hid (HN.out.keep hb2)
  clear hb2 HB HXI HN CR HRG
  simp only
  cases h1 : clRange ((f, t, s, v), P, R, K, V)
  · have HE : Hid (E = 3) := by show _ = _; rw [HEQ.out]; exact Orangery.clE_range HME.out h1
    clear h1 HX2 HN2 CF CP
    go_wp2
    go_ret
    exact ⟨ret_int HE.out.symm, HB2.out⟩
  have HR := Lib.hid h1
  clear h1
  have x3 := HN2.out.at 3 rfl
  by_cases h8 : 8 < P.length
  · have HE : Hid (E = 2) := by show _ = _; rw [HEQ.out]; exact Orangery.clE_many HME.out HR.out h8
    have d1 : decide ((P.length : Int) > 8) = true := by simp; omega
    clear h8 HX2 HN2 CF CP HR
    go_wp2
    go_ret
    exact ⟨ret_int HE.out.symm, HB2.out⟩
  have d1 : decide ((P.length : Int) > 8) = false := by simp; omega
  have H8 : Hid (P.length ≤ 8) := by show _ ≤ _; omega
  clear h8
  have x5 := HN2.out.at 5 rfl
  have x6 := HN2.out.at 6 rfl
  have x7 := HN2.out.at 7 rfl
  go_wp2_with fail
  clear d1 x3 x5 x6 x7
  have hq := HX2.out.few
  simp only at hq
  refine (vcheck_any _ aR aK aV cR cK cV R K V (by unfold maxLen; omega) (by unfold maxLen; omega) (by unfold maxLen; omega) HX2.out.nils.2 HX2.out.lr HX2.out.lk HX2.out.lv).mono ?_
  rintro e w4 ⟨rfl, hb4⟩
  have HB4 := Lib.hid (HB2.out.trans (hb4.mono HB2.out.size))
  have HN4 := Lib.hid (HN2.out.keep hb4)
  have HX4 := Lib.hid (HX2.out.keep hb4)
  clear hq hb4 HB2 HN2 HX2
  by_cases hv : viewE R K V = 0
  case neg =>
    have HE : Hid (E = viewE R K V) := by show _ = _; rw [HEQ.out]; exact Orangery.clE_view HME.out HR.out H8.out hv
    have hv' : (viewE R K V != 0) = true := by simpa using hv
    clear hv HX4 HN4 HR HEQ CF CP
    generalize viewE R K V = F at *
    go_wp2
    go_ret
    exact ⟨ret_int HE.out.symm, HB4.out⟩
  have HF : Hid (E = if clForm ((f, t, s, v), P, R, K, V) = true then 4 else pendE me f t (s - P.length) 0 P) := by
    show _ = _
    rw [HEQ.out]
    exact Orangery.clE_form HME.out HR.out H8.out hv
  rw [hv]
  clear hv HEQ
  have HRG := Lib.hid HN4.out.range
  go_wp2_with (first | (refine wpList_load_mid rfl 28 _ rfl w.heap.size 0 rfl [Value.int .i64 f, .int .i64 t, .int .i64 s, .slice aP P.length cP, .int .i64 v, .slice aR R.length cR, .slice aK K.length cK, .slice aV V.length cV] _ HRG.out Tryz.underlying28 rfl sizeClient ?_) | fail)
  refine (CF.out w4 HR.out).mono ?_
  rintro e w5 ⟨rfl, hb5⟩
  have HB5 := Lib.hid (HB4.out.trans (hb5.mono HB4.out.size))
  have HX5 := Lib.hid (HX4.out.keep hb5)
  have HN5 := Lib.hid (HN4.out.keep hb5)
  clear hb5 HB4 HX4 HN4 HRG CF
  simp only
  cases h1 : clForm ((f, t, s, v), P, R, K, V)
  case true =>
    have HE : Hid (E = 4) := by show _ = _; rw [HF.out, h1]; rfl
    clear h1 HX5 HN5 CP HR HF
    go_wp2
    go_ret
    exact ⟨ret_int HE.out.symm, HB5.out⟩
  have HE : Hid (pendE me f t (s - P.length) 0 P = E) := by show _ = _; rw [HF.out, h1]; rfl
  clear h1 HF
  have HRG := Lib.hid HN5.out.range
  go_wp2_with (first | (refine wpList_load_mid rfl 28 _ rfl w.heap.size 0 rfl [Value.int .i64 f, .int .i64 t, .int .i64 s, .slice aP P.length cP, .int .i64 v, .slice aR R.length cR, .slice aK K.length cK, .slice aV V.length cV] _ HRG.out Tryz.underlying28 rfl sizeClient ?_) | fail)
  refine (CP.out w5 HX5.out HR.out H8.out).mono ?_
  rintro e w6 ⟨rfl, hb6⟩
  have HB6 := Lib.hid (HB5.out.trans (hb6.mono HB5.out.size))
  clear hb6 HB5 HX5 HN5 HRG CP
  simp only
  rw [HE.out]
  go_wp2
  go_ret
  exact ⟨rfl, HB6.out⟩
end Go.Proofs.YtijjiccgpobjmaeGreat

/- Deleting what is true of a list, whatever its elements. -/
namespace Orangery

/-- the first one of which f is true, or -1 -/
def idxA {α : Type} (f : α → Bool) : Nat → List α → Int
  | _, [] => -1
  | k, p :: l => if f p = true then (k : Int) else idxA f (k + 1) l
def KeptA {α : Type} (f : α → Bool) (l m : List α) (i j : Nat) : Prop :=
  m.length = l.length ∧ i < j ∧ j ≤ l.length ∧ m.take i = (l.take j).filter (fun p => !f p) ∧ m.drop j = l.drop j
theorem idxA_first {α : Type} (f : α → Bool) (l : List α) : ∀ k, (idxA f k l = -1 ∧ l.filter (fun p => !f p) = l) ∨ ∃ i, i < l.length ∧ idxA f k l = ((k + i : Nat) : Int) ∧ (l.take (i + 1)).filter (fun p => !f p) = l.take i := by
  induction l with
  | nil => intro k; exact Or.inl ⟨rfl, rfl⟩
  | cons p l ih =>
    intro k
    cases hp : f p
    · rcases ih (k + 1) with ⟨h1, h2⟩ | ⟨i, hi, h1, h2⟩
      · exact Or.inl ⟨by simp [idxA, hp, h1], by simp [hp, h2]⟩
      · refine Or.inr ⟨i + 1, by simpa using hi, ?_, ?_⟩
        · simp [idxA, hp, h1]; omega
        · rw [List.take_succ_cons, List.take_succ_cons, List.filter_cons_of_pos (by simp [hp]), h2]
    · exact Or.inr ⟨0, by simp, by simp [idxA, hp], by simp [hp]⟩
theorem idxA_step {α : Type} (f : α → Bool) (l : List α) (k : Nat) (h : k < l.length) (hs : idxA f k (l.drop k) = idxA f 0 l) :
    (f l[k] = true → idxA f 0 l = k) ∧ (f l[k] = false → idxA f (k + 1) (l.drop (k + 1)) = idxA f 0 l) := by
  rw [List.drop_eq_getElem_cons h] at hs
  refine ⟨fun h1 => ?_, fun h1 => ?_⟩
  · simp [idxA, h1] at hs; exact hs.symm
  · simp [idxA, h1] at hs; exact hs
theorem KeptA.start {α : Type} (f : α → Bool) (l : List α) (i : Nat) (h : i < l.length) (hf : (l.take (i + 1)).filter (fun p => !f p) = l.take i) : KeptA f l l i (i + 1) :=
  ⟨rfl, by omega, by omega, hf.symm, rfl⟩
theorem KeptA.get {α : Type} {f : α → Bool} {l m : List α} {i j : Nat} (h : KeptA f l m i j) (hj : j < l.length) : ∃ h' : j < m.length, m[j] = l[j] := by
  obtain ⟨h1, _, _, _, h5⟩ := h
  have hj' : j < m.length := by omega
  refine ⟨hj', ?_⟩
  have e := congrArg (·[0]?) h5
  simp only [List.getElem?_drop, Nat.add_zero] at e
  rw [List.getElem?_eq_getElem hj', List.getElem?_eq_getElem hj] at e
  exact Option.some.inj e
theorem KeptA.skip {α : Type} {f : α → Bool} {l m : List α} {i j : Nat} (h : KeptA f l m i j) (hj : j < l.length) (hf : f l[j] = true) : KeptA f l m i (j + 1) := by
  obtain ⟨h1, h2, h3, h4, h5⟩ := h
  refine ⟨h1, by omega, by omega, ?_, ?_⟩
  · rw [List.take_succ_eq_append_getElem hj, List.filter_append, List.filter_cons_of_neg (by simp [hf]), List.filter_nil, List.append_nil, h4]
  · rw [← List.drop_drop, ← List.drop_drop, h5]
theorem KeptA.keep {α : Type} {f : α → Bool} {l m : List α} {i j : Nat} (h : KeptA f l m i j) (hj : j < l.length) (hf : f l[j] = false) : KeptA f l (m.set i l[j]) (i + 1) (j + 1) := by
  obtain ⟨h1, h2, h3, h4, h5⟩ := h
  refine ⟨by simpa using h1, by omega, by omega, ?_, ?_⟩
  · rw [List.take_succ_eq_append_getElem hj, List.filter_append, List.filter_cons_of_pos (by simp [hf]), List.filter_nil, ← h4, List.take_succ_eq_append_getElem (by simp; omega), List.getElem_set_self, List.take_set_of_le (Nat.le_refl _)]
  · rw [List.drop_set_of_lt (by omega), ← List.drop_drop, ← List.drop_drop, h5]
theorem KeptA.done {α : Type} {f : α → Bool} {l m : List α} {i j : Nat} (h : KeptA f l m i j) (hj : ¬ j < l.length) : m.take i = l.filter (fun p => !f p) := by
  obtain ⟨_, _, h3, h4, _⟩ := h
  rw [h4, List.take_of_length_le (by omega)]
end Orangery

/- Plain facts on histories: operations by their stamps, done one by one: runT (the tree), runS (the steps), srt (by rank, of like ranks the first one). -/
namespace Orangery

/-- the rank of an operation's stamp -/
def rk (o : Mv) : Int := o.1 * 3 + o.2.1
abbrev byRk (l : List Mv) : Prop := l.Pairwise fun a b => rk a < rk b

/-- one operation, of a right tree -/
def dT (t : List Pl) (o : Mv) : List Pl := if ring t o = true then t else inL t o.2.2.1
def dS (t : List Pl) (o : Mv) : Stp := (o, !ring t o, find t o.2.2.1.1)
def runT : List Pl → List Mv → List Pl
  | t, [] => t
  | t, o :: l => runT (dT t o) l
def runS : List Pl → List Mv → List Stp
  | _, [] => []
  | t, o :: l => dS t o :: runS (dT t o) l

theorem runT_append (l m : List Mv) : ∀ t, runT t (l ++ m) = runT (runT t l) m := by
  induction l with
  | nil => intro t; rfl
  | cons o l ih => intro t; exact ih _
theorem runS_append (l m : List Mv) : ∀ t, runS t (l ++ m) = runS t l ++ runS (runT t l) m := by
  induction l with
  | nil => intro t; rfl
  | cons o l ih => intro t; show dS t o :: runS (dT t o) (l ++ m) = dS t o :: (runS (dT t o) l ++ runS (runT (dT t o) l) m); rw [ih]
theorem runS_ops (l : List Mv) : ∀ t, (runS t l).map (·.1) = l := by
  induction l with
  | nil => intro t; rfl
  | cons o l ih => intro t; show o :: (runS (dT t o) l).map (·.1) = o :: l; rw [ih]
theorem runS_len (l : List Mv) (t : List Pl) : (runS t l).length = l.length := by
  have := congrArg List.length (runS_ops l t)
  simpa using this

theorem dT_eq {t : List Pl} {o : Mv} (h : doE t o = 0) : doT t o = dT t o ∧ doS t o = dS t o := ⟨doT_eq h, doS_eq h⟩
theorem doE_of {t : List Pl} {o : Mv} (h1 : check t = 0) (h2 : checkOp o = 0) : doE t o = 0 := by
  unfold doE orI
  rw [if_neg (by simp [h1]), h2]
theorem dT_check {t : List Pl} {o : Mv} (h1 : check t = 0) (h2 : checkOp o = 0) : check (dT t o) = 0 := by
  have h := doE_of h1 h2
  rw [← (dT_eq h).1]
  exact doT_check h
theorem runT_check (l : List Mv) : ∀ t, check t = 0 → (∀ o ∈ l, checkOp o = 0) → check (runT t l) = 0 := by
  induction l with
  | nil => intro t h _; exact h
  | cons o l ih => intro t h hl; exact ih _ (dT_check h (hl o (by simp))) (fun p hp => hl p (by simp [hp]))
theorem check_empty : check [] = 0 := by decide

theorem snoc_ind {P : List Mv → Prop} (h0 : P []) (h1 : ∀ l o, P l → P (l ++ [o])) : ∀ l, P l := by
  have key : ∀ r : List Mv, P r.reverse := by
    intro r
    induction r with
    | nil => exact h0
    | cons o r ih => rw [List.reverse_cons]; exact h1 _ _ ih
  intro l
  have := key l.reverse
  rwa [List.reverse_reverse] at this

/-- an operation put in by its rank -/
def insO (o : Mv) (l : List Mv) : List Mv := (l.filter fun x => decide (rk x < rk o)) ++ o :: (l.filter fun x => decide (rk o < rk x))
def hasR (o : Mv) (l : List Mv) : Bool := l.any fun x => rk x == rk o
def addO (l : List Mv) (o : Mv) : List Mv := if hasR o l = true then l else insO o l
def srt (l : List Mv) : List Mv := l.foldl addO []

theorem srt_nil : srt [] = [] := rfl
theorem srt_snoc (l : List Mv) (o : Mv) : srt (l ++ [o]) = addO (srt l) o := by
  unfold srt
  rw [List.foldl_append]
  rfl

theorem hasR_iff (o : Mv) (l : List Mv) : hasR o l = true ↔ ∃ x ∈ l, rk x = rk o := by
  unfold hasR
  rw [List.any_eq_true]
  simp

theorem insO_sorted (o : Mv) (l : List Mv) (h : byRk l) : byRk (insO o l) := by
  unfold insO byRk
  rw [List.pairwise_append]
  refine ⟨h.filter _, ?_, ?_⟩
  · rw [List.pairwise_cons]
    exact ⟨by intro q hq; simp at hq; omega, h.filter _⟩
  · intro q hq r hr
    simp at hq hr
    rcases hr with rfl | hr <;> omega

theorem insO_mem (o : Mv) (l : List Mv) (h : hasR o l = false) (x : Mv) : x ∈ insO o l ↔ x = o ∨ x ∈ l := by
  have hn : ∀ y ∈ l, rk y ≠ rk o := by
    intro y hy e
    have := (hasR_iff o l).2 ⟨y, hy, e⟩
    rw [h] at this
    simp at this
  unfold insO
  rw [List.mem_append, List.mem_cons, List.mem_filter, List.mem_filter]
  simp only [decide_eq_true_eq]
  constructor
  · rintro (⟨h1, _⟩ | h1 | ⟨h1, _⟩)
    · exact Or.inr h1
    · exact Or.inl h1
    · exact Or.inr h1
  · rintro (h1 | h1)
    · exact Or.inr (Or.inl h1)
    · rcases Int.lt_or_gt_of_ne (hn x h1) with h2 | h2
      · exact Or.inl ⟨h1, h2⟩
      · exact Or.inr (Or.inr ⟨h1, h2⟩)

theorem filterM_or (f g : Mv → Bool) (hd : ∀ p, f p = true → g p = false) (l : List Mv) : (l.filter f ++ l.filter g).Perm (l.filter fun p => f p || g p) := by
  induction l with
  | nil => exact List.Perm.refl _
  | cons p l ih =>
    simp only [List.filter_cons]
    cases hf : f p
    · cases hg : g p
      · simpa using ih
      · simp only [Bool.or_true, if_true, Bool.false_eq_true, if_false]
        exact List.perm_middle.trans (List.Perm.cons _ ih)
    · have hg := hd p hf
      simp only [hg, Bool.or_false, if_true, Bool.false_eq_true, if_false, List.cons_append]
      exact List.Perm.cons _ ih

theorem insO_perm (o : Mv) (l : List Mv) (h : hasR o l = false) : (insO o l).Perm (l ++ [o]) := by
  have h1 := filterM_or (fun q => decide (rk q < rk o)) (fun q => decide (rk o < rk q)) (by intro q hq; simp at hq ⊢; omega) l
  have e : (l.filter fun q => decide (rk q < rk o) || decide (rk o < rk q)) = l := by
    rw [List.filter_eq_self]
    intro q hq
    have : rk q ≠ rk o := by
      intro e
      have := (hasR_iff o l).2 ⟨q, hq, e⟩
      rw [h] at this
      simp at this
    simp
    omega
  rw [e] at h1
  unfold insO
  refine List.perm_middle.trans ?_
  refine (List.Perm.cons o h1).trans ?_
  exact List.perm_append_comm (l₁ := [o])

theorem srt_sorted : ∀ l, byRk (srt l) := by
  refine snoc_ind ?_ ?_
  · exact List.Pairwise.nil
  · intro l o ih
    rw [srt_snoc]
    unfold addO
    split
    · exact ih
    · exact insO_sorted o _ ih

theorem srt_first : ∀ l, ∀ d ∈ srt l, l.find? (fun x => rk x == rk d) = some d := by
  refine snoc_ind ?_ ?_
  · intro d hd; simp [srt_nil] at hd
  · intro l o ih d hd
    rw [srt_snoc] at hd
    rw [List.find?_append]
    unfold addO at hd
    split at hd
    · rw [ih d hd]; rfl
    · rename_i hn
      have hn' : hasR o (srt l) = false := by simpa using hn
      rw [insO_mem o _ hn'] at hd
      rcases hd with rfl | hd
      · have : l.find? (fun x => rk x == rk d) = none := by
          rw [List.find?_eq_none]
          intro x hx he
          have he' : rk x = rk d := by simpa using he
          have key : ∀ l : List Mv, ∀ x ∈ l, ∃ y ∈ srt l, rk y = rk x := by
            refine snoc_ind ?_ ?_
            · intro x hx; simp at hx
            · intro l o ih x hx
              rw [srt_snoc]
              unfold addO
              split
              · rename_i hh
                rw [List.mem_append] at hx
                rcases hx with hx | hx
                · exact ih x hx
                · simp at hx
                  subst hx
                  exact (hasR_iff _ _).1 hh
              · rename_i hh
                have hh' : hasR o (srt l) = false := by simpa using hh
                rw [List.mem_append] at hx
                rcases hx with hx | hx
                · obtain ⟨y, hy, e⟩ := ih x hx
                  exact ⟨y, (insO_mem o _ hh' y).2 (Or.inr hy), e⟩
                · simp at hx
                  subst hx
                  exact ⟨x, (insO_mem x _ hh' x).2 (Or.inl rfl), rfl⟩
          obtain ⟨y, hy, e⟩ := key l x hx
          have := (hasR_iff d (srt l)).2 ⟨y, hy, by rw [e, he']⟩
          rw [hn'] at this
          simp at this
        rw [this]
        simp
      · rw [ih d hd]; rfl

theorem srt_all : ∀ l : List Mv, ∀ x ∈ l, ∃ y ∈ srt l, rk y = rk x := by
  refine snoc_ind ?_ ?_
  · intro x hx; simp at hx
  · intro l o ih x hx
    rw [srt_snoc]
    unfold addO
    split
    · rename_i hh
      rw [List.mem_append] at hx
      rcases hx with hx | hx
      · exact ih x hx
      · simp at hx
        subst hx
        exact (hasR_iff _ _).1 hh
    · rename_i hh
      have hh' : hasR o (srt l) = false := by simpa using hh
      rw [List.mem_append] at hx
      rcases hx with hx | hx
      · obtain ⟨y, hy, e⟩ := ih x hx
        exact ⟨y, (insO_mem o _ hh' y).2 (Or.inr hy), e⟩
      · simp at hx
        subst hx
        exact ⟨x, (insO_mem x _ hh' x).2 (Or.inl rfl), rfl⟩

theorem srt_mem (l : List Mv) (d : Mv) (h : d ∈ srt l) : d ∈ l := List.mem_of_find?_eq_some (srt_first l d h)

/-- no two of a like rank -/
abbrev noTwo (l : List Mv) : Prop := l.Pairwise fun a b => rk a ≠ rk b

theorem srt_len : ∀ l, (srt l).length ≤ l.length ∧ (noTwo l → (srt l).Perm l) ∧ (¬ noTwo l → (srt l).length < l.length) := by
  refine snoc_ind ?_ ?_
  · exact ⟨by simp [srt_nil], fun _ => by rw [srt_nil], fun h => absurd List.Pairwise.nil h⟩
  · intro l o ⟨h1, h2, h3⟩
    rw [srt_snoc]
    unfold addO
    have hlast : noTwo (l ++ [o]) ↔ noTwo l ∧ ∀ x ∈ l, rk x ≠ rk o := by
      unfold noTwo
      rw [List.pairwise_append]
      simp
    split
    · rename_i hh
      refine ⟨by simp; omega, fun hn => ?_, fun _ => by simp; omega⟩
      exfalso
      obtain ⟨x, hx, e⟩ := (hasR_iff _ _).1 hh
      exact (hlast.1 hn).2 x (srt_mem l x hx) e
    · rename_i hh
      have hh' : hasR o (srt l) = false := by simpa using hh
      have hp := insO_perm o (srt l) hh'
      have hl := hp.length_eq
      rw [List.length_append] at hl
      refine ⟨by rw [hl]; simp; exact h1, fun hn => ?_, fun hn => ?_⟩
      · exact hp.trans ((h2 (hlast.1 hn).1).append_right [o])
      · rw [hl]
        have : ¬ noTwo l := by
          intro hl'
          apply hn
          rw [hlast]
          refine ⟨hl', fun x hx e => ?_⟩
          obtain ⟨y, hy, e2⟩ := srt_all l x hx
          have := (hasR_iff o (srt l)).2 ⟨y, hy, by rw [e2, e]⟩
          rw [hh'] at this
          simp at this
        have := h3 this
        simp
        exact this

theorem rk_unique (l m : List Mv) (hl : byRk l) (hm : byRk m) (hp : l.Perm m) : l = m := by
  refine List.Perm.eq_of_pairwise (le := fun a b : Mv => rk a ≤ rk b) ?_ (hl.imp (by intro a b h; omega)) (hm.imp (by intro a b h; omega)) hp
  intro a b h1 h2 h3 h4
  have h5 : a ∈ m := hp.mem_iff.1 h1
  have key : ∀ m : List Mv, byRk m → a ∈ m → b ∈ m → rk a = rk b → a = b := by
    intro m
    induction m with
    | nil => intro _ h; simp at h
    | cons x m ih =>
      intro hb ha hbm e
      replace hb := List.pairwise_cons.1 hb
      simp at ha hbm
      rcases ha with rfl | ha <;> rcases hbm with rfl | hbm
      · rfl
      · have := hb.1 b hbm; omega
      · have := hb.1 a ha; omega
      · exact ih hb.2 ha hbm e
  exact key m hm h5 h2 (by omega)

theorem byRk_noTwo {l : List Mv} (h : byRk l) : noTwo l := h.imp (by intro a b h; omega)
theorem noTwo_perm {l m : List Mv} (h : l.Perm m) (hl : noTwo l) : noTwo m :=
  (h.pairwise_iff (by intro a b h e; exact h e.symm)).1 hl

/-- what is in order, and holds the same ones, is what is sorted -/
theorem srt_unique (l m : List Mv) (hm : byRk m) (hp : m.Perm l) : srt l = m :=
  rk_unique _ _ (srt_sorted l) hm (((srt_len l).2.1 (noTwo_perm hp (byRk_noTwo hm))).trans hp.symm)
theorem srt_self (l : List Mv) (h : byRk l) : srt l = l := srt_unique l l h (List.Perm.refl _)
theorem srt_perm (l m : List Mv) (hn : noTwo l) (hp : l.Perm m) : srt l = srt m :=
  srt_unique l (srt m) (srt_sorted m) (((srt_len m).2.1 (noTwo_perm hp hn)).trans hp.symm)
theorem srt_again (l : List Mv) : srt (srt l) = srt l := srt_self _ (srt_sorted l)

/-- the rank ahead of the k-th -/
def lastR (d : List Mv) (k : Nat) : Int := if h : 0 < k ∧ k - 1 < d.length then rk d[k - 1] else -1

/-- the least one above the last one is the next one -/
theorem srt_next (l : List Mv) (k : Nat) (hk : k ≤ (srt l).length) (hpos : ∀ o ∈ l, 0 ≤ rk o) (b : Mv) (hf : l.find? (fun x => rk x == rk b) = some b) (hb : lastR (srt l) k < rk b)
    (hmin : ∀ x ∈ l, lastR (srt l) k < rk x → rk b ≤ rk x) : ∃ h : k < (srt l).length, (srt l)[k] = b := by
  have hbl : b ∈ l := List.mem_of_find?_eq_some hf
  obtain ⟨d, hd, e⟩ := srt_all l b hbl
  have hdb : d = b := by
    have h1 := srt_first l d hd
    rw [e, hf] at h1
    exact (Option.some.inj h1).symm
  subst hdb
  obtain ⟨j, hj, hjd⟩ := List.getElem_of_mem hd
  have hs := List.pairwise_iff_getElem.1 (srt_sorted l)
  have hjk : k ≤ j := by
    rcases Nat.lt_or_ge j k with h | h
    · exfalso
      unfold lastR at hb
      rw [dif_pos ⟨by omega, by omega⟩, ← hjd] at hb
      rcases Nat.lt_or_ge j (k - 1) with h2 | h2
      · have := hs j (k - 1) hj (by omega) h2; omega
      · have e2 : j = k - 1 := by omega
        subst e2
        omega
    · exact h
  have hlt : k < (srt l).length := by omega
  refine ⟨hlt, ?_⟩
  rcases Nat.lt_or_ge k j with h | h
  · exfalso
    have h1 := hs k j hlt hj h
    have h2 : lastR (srt l) k < rk (srt l)[k] := by
      unfold lastR
      split
      · exact hs (k - 1) k (by omega) hlt (by omega)
      · have := hpos _ (srt_mem l _ (List.getElem_mem hlt)); omega
    have h3 := hmin _ (srt_mem l _ (List.getElem_mem hlt)) h2
    rw [hjd] at h1
    omega
  · have e2 : j = k := by omega
    subst e2
    exact hjd

/-- where none is above the last one, all are there -/
theorem srt_none (l : List Mv) (k : Nat) (hk : k ≤ (srt l).length) (hpos : ∀ o ∈ l, 0 ≤ rk o) (hno : ∀ x ∈ l, ¬ lastR (srt l) k < rk x) : k = (srt l).length := by
  rcases Nat.lt_or_ge k (srt l).length with h | h
  · exfalso
    have hs := List.pairwise_iff_getElem.1 (srt_sorted l)
    refine hno _ (srt_mem l _ (List.getElem_mem h)) ?_
    unfold lastR
    split
    · exact hs (k - 1) k (by omega) h (by omega)
    · have := hpos _ (srt_mem l _ (List.getElem_mem h)); omega
  · omega

/-- later ones come behind -/
theorem srt_late (d : List Mv) (o : Mv) (hd : byRk d) (h : ∀ x ∈ d, rk x < rk o) : srt (d ++ [o]) = d ++ [o] := by
  refine srt_self _ ?_
  unfold byRk
  rw [List.pairwise_append]
  refine ⟨hd, by simp, ?_⟩
  intro a ha b hb
  simp at hb
  subst hb
  exact h a ha

theorem rk_pos {o : Mv} (h : checkOp o = 0) : 0 ≤ rk o := by
  have := checkOp_zero h
  simp only [opOkB, decide_eq_true_eq] at this
  unfold rk
  omega
/-- like ranks are like stamps -/
theorem rk_eq {o p : Mv} (ho : checkOp o = 0) (hp : checkOp p = 0) : rk o = rk p ↔ o.1 = p.1 ∧ o.2.1 = p.2.1 := by
  have h1 := checkOp_zero ho
  have h2 := checkOp_zero hp
  simp only [opOkB, decide_eq_true_eq] at h1 h2
  unfold rk
  omega
theorem rk_lt {o p : Mv} (ho : checkOp o = 0) (hp : checkOp p = 0) : rk o < rk p ↔ o.1 < p.1 ∨ (o.1 = p.1 ∧ o.2.1 < p.2.1) := by
  have h1 := checkOp_zero ho
  have h2 := checkOp_zero hp
  simp only [opOkB, decide_eq_true_eq] at h1 h2
  unfold rk
  omega

/-- where the last step of a node that did anything put it -/
def wantAt (n : Int) : Pl → List Stp → Pl
  | p, [] => p
  | p, s :: l => wantAt n (if s.1.2.2.1.1 = n ∧ s.2.1 = true then (n, s.1.2.2.1.2.1, s.1.2.2.1.2.2) else p) l

theorem run_want (n : Int) (l : List Mv) : ∀ t, find (runT t l) n = wantAt n (find t n) (runS t l) := by
  induction l with
  | nil => intro t; rfl
  | cons o l ih =>
    intro t
    show find (runT (dT t o) l) n = wantAt n (if o.2.2.1.1 = n ∧ (!ring t o) = true then (n, o.2.2.1.2.1, o.2.2.1.2.2) else find t n) (runS (dT t o) l)
    rw [ih]
    congr 1
    unfold dT
    cases hr : ring t o
    · rw [if_neg (by simp), find_in]
      by_cases hn : n = o.2.2.1.1
      · subst hn
        simp
      · rw [if_neg hn, if_neg (fun h => hn h.1.symm)]
    · simp
end Orangery

/- Plain facts on chapter 3: what Fold, Check and Insert answer, of operations and steps as lists. -/
namespace Orangery

/-- the first error of operations -/
def firstE : List Mv → Int
  | [] => 0
  | o :: l => if checkOp o ≠ 0 then checkOp o else firstE l

theorem firstE_zero (l : List Mv) : firstE l = 0 ↔ ∀ o ∈ l, checkOp o = 0 := by
  induction l with
  | nil => simp [firstE]
  | cons o l ih =>
    unfold firstE
    by_cases h : checkOp o = 0
    · rw [if_neg (by simp [h]), ih]
      simp [h]
    · rw [if_pos h]
      constructor
      · intro h'; exact absurd h' h
      · intro h'; exact absurd (h' o (by simp)) h

/-- a look at operations one by one -/
theorem firstE_drop (l : List Mv) (k : Nat) (h : k < l.length) (hs : firstE (l.drop k) = firstE l) :
    (checkOp l[k] ≠ 0 → firstE l = checkOp l[k]) ∧ (checkOp l[k] = 0 → firstE (l.drop (k + 1)) = firstE l) := by
  rw [List.drop_eq_getElem_cons h] at hs
  have e : firstE (l[k] :: l.drop (k + 1)) = if checkOp l[k] ≠ 0 then checkOp l[k] else firstE (l.drop (k + 1)) := rfl
  rw [e] at hs
  constructor
  · intro h1; rw [if_pos h1] at hs; exact hs.symm
  · intro h1; rw [if_neg (by simp [h1])] at hs; exact hs

/-- history.Fold -/
def foldE (l : List Mv) : Int := if 30 < l.length then 2 else if firstE l ≠ 0 then firstE l else if (srt l).length < l.length then 6 else 0
def foldL (l : List Mv) : List Stp := if foldE l ≠ 0 then [] else runS [] (srt l)
def foldT (l : List Mv) : List Pl := if foldE l ≠ 0 then [] else runT [] (srt l)

theorem foldE_zero (l : List Mv) : foldE l = 0 ↔ l.length ≤ 30 ∧ (∀ o ∈ l, checkOp o = 0) ∧ noTwo l := by
  rw [← firstE_zero]
  unfold foldE
  have hs := srt_len l
  constructor
  · intro h
    split at h
    · omega
    · split at h
      · contradiction
      · split at h
        · omega
        · rename_i h1 h2 h3
          refine ⟨by omega, by simpa using h2, ?_⟩
          by_cases hn : noTwo l
          · exact hn
          · exact absurd (hs.2.2 hn) h3
  · rintro ⟨h1, h2, h3⟩
    rw [if_neg (by omega), if_neg (by simp [h2]), if_neg]
    have := (hs.2.1 h3).length_eq
    omega

theorem foldE_perm {l m : List Mv} (hp : l.Perm m) (h : foldE l = 0) : foldE m = 0 ∧ srt m = srt l := by
  obtain ⟨h1, h2, h3⟩ := (foldE_zero l).1 h
  exact ⟨(foldE_zero m).2 ⟨by rw [← hp.length_eq]; exact h1, fun o ho => h2 o (hp.mem_iff.2 ho), noTwo_perm hp h3⟩, (srt_perm l m h3 hp).symm⟩

theorem srt_ok {l : List Mv} (h : foldE l = 0) : foldE (srt l) = 0 ∧ (srt l).Perm l ∧ (srt l).length = l.length := by
  obtain ⟨h1, h2, h3⟩ := (foldE_zero l).1 h
  have hp := (srt_len l).2.1 h3
  exact ⟨(foldE_perm hp.symm h).1, hp, hp.length_eq⟩

theorem fold_ok {l : List Mv} (h : foldE l = 0) : foldL l = runS [] (srt l) ∧ foldT l = runT [] (srt l) ∧ (foldL l).map (·.1) = srt l ∧ (foldL l).length = l.length ∧ check (foldT l) = 0 := by
  obtain ⟨h1, h2, h3⟩ := (foldE_zero l).1 h
  have e1 : foldL l = runS [] (srt l) := by unfold foldL; rw [if_neg (by simp [h])]
  have e2 : foldT l = runT [] (srt l) := by unfold foldT; rw [if_neg (by simp [h])]
  refine ⟨e1, e2, by rw [e1, runS_ops], by rw [e1, runS_len]; exact (srt_ok h).2.2, ?_⟩
  rw [e2]
  exact runT_check _ _ check_empty (fun o ho => h2 o (srt_mem l o ho))

theorem fold_perm {l m : List Mv} (hp : l.Perm m) (h : foldE l = 0) : foldL m = foldL l ∧ foldT m = foldT l := by
  obtain ⟨h1, h2⟩ := foldE_perm hp h
  obtain ⟨a1, a2, _⟩ := fold_ok h
  obtain ⟨b1, b2, _⟩ := fold_ok h1
  rw [a1, a2, b1, b2, h2]
  exact ⟨rfl, rfl⟩

/-- a history: steps and a tree -/
def eqSts : List Stp → List Stp → Bool
  | [], [] => true
  | s :: l, t :: m => decide (s = t) && eqSts l m
  | _, _ => false
theorem eqSts_iff (l : List Stp) : ∀ m, eqSts l m = true ↔ l = m := by
  induction l with
  | nil => intro m; cases m <;> simp [eqSts]
  | cons s l ih =>
    intro m
    cases m with
    | nil => simp [eqSts]
    | cons t m =>
      show (decide (s = t) && eqSts l m) = true ↔ _
      rw [Bool.and_eq_true, ih, decide_eq_true_eq, List.cons.injEq]
def sameB (L M : List Stp) (T U : List Pl) : Bool := eqSts L M && decide (T = U)
theorem sameB_iff (L M : List Stp) (T U : List Pl) : sameB L M T U = true ↔ L = M ∧ T = U := by
  unfold sameB
  rw [Bool.and_eq_true, eqSts_iff, decide_eq_true_eq]
def histE (L : List Stp) (T : List Pl) : Int := if foldE (L.map (·.1)) ≠ 0 then foldE (L.map (·.1)) else if sameB (foldL (L.map (·.1))) L (foldT (L.map (·.1))) T = true then 0 else 4

/-- what Fold made is one -/
theorem hist_fold {l : List Mv} (h : foldE l = 0) : histE (foldL l) (foldT l) = 0 := by
  obtain ⟨_, _, h3, _, _⟩ := fold_ok h
  obtain ⟨h4, h5, _⟩ := srt_ok h
  obtain ⟨h6, h7⟩ := fold_perm h5 h4
  unfold histE
  rw [h3, if_neg (by simp [h4]), if_pos ((sameB_iff _ _ _ _).2 ⟨h6.symm, h7.symm⟩)]
theorem hist_empty : histE [] [] = 0 := by decide

/-- the stamp of an operation is there -/
def thereB (L : List Stp) (o : Mv) : Bool := L.any fun s => s.1.1 == o.1 && s.1.2.1 == o.2.1

/-- history.Insert -/
def insE (L : List Stp) (T : List Pl) (o : Mv) : Int :=
  if histE L T ≠ 0 then histE L T else if checkOp o ≠ 0 then checkOp o else if thereB L o = true then 6 else foldE (L.map (·.1) ++ [o])
def insL (L : List Stp) (T : List Pl) (o : Mv) : List Stp := if insE L T o ≠ 0 then [] else foldL (L.map (·.1) ++ [o])
def insT (L : List Stp) (T : List Pl) (o : Mv) : List Pl := if insE L T o ≠ 0 then [] else foldT (L.map (·.1) ++ [o])

theorem there_iff {l : List Mv} (L : List Stp) (hl : L.map (·.1) = l) (hok : ∀ x ∈ l, checkOp x = 0) (o : Mv) (ho : checkOp o = 0) : thereB L o = true ↔ ∃ x ∈ l, rk x = rk o := by
  unfold thereB
  rw [List.any_eq_true]
  subst hl
  constructor
  · rintro ⟨s, hs, he⟩
    have hm : s.1 ∈ L.map (·.1) := List.mem_map.2 ⟨s, hs, rfl⟩
    simp at he
    exact ⟨s.1, hm, (rk_eq (hok _ hm) ho).2 he⟩
  · rintro ⟨x, hx, he⟩
    obtain ⟨s, hs, rfl⟩ := List.mem_map.1 hx
    refine ⟨s, hs, ?_⟩
    have := (rk_eq (hok _ hx) ho).1 he
    simp [this]

/-- one more operation, put into what Fold made of the others -/
theorem ins_fold {l : List Mv} (h : foldE l = 0) (o : Mv) (h' : foldE (l ++ [o]) = 0) : insE (foldL l) (foldT l) o = 0 ∧ insL (foldL l) (foldT l) o = foldL (l ++ [o]) ∧ insT (foldL l) (foldT l) o = foldT (l ++ [o]) := by
  obtain ⟨_, _, h3, _, _⟩ := fold_ok h
  obtain ⟨_, hp, _⟩ := srt_ok h
  obtain ⟨g1, g2, g3⟩ := (foldE_zero _).1 h'
  obtain ⟨k1, k2, k3⟩ := (foldE_zero l).1 h
  have ho : checkOp o = 0 := g2 o (by simp)
  have hpo : (srt l ++ [o]).Perm (l ++ [o]) := hp.append_right [o]
  have hf := (foldE_perm hpo.symm h').1
  have hno : thereB (foldL l) o = false := by
    cases ht : thereB (foldL l) o
    · rfl
    · exfalso
      obtain ⟨x, hx, he⟩ := (there_iff (foldL l) h3 (fun x hx => k2 x (srt_mem l x hx)) o ho).1 ht
      have hxl := srt_mem l x hx
      unfold noTwo at g3
      rw [List.pairwise_append] at g3
      exact g3.2.2 x hxl o (by simp) he
  have e0 : insE (foldL l) (foldT l) o = 0 := by
    unfold insE
    rw [if_neg (by simp [hist_fold h]), if_neg (by simp [ho]), if_neg (by simp [hno]), h3]
    exact hf
  obtain ⟨e1, e2⟩ := fold_perm hpo.symm h'
  refine ⟨e0, ?_, ?_⟩
  · unfold insL; rw [if_neg (by simp [e0]), h3]; exact e1
  · unfold insT; rw [if_neg (by simp [e0]), h3]; exact e2

theorem fold_prefix {l m : List Mv} (h : foldE (l ++ m) = 0) : foldE l = 0 := by
  obtain ⟨h1, h2, h3⟩ := (foldE_zero _).1 h
  unfold noTwo at h3
  rw [List.pairwise_append] at h3
  exact (foldE_zero l).2 ⟨by rw [List.length_append] at h1; omega, fun o ho => h2 o (by simp [ho]), h3.1⟩

/-- an operation of a later stamp comes behind, and turns nothing -/
theorem ins_late {l : List Mv} (h : foldE l = 0) (o : Mv) (hl : ∀ x ∈ l, rk x < rk o) (h' : foldE (l ++ [o]) = 0) : ∃ s : Stp, s.1 = o ∧ foldL (l ++ [o]) = foldL l ++ [s] := by
  obtain ⟨e1, _, _⟩ := fold_ok h
  obtain ⟨e2, _, _⟩ := fold_ok h'
  obtain ⟨_, hp, _⟩ := srt_ok h
  have es : srt (l ++ [o]) = srt l ++ [o] := by
    have h1 := srt_late (srt l) o (srt_sorted l) (fun x hx => hl x (srt_mem l x hx))
    rw [← h1]
    exact ((foldE_perm (hp.symm.append_right [o]) h').2).symm
  refine ⟨dS (runT [] (srt l)) o, rfl, ?_⟩
  rw [e1, e2, es, runS_append]
  rfl
end Orangery

/- history's small functions: has, byStamp; slices.ContainsFunc, IndexFunc, Clone at operations; orangeryref.rank. -/
namespace Go.Proofs.YtijjiccgpobjmaeGreat
open Go.ChangeShapes Go.WideShapes Go.ChangeAt Go.RowKit
open Orangery (Pl Mv Stp cmpI orI rk)

def sameS (t u : Int) (o : Mv) : Bool := decide (o.1 = t) && decide (o.2.1 = u)
def hasS (l : List Mv) (t u : Int) : Bool := l.any (sameS t u)

set_option maxHeartbeats 1000000 in
theorem indexFuncOps_any (w : World) (a : Option Addr) (c : Nat) (l : List Mv) (g : Nat) (v : Value) (f : Mv → Bool) (hl : l.length ≤ maxLen) (h : SlE opC w a l)
    (eg : ∀ args w, (callFunc g args).run Tryz.prog w = .ok (.enter g args) w)
    (hg : ∀ W p, Below w.heap.size w W → Calls Tryz.prog g #[opV p, v] W fun e w' => e = .returned (.bool (f p)) ∧ Below W.heap.size W w') :
    Calls Tryz.prog 82 #[.slice a l.length c, .func (.func g) #[] #[v]] w
      fun e w' => (∃ i : Int, e = .returned (.int .i64 i) ∧ (l.any f = true → 0 ≤ i) ∧ (l.any f = false → i = -1)) ∧ Below w.heap.size w w' := by
  have hl' : l.length ≤ 9223372036854775807 := hl
  go_enter Tryz.func82, Tryz.ntmps82
  go_wp2
  go_loopw [8] (fun i W => ∃ k : Nat, k ≤ l.length ∧ i = .int .i64 k ∧ (∀ j, (hj : j < l.length) → j < k → f l[j] = false) ∧ Below w.heap.size w W) (fun i _ => l.length - (intOf i).toNat)
  case atStart => exact ⟨0, Nat.zero_le _, rfl, fun j _ hj => absurd hj (Nat.not_lt_zero _), Below.refl _ _⟩
  case round =>
    obtain ⟨k, hk, rfl, hno, hb⟩ := hrel
    have HNO : Hid (∀ j, (hj : j < l.length) → j < k → f l[j] = false) := hno
    clear hno
    by_cases hlt : k < l.length
    · obtain ⟨b, off, rfl, hbl, hr⟩ := h.at opC_len k hlt
      have hr1 : wr.rangeAt b (off + k * 7) (opC l[k]) := fun j v hv => by rw [hb.cell (by exact hbl)]; exact hr j v hv
      obtain ⟨g0, g1, g2, g3, g4, g5, g6⟩ := op_cells hr1
      have HQ : Hid (l.any f = true ↔ ∃ x ∈ l, f x = true) := List.any_eq_true
      have HM : Hid (l[k] ∈ l) := List.getElem_mem hlt
      clear hr hr1
      go_wp2_with fail
      refine (hg wr l[k] hb).mono ?_
      rintro e w1 ⟨rfl, hb1⟩
      have hb2 : Below w.heap.size w w1 := hb.trans (hb1.mono hb.size)
      cases hr : f l[k]
      · go_wp2
        go_roundw
        case rel =>
          refine ⟨k + 1, hlt, by go_num, fun j hj hjk => ?_, hb2⟩
          by_cases hjk' : j < k
          · exact HNO.out j hj hjk'
          · have : j = k := by omega
            subst this
            exact hr
        case measure => simp [intOf]; omega
      · go_wp2
        go_ret
        refine ⟨⟨k, rfl, fun _ => by omega, fun hn => ?_⟩, hb2⟩
        have := HQ.out.2 ⟨_, HM.out, hr⟩
        rw [hn] at this
        simp at this
    · go_wp2
      go_ret
      refine ⟨⟨-1, rfl, fun hm => ?_, fun _ => rfl⟩, hb⟩
      obtain ⟨x, hx, e⟩ := List.any_eq_true.1 hm
      obtain ⟨j, hj, rfl⟩ := List.getElem_of_mem hx
      rw [HNO.out j hj (by omega)] at e
      simp at e

def byS (o p : Mv) : Int := orI (cmpI o.1 p.1) (cmpI o.2.1 p.2.1)

set_option maxHeartbeats 1000000 in
theorem cloneOps_any (w : World) (a : Option Addr) (c : Nat) (l : List Mv) (hl : l.length ≤ 1000) (h : SlE opC w a l) :
    Calls Tryz.prog 58 #[.slice a l.length c] w
      fun e w' => ∃ v, e = .returned v ∧ OwnE opC 7 32 w' w.heap.size v l ∧ Below w.heap.size w w' := by
  obtain ⟨i0, hi, hz0, hz1, hz2⟩ := info_parts infoOp
  have hq := fun (W : World) (a : Option Addr) (n c : Nat) => Lib.run_eql_slice_nil (P := Tryz.prog) W 22 32 a n c 0 0 Tryz.underlying22
  cases a with
  | none =>
    have hl0 : l = [] := by
      rcases h with h | ⟨b, off, h, _⟩
      · exact h
      · simp at h
    subst hl0
    go_enter Tryz.func58, Tryz.ntmps58
    go_wp2
    go_ret
    exact ⟨_, rfl, OwnE.nil _ _, Below.refl _ _⟩
  | some ad =>
    have hB := Go.Joins.below_alloc1 w (Obj.cells #[] 32)
    have hP := h.below hB
    have hown : (w.alloc (Obj.cells #[] 32)).ownsRow w.heap.size 32 7 (.slice (some ⟨w.heap.size, 0, none⟩) 0 0) 0 [] :=
      ⟨rfl, Or.inr ⟨w.heap.size, 0, #[], rfl, Nat.le_refl _, blk_new rfl, Nat.le_refl _, by unfold maxLen; omega, rfl, rfl⟩⟩
    have hnews : ∀ j u, (l.flatMap opC)[j]? = some u → (w.alloc (Obj.cells #[] 32)).cell? (ad.add j) = some u := by
      rcases hP with hP | ⟨b, off, ha, _, hp⟩
      · intro j u hj; subst hP; simp at hj
      · simp at ha
        subst ha
        intro j u hj
        rw [Addr.add_mid]
        exact hp j u hj
    have HN : Hid (∀ j u, (l.flatMap opC)[j]? = some u → (w.alloc (Obj.cells #[] 32)).cell? (ad.add j) = some u) := hnews
    clear hP h hnews
    go_enter Tryz.func58, Tryz.ntmps58
    go_wp2_with (at_builtin; refine wpList_append_own _ rfl _ _ 22 rfl w.heap.size 32 i0 _ 7 56 Tryz.underlying22 hi hz0 hz1 hz2 rfl (by decide) _ _ _ rfl hown ad l.length c (l.flatMap opC) rfl (flatE_len opC_len l) ?c1 ?c2 ?c3 ?c4 ?c5 ?_)
    case c1 => exact HN.out
    case c2 => exact flat_oneE opC_one l
    case c3 => unfold maxLen; omega
    case c4 => omega
    case c5 => exact hB.size
    · intro v' w1 hown' hgrow _
      have hb1 := hB.trans (below_grown hown hB.size hgrow)
      have hO : OwnE opC 7 32 w1 w.heap.size v' l := by simpa [OwnE] using hown'
      clear hgrow hown hown'
      go_wp2
      go_ret
      exact ⟨_, rfl, hO, hb1⟩
end Go.Proofs.YtijjiccgpobjmaeGreat

/- slices.Equal at steps; history.Same, orangeryref.SameHistory; history.operations, orangeryref.OpsOf, orangeryref.rank. -/
namespace Go.Proofs.YtijjiccgpobjmaeGreat
open Go.ChangeShapes Go.WideShapes Go.ChangeAt Go.RowKit
open Orangery (Pl Mv Stp eqSts sameB rk)

theorem below_drewN_any (B : Nat) (w : World) (n : Nat) : Below B w (w.drewN n) := ⟨rfl, rfl, rfl, Nat.le_refl _, fun _ _ => rfl⟩

theorem eqSts_no {l m : List Stp} (h : l ≠ m) : eqSts l m = false := by
  cases hq : eqSts l m
  · rfl
  · exact absurd ((Orangery.eqSts_iff l m).1 hq) h
theorem eqSts_yes {l m : List Stp} (h : l = m) : eqSts l m = true := (Orangery.eqSts_iff l m).2 h

theorem ne_stp {s t : Stp} (hq : decide (s = t) = false) : s ≠ t := by simpa using hq
theorem eq_stp {s t : Stp} (hq : decide (s = t) = true) : s = t := by simpa using hq

end Go.Proofs.YtijjiccgpobjmaeGreat

/- One element of an own slice set. -/
namespace Go.Proofs.YtijjiccgpobjmaeGreat
open Go.ChangeShapes Go.WideShapes Go.ChangeAt Go.RowKit

theorem there_block {w : World} {g : Nat} {t : TypeId} {cur : Array Value} (h : w.heap[g]? = some (.cells cur t (0, 0))) (o n : Nat) (hl : o + n ≤ cur.size) : w.there g o n := by
  intro j hj
  refine ⟨?_, Go.Joins.unfrozen_of_block h _⟩
  rw [Go.Joins.cell_of_block h, Array.getElem?_eq_getElem (by omega)]
  rfl

/-- cells set in a block, and the block as a whole -/
theorem setCells_whole (g : Nat) (t : TypeId) : ∀ (vs : List Value) (o : Nat) (w : World) (cur : Array Value), w.heap[g]? = some (.cells cur t (0, 0)) → o + vs.length ≤ cur.size →
    ∃ cur', (w.setCells g o vs).heap[g]? = some (.cells cur' t (0, 0)) ∧ cur'.toList = cur.toList.take o ++ vs ++ cur.toList.drop (o + vs.length)
  | [], o, w, cur, h, _ => ⟨cur, h, by simp⟩
  | v :: r, o, w, cur, h, hl => by
    have hs := heap_setCell_same w g o cur t v h
    have hlo : o < cur.toList.length := by simp at hl ⊢; omega
    obtain ⟨cur', h1, h2⟩ := setCells_whole g t r (o + 1) (w.setCell ⟨g, o, none⟩ v) (cur.setIfInBounds o v) hs (by simp at hl ⊢; omega)
    refine ⟨cur', h1, ?_⟩
    rw [h2, Array.toList_setIfInBounds]
    have e2 : (cur.toList.set o v).take (o + 1) = cur.toList.take o ++ [v] := by
      rw [List.take_succ_eq_append_getElem (by simpa using hlo), List.take_set_of_le (Nat.le_refl _)]
      simp
    have e3 : (cur.toList.set o v).drop (o + 1 + r.length) = cur.toList.drop (o + (v :: r).length) := by
      rw [List.drop_set_of_lt (by omega)]
      congr 1
      simp
      omega
    rw [e2, e3]
    simp

theorem flat_set {α : Type} {enc : α → List Value} {k : Nat} (hk : ∀ x, (enc x).length = k) (x : α) : ∀ (l : List α) (i : Nat), i < l.length →
    (l.set i x).flatMap enc = (l.flatMap enc).take (i * k) ++ enc x ++ (l.flatMap enc).drop (i * k + k)
  | [], i, h => by simp at h
  | y :: l, 0, _ => by
    have e : (enc y).length = k := hk y
    simp [List.flatMap_cons, ← e]
  | y :: l, i + 1, h => by
    have e : (enc y).length = k := hk y
    have ih := flat_set hk x l i (by simpa using h)
    simp only [List.set_cons_succ, List.flatMap_cons]
    rw [ih]
    have e1 : (i + 1) * k = (enc y).length + i * k := by rw [e, Nat.succ_mul]; omega
    have e3 : (enc y).length + i * k + k = (enc y).length + (i * k + k) := by omega
    rw [e1, e3, List.take_length_add_append, List.drop_length_add_append]
    simp only [List.append_assoc]

/-- one element of an own slice set -/
theorem OwnE.set {α : Type} {enc : α → List Value} {k : Nat} (hk : ∀ x, (enc x).length = k) {e : TypeId} {w : World} {base g cap : Nat} {l : List α} (h : OwnE enc k e w base (.slice (some ⟨g, 0, none⟩) l.length cap) l) (i : Nat) (hi : i < l.length) (x : α) :
    OwnE enc k e (w.setCells g (i * k) (enc x)) base (.slice (some ⟨g, 0, none⟩) (l.set i x).length cap) (l.set i x) := by
  refine ⟨flatE_len hk _, ?_⟩
  rcases h.2 with ⟨h', _⟩ | ⟨g', cap', cur, h', hb, hg, hn, hm, hs, ht⟩
  · simp at h'
  · obtain ⟨rfl, rfl⟩ : g = g' ∧ cap = cap' := by simpa using h'
    have hle : i * k + k ≤ l.length * k := by
      have := Nat.mul_le_mul_right k (Nat.succ_le_of_lt hi)
      rw [Nat.succ_mul] at this
      exact this
    have hle2 : l.length * k ≤ cap * k := Nat.mul_le_mul_right k hn
    obtain ⟨cur', h1, h2⟩ := setCells_whole g e (enc x) (i * k) w cur hg (by rw [hk]; omega)
    rw [hk] at h2
    have hsz : cur'.size = cap * k := by
      have := congrArg List.length h2
      simp [hk] at this
      omega
    refine Or.inr ⟨g, cap, cur', rfl, hb, h1, by simpa using hn, hm, hsz, ?_⟩
    rw [List.length_set, flat_set hk x l i hi, ← ht, h2]
    have hcl : cur.toList.length = cap * k := by simpa using hs
    apply List.ext_getElem?
    intro p
    simp only [List.getElem?_take, List.getElem?_append, List.getElem?_drop, List.length_append, List.length_take, hk, hcl]
    grind

theorem OwnE.lt {α : Type} {enc : α → List Value} {k : Nat} {e : TypeId} {w : World} {base : Nat} {v : Value} {l : List α} (h : OwnE enc k e w base v l) : ∀ g, v.ownBlock = some g → base ≤ g ∧ g < w.heap.size := fun g hg => h.row.lt g hg
theorem OwnE.there {α : Type} {enc : α → List Value} {k : Nat} {e : TypeId} {w : World} {base g cap : Nat} {l : List α} (h : OwnE enc k e w base (.slice (some ⟨g, 0, none⟩) l.length cap) l) (i : Nat) (hi : i < l.length) : w.there g (i * k) k := by
  rcases h.2 with ⟨h', _⟩ | ⟨g', cap', cur, h', hb, hg, hn, hm, hs, ht⟩
  · simp at h'
  · obtain ⟨rfl, rfl⟩ : g = g' ∧ cap = cap' := by simpa using h'
    have hle : i * k + k ≤ l.length * k := by
      have := Nat.mul_le_mul_right k (Nat.succ_le_of_lt hi)
      rw [Nat.succ_mul] at this
      exact this
    have hle2 : l.length * k ≤ cap * k := Nat.mul_le_mul_right k hn
    exact there_block hg _ _ (by omega)
end Go.Proofs.YtijjiccgpobjmaeGreat

/- history.operations, orangeryref.OpsOf: the operations of a history. -/
namespace Go.Proofs.YtijjiccgpobjmaeGreat
open Go.ChangeShapes Go.WideShapes Go.ChangeAt Go.RowKit
open Orangery (Pl Mv Stp)

/-- cells set in a block, one behind the other -/
theorem setCells_block (g : Nat) (t : TypeId) : ∀ (vs : List Value) (o : Nat) (w : World) (cur : Array Value), w.heap[g]? = some (.cells cur t (0, 0)) → o + vs.length ≤ cur.size →
    ∃ cur', (w.setCells g o vs).heap[g]? = some (.cells cur' t (0, 0)) ∧ cur'.size = cur.size ∧ cur'.toList.take (o + vs.length) = cur.toList.take o ++ vs
  | [], o, w, cur, h, _ => ⟨cur, h, rfl, by simp⟩
  | v :: r, o, w, cur, h, hl => by
    have hs := heap_setCell_same w g o cur t v h
    have hlo : o < cur.size := by simp at hl; omega
    obtain ⟨cur', h1, h2, h3⟩ := setCells_block g t r (o + 1) (w.setCell ⟨g, o, none⟩ v) (cur.setIfInBounds o v) hs (by simp at hl ⊢; omega)
    refine ⟨cur', h1, by simpa using h2, ?_⟩
    have e : o + (v :: r).length = o + 1 + r.length := by simp; omega
    rw [e, h3, Array.toList_setIfInBounds]
    have e2 : (cur.toList.set o v).take (o + 1) = cur.toList.take o ++ [v] := by
      rw [List.take_succ_eq_append_getElem (by simpa using hlo), List.take_set_of_le (Nat.le_refl _)]
      simp
    rw [e2, List.append_assoc]
    rfl

theorem there_at {w : World} {g o n : Nat} (h : w.there g o n) (j : Nat) (hj : j < n) : ∃ u, w.cell? ⟨g, o + j, none⟩ = some u := Option.isSome_iff_exists.1 (h j hj).1

end Go.Proofs.YtijjiccgpobjmaeGreat

