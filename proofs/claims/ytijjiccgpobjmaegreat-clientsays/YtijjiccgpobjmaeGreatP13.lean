/- 5 texts of the proof: Clients in memory; orangeryref.CheckClient. orangeryref.Begun. slices.Equal at operations. orangeryref.SameClient. The program's client: numbers in range, the numbers together, room for one more, what is of use; Begin, Same. -/
import Derived.Test.YtijjiccgpobjmaeGreatP04
import Derived.Test.YtijjiccgpobjmaeGreatP10
import Derived.Test.YtijjiccgpobjmaeGreatP12
import Derived.Test.YtijjiccgpobjmaeGreatP06
import Derived.Test.YtijjiccgpobjmaeGreatP05
import Derived.Test.YtijjiccgpobjmaeGreatP08
/- Clients in memory; orangeryref.CheckClient. -/
namespace Go.Proofs.YtijjiccgpobjmaeGreat
open Go.ChangeShapes Go.WideShapes Go.ChangeAt Go.RowKit
open Orangery (Pl Mv Vw Cl noCl clRange clForm pendE clE viewME viewE checkOp noOp noVw)

/-- a client in memory: it, where its lists lie -/
abbrev Cm := Cl × Ad × (Ad × Ad × Ad)
def clC (x : Cm) : List Value := [.int .i64 x.1.1.1, .int .i64 x.1.1.2.1, .int .i64 x.1.1.2.2.1, .slice x.2.1.1 x.1.2.1.length x.2.1.2, .int .i64 x.1.1.2.2.2, .slice x.2.2.1.1 x.1.2.2.1.length x.2.2.1.2, .slice x.2.2.2.1.1 x.1.2.2.2.1.length x.2.2.2.1.2, .slice x.2.2.2.2.1 x.1.2.2.2.2.length x.2.2.2.2.2]
abbrev Cm.val (x : Cm) : Value := .agg (clC x).toArray
theorem clC_len (x : Cm) : (clC x).length = 8 := rfl
/-- its lists are read -/
structure ClIn (w : World) (x : Cm) : Prop where
  lp : SlE opC w x.2.1.1 x.1.2.1
  lr : SlI w x.2.2.1.1 x.1.2.2.1
  lk : SlP w x.2.2.2.1.1 x.1.2.2.2.1
  lv : SlP w x.2.2.2.2.1 x.1.2.2.2.2
  few : x.1.2.1.length ≤ 17592186043904 ∧ x.1.2.2.1.length ≤ 17592186043904 ∧ x.1.2.2.2.1.length ≤ 17592186043904 ∧ x.1.2.2.2.2.length ≤ 17592186043904
  nils : (x.2.2.2.1.1 = none → x.2.2.2.1.2 = 0) ∧ (x.2.2.2.2.1 = none → x.2.2.2.2.2 = 0)
theorem ClIn.keep {w w' : World} {x : Cm} (h : ClIn w x) (hb : Below w.heap.size w w') : ClIn w' x :=
  ⟨h.lp.below hb, h.lr.below hb, h.lk.below hb, h.lv.below hb, h.few, h.nils⟩

set_option maxHeartbeats 16000000 in
set_option maxRecDepth 100000 in
theorem rcheckClient_any (w : World) (x : Cm) (me : Int) (hx : ClIn w x) :
    Calls Tryz.prog 15 #[x.val, .int .i64 me] w fun e w' => e = .returned (.int .i64 (clE x.1 me)) ∧ Below w.heap.size w w' := by
  obtain ⟨⟨⟨f, t, s, v⟩, P, R, K, V⟩, ⟨aP, cP⟩, ⟨aR, cR⟩, ⟨aK, cK⟩, ⟨aV, cV⟩⟩ := x
  obtain ⟨E, hE⟩ : ∃ E, E = clE ((f, t, s, v), P, R, K, V) me := ⟨_, rfl⟩
  show Calls Tryz.prog _ #[.agg #[Value.int .i64 f, .int .i64 t, .int .i64 s, .slice aP P.length cP, .int .i64 v, .slice aR R.length cR, .slice aK K.length cK, .slice aV V.length cV], .int .i64 me] w fun e w' => e = .returned (.int .i64 (clE ((f, t, s, v), P, R, K, V) me)) ∧ _
  rw [← hE]
  have HEQ := Lib.hid hE
  have HX := Lib.hid hx
  obtain ⟨W0, hW, hN, hB, -⟩ := laid1 w [Value.int .i64 f, .int .i64 t, .int .i64 s, .slice aP P.length cP, .int .i64 v, .slice aR R.length cR, .slice aK K.length cK, .slice aV V.length cV] 28
  have HB := Lib.hid hB
  have HXI := Lib.hid (hx.keep hB)
  have HN := Lib.hid hN
  clear hB hE hx
  have x0 := hN.at 0 rfl
  have x1 := hN.at 1 rfl
  have x2 := hN.at 2 rfl
  have x3 := hN.at 3 rfl
  have x4 := hN.at 4 rfl
  clear hN
  have q0 : P.length ≤ 17592186043904 := HX.out.few.1
  have q1 : R.length ≤ 17592186043904 := HX.out.few.2.1
  clear HX
  go_enter Tryz.func15, Tryz.ntmps15
  go_wp2_with fail
  clear hW
  refine (rin_any _ me 0 2).mono ?_
  rintro e w2 ⟨rfl, rfl⟩
  by_cases hme : 0 ≤ me ∧ me ≤ 2
  case neg =>
    have d1 : inB me 0 2 = false := by simp [inB]; omega
    have HE : Hid (E = 5) := by show _ = _; rw [HEQ.out]; exact Orangery.clE_who hme
    rw [d1]
    clear hme d1 HXI HN x0 x1 x2 x3 x4
    go_wp2
    go_ret
    exact ⟨ret_int HE.out.symm, HB.out⟩
  have d1 : inB me 0 2 = true := by simp [inB]; omega
  rw [d1]
  have HME := Lib.hid hme
  clear hme d1
  have HRF : Hid ((inB f 0 50 && inB t 0 10000 && inB s 0 30 && inB v 0 60) = false → E = 3) := by
    intro h
    rw [HEQ.out]
    exact Orangery.clE_range HME.out h
  rename World => W1
  go_wp2_with fail
  refine (rin_any _ f 0 50).mono ?_
  rintro e w3 ⟨rfl, rfl⟩
  cases h1 : inB f 0 50
  · have HE : Hid (E = 3) := HRF.out (by rw [h1]; rfl)
    clear h1 HXI HN HRF x0 x1 x2 x3 x4
    go_wp2
    go_ret
    exact ⟨ret_int HE.out.symm, HB.out⟩
  go_wp2_with fail
  refine (rin_any _ t 0 10000).mono ?_
  rintro e w3 ⟨rfl, rfl⟩
  cases h2 : inB t 0 10000
  · have HE : Hid (E = 3) := HRF.out (by rw [h1, h2]; rfl)
    clear h1 h2 HXI HN HRF x0 x1 x2 x3 x4
    go_wp2
    go_ret
    exact ⟨ret_int HE.out.symm, HB.out⟩
  go_wp2_with fail
  refine (rin_any _ s 0 30).mono ?_
  rintro e w3 ⟨rfl, rfl⟩
  cases h3 : inB s 0 30
  · have HE : Hid (E = 3) := HRF.out (by rw [h1, h2, h3]; rfl)
    clear h1 h2 h3 HXI HN HRF x0 x1 x2 x3 x4
    go_wp2
    go_ret
    exact ⟨ret_int HE.out.symm, HB.out⟩
  go_wp2_with fail
  refine (rin_any _ v 0 60).mono ?_
  rintro e w3 ⟨rfl, rfl⟩
  cases h4 : inB v 0 60
  · have HE : Hid (E = 3) := HRF.out (by rw [h1, h2, h3, h4]; rfl)
    clear h1 h2 h3 h4 HXI HN HRF x0 x1 x2 x3 x4
    go_wp2
    go_ret
    exact ⟨ret_int HE.out.symm, HB.out⟩
  have HRG : Hid (clRange ((f, t, s, v), P, R, K, V) = true) := by
    show _ = _
    unfold clRange
    unfold inB at h1 h2 h3 h4
    rw [h1, h2, h3, h4]
    rfl
  have HSR : Hid ((0 ≤ f ∧ f ≤ 50) ∧ (0 ≤ t ∧ t ≤ 10000) ∧ (0 ≤ s ∧ s ≤ 30) ∧ (0 ≤ v ∧ v ≤ 60)) := ⟨by simpa [inB] using h1, by simpa [inB] using h2, by simpa [inB] using h3, by simpa [inB] using h4⟩
  clear h1 h2 h3 h4 HRF
  by_cases h8 : 8 < P.length
  · have HE : Hid (E = 2) := by show _ = _; rw [HEQ.out]; exact Orangery.clE_many HME.out HRG.out h8
    have d1 : decide ((P.length : Int) > 8) = true := by simp; omega
    clear h8 HXI HN HRG HSR x0 x1 x2 x4
    go_wp2
    go_ret
    exact ⟨ret_int HE.out.symm, HB.out⟩
  have d1 : decide ((P.length : Int) > 8) = false := by simp; omega
  have H8 : Hid (P.length ≤ 8) := by show _ ≤ _; omega
  clear h8
  have x5 := HN.out.at 5 rfl
  have x6 := HN.out.at 6 rfl
  have x7 := HN.out.at 7 rfl
  go_wp2_with fail
  clear d1 x0 x1 x2 x3 x4 x5 x6 x7
  have hq := HXI.out.few
  simp only at hq
  refine (rcheckV_any _ aR aK aV cR cK cV R K V (by unfold maxLen; omega) (by unfold maxLen; omega) (by unfold maxLen; omega) HXI.out.nils.1 HXI.out.nils.2 HXI.out.lr HXI.out.lk HXI.out.lv).mono ?_
  rintro e w4 ⟨rfl, hb4⟩
  have HB4 := Lib.hid (HB.out.trans (hb4.mono HB.out.size))
  have hN4 := HN.out.keep hb4
  have HX4 := Lib.hid (HXI.out.keep hb4)
  clear hq hb4 HB HN HXI
  rename World => W4
  by_cases hv : viewE R K V = 0
  case neg =>
    have HE : Hid (E = viewE R K V) := by show _ = _; rw [HEQ.out]; exact Orangery.clE_view HME.out HRG.out H8.out hv
    have hv' : (viewE R K V != 0) = true := by simpa using hv
    clear hv HX4 hN4 HRG HSR HEQ
    generalize viewE R K V = F at *
    go_wp2
    go_ret
    exact ⟨ret_int HE.out.symm, HB4.out⟩
  have HF : Hid (E = if clForm ((f, t, s, v), P, R, K, V) = true then 4 else pendE me f t (s - P.length) 0 P) := by
    show _ = _
    rw [HEQ.out]
    exact Orangery.clE_form HME.out HRG.out H8.out hv
  rw [hv]
  clear hv HEQ HRG
  have HN4 := Lib.hid hN4
  have x0 := hN4.at 0 rfl
  have x1 := hN4.at 1 rfl
  have x2 := hN4.at 2 rfl
  have x3 := hN4.at 3 rfl
  have x4 := hN4.at 4 rfl
  have x5 := hN4.at 5 rfl
  clear hN4
  obtain ⟨rb, hrb⟩ : ∃ b, b = decide (0 < R.length) := ⟨_, rfl⟩
  have HRB : Hid (rb = !R.isEmpty) := by show _ = _; rw [hrb]; cases R <;> simp
  obtain ⟨fb, hfb⟩ : ∃ b, clForm ((f, t, s, v), P, R, K, V) = b := ⟨_, rfl⟩
  rw [hfb] at HF
  have HFB := Lib.hid hfb
  clear hfb
  generalize R.length = rn at *
  have r1 : decide ((rn : Int) > 0) = rb := by rw [hrb]; simp
  have r2 : decide ((0 : Int) < (rn : Int)) = rb := by rw [hrb]; simp
  have r3 : decide (0 < rn) = rb := hrb.symm
  clear hrb
  go_upto_region 10 with fail
  go_cut [83] from 45 to 82 (fun u wc => u = .bool fb ∧ W4 = wc)
  case first =>
    by_cases e1 : f = 0
    case neg =>
      have d1 : (f == 0) = false := by simpa using e1
      have HG : Hid (fb = ((decide (v = 0) && !R.isEmpty) || decide (s < (P.length : Int)))) := by show _ = _; rw [← HFB.out]; unfold clForm; simp [e1]
      clear e1 HFB
      by_cases g1 : v = 0
      case pos =>
        have c1 : (v == 0) = true := by simpa using g1
        have HG1 : Hid (fb = (rb || decide (s < (P.length : Int)))) := by
          show _ = _
          rw [HG.out, HRB.out]
          simp [g1]
        clear g1 HG HRB
        go_wp2_with fail
        · rename_i hr
          go_meet
          case rel => exact ⟨by rw [HG1.out, hr]; rfl, rfl⟩
        · rename_i hr
          have hr' : rb = false := by simpa using hr
          go_meet
          case rel => exact ⟨by rw [HG1.out, hr']; simp, rfl⟩
      have c1 : (v == 0) = false := by simpa using g1
      have HG2 : Hid (fb = decide (s < (P.length : Int))) := by show _ = _; rw [HG.out]; simp [g1]
      clear g1 HG
      by_cases g3 : s < (P.length : Int)
      · have c3 : decide ((P.length : Int) > s) = true := by simpa using g3
        have HG3 : Hid (fb = true) := by show _ = _; rw [HG2.out]; simpa using g3
        clear g3 HG2
        go_wp2
        go_meet
        case rel => exact ⟨by rw [HG3.out], rfl⟩
      · have c3 : decide ((P.length : Int) > s) = false := by simpa using g3
        have HG3 : Hid (fb = false) := by show _ = _; rw [HG2.out]; simpa using g3
        clear g3 HG2
        go_wp2
        go_meet
        case rel => exact ⟨by rw [HG3.out], rfl⟩
    have d1 : (f == 0) = true := by simpa using e1
    by_cases e2 : 0 < t
    · have d2 : decide (t > 0) = true := by simpa using e2
      have HG : Hid (fb = true) := by show _ = _; rw [← HFB.out]; unfold clForm; simp [e1, e2]
      clear e1 e2 HFB
      go_wp2
      go_meet
      case rel => exact ⟨by rw [HG.out], rfl⟩
    have d2 : decide (t > 0) = false := by simpa using e2
    by_cases e3 : 0 < s
    · have d3 : decide (s > 0) = true := by simpa using e3
      have HG : Hid (fb = true) := by show _ = _; rw [← HFB.out]; unfold clForm; simp [e1, e3]
      clear e1 e2 e3 HFB
      go_wp2
      go_meet
      case rel => exact ⟨by rw [HG.out], rfl⟩
    have d3 : decide (s > 0) = false := by simpa using e3
    by_cases e4 : 0 < v
    · have d4 : decide (v > 0) = true := by simpa using e4
      have HG : Hid (fb = true) := by show _ = _; rw [← HFB.out]; unfold clForm; simp [e1, e4]
      clear e1 e2 e3 e4 HFB
      go_wp2
      go_meet
      case rel => exact ⟨by rw [HG.out], rfl⟩
    have d4 : decide (v > 0) = false := by simpa using e4
    have HG : Hid (fb = ((decide (v = 0) && !R.isEmpty) || decide (s < (P.length : Int)))) := by show _ = _; rw [← HFB.out]; unfold clForm; simp [e1, e2, e3, e4]
    clear e1 e2 e3 e4 HFB
    by_cases g1 : v = 0
    case pos =>
      have c1 : (v == 0) = true := by simpa using g1
      have HG1 : Hid (fb = (rb || decide (s < (P.length : Int)))) := by
        show _ = _
        rw [HG.out, HRB.out]
        simp [g1]
      clear g1 HG HRB
      go_wp2_with fail
      · rename_i hr
        go_meet
        case rel => exact ⟨by rw [HG1.out, hr]; rfl, rfl⟩
      · rename_i hr
        have hr' : rb = false := by simpa using hr
        go_meet
        case rel => exact ⟨by rw [HG1.out, hr']; simp, rfl⟩
    have c1 : (v == 0) = false := by simpa using g1
    have HG2 : Hid (fb = decide (s < (P.length : Int))) := by show _ = _; rw [HG.out]; simp [g1]
    clear g1 HG
    by_cases g3 : s < (P.length : Int)
    · have c3 : decide ((P.length : Int) > s) = true := by simpa using g3
      have HG3 : Hid (fb = true) := by show _ = _; rw [HG2.out]; simpa using g3
      clear g3 HG2
      go_wp2
      go_meet
      case rel => exact ⟨by rw [HG3.out], rfl⟩
    · have c3 : decide ((P.length : Int) > s) = false := by simpa using g3
      have HG3 : Hid (fb = false) := by show _ = _; rw [HG2.out]; simpa using g3
      clear g3 HG2
      go_wp2
      go_meet
      case rel => exact ⟨by rw [HG3.out], rfl⟩
  case rest =>
  obtain ⟨rfl, hwc⟩ := hcut
  subst hwc
  clear x0 x1 x4 x5 HFB
  cases hfb : fb
  case true =>
    have HE : Hid (E = 4) := by show _ = _; rw [HF.out, hfb]; rfl
    subst hfb
    clear HF x2 x3 HX4 HSR
    go_wp2
    go_ret
    exact ⟨ret_int HE.out.symm, HB4.out⟩
  have HP0 : Hid (pendE me f t (s - P.length) 0 P = E) := by show _ = _; rw [HF.out, hfb]; rfl
  subst hfb
  clear HF
  obtain ⟨s0, hs0⟩ : ∃ z : Int, z = s - P.length := ⟨_, rfl⟩
  have HS0 : Hid (-8 ≤ s0 ∧ s0 ≤ 30) := by show _ ∧ _; have := HSR.out.2.2.1; have := H8.out; omega
  rw [← hs0] at HP0
  have p0 : wrap64 (s - P.length) = s0 := by have := HS0.out; rw [← hs0]; unfold wrap64; omega
  have P0 := Lib.hid p0
  clear hs0 HSR
  rename World => W5
  go_wp2
  clear p0 x2 x3
  go_loopw [6, 7, 93] (fun sv lv i W => ∃ (k : Nat) (y la : Int), k ≤ P.length ∧ sv = .int .i64 y ∧ lv = .int .i64 la ∧ i = .int .i64 k ∧ y = s0 + k ∧ pendE me f t y la (P.drop k) = E ∧ Below W5.heap.size W5 W) (fun _ _ i _ => P.length - (intOf i).toNat)
  case atStart => exact ⟨0, s0, 0, Nat.zero_le _, congrArg _ P0.out, rfl, rfl, by simp, HP0.out, Below.refl _ _⟩
  case round =>
    obtain ⟨k, y, la, hk, rfl, rfl, rfl, hy, hp, hb⟩ := hrel
    have HY := Lib.hid hy
    have HB5 := Lib.hid (HB4.out.trans (hb.mono HB4.out.size))
    have HBW := Lib.hid hb
    have HNr := Lib.hid (HN4.out.keep hb)
    by_cases hlt : k < P.length
    case neg =>
      have HE : Hid (E = 0) := by
        show _ = _
        rw [← hp, List.drop_of_length_le (by omega)]
        rfl
      clear hp hy hb HY HP0 HN4 HNr
      go_wp2
      go_ret
      exact ⟨ret_int HE.out.symm, HB5.out⟩
    obtain ⟨z, hz⟩ : ∃ z : Int, z = y + 1 := ⟨_, rfl⟩
    have pz : wrap64 (y + 1) = z := by have := HS0.out; have := H8.out; rw [hz]; unfold wrap64; omega
    have PZ := Lib.hid pz
    obtain ⟨b, off, rfl, hbl, hr⟩ := (HX4.out.keep hb).lp.at opC_len k hlt
    obtain ⟨g0, g1, g2, g3, g4, g5, g6⟩ := op_cells hr
    have hs := Orangery.pend_step (me := me) (life := f) (time := t) (s := y) (t := la) hlt
    rw [hp, ← hz] at hs
    have HST := Lib.hid hs
    have HZ := Lib.hid hz
    have HLT := Lib.hid hlt
    clear hs hr hp hy hz hb HP0 HN4
    have hlt' : (k : Int) < (P.length : Int) := by omega
    generalize P[k] = o at *
    obtain ⟨o1, o2, ⟨o3, o4, o5⟩, o6, o7⟩ := o
    simp only at g0 g1 g2 g3 g4 g5 g6
    obtain ⟨W2, hW2, hN, hBn, -⟩ := laid1 wr [Value.int IntKind.i64 o1, Value.int IntKind.i64 o2, Value.int IntKind.i64 o3, Value.int IntKind.i64 o4, Value.int IntKind.i64 o5, Value.int IntKind.i64 o6, Value.int IntKind.i64 o7] 32
    have n0 := hN.at 0 rfl
    have n1 := hN.at 1 rfl
    have n2 := hN.at 2 rfl
    have n3 := hN.at 3 rfl
    have n4 := hN.at 4 rfl
    have n5 := hN.at 5 rfl
    have n6 := hN.at 6 rfl
    have HN2 := Lib.hid hN
    have HNr2 := Lib.hid (HNr.out.keep hBn)
    have HB6 := Lib.hid (HB5.out.trans (hBn.mono HB5.out.size))
    have HBW2 := Lib.hid (HBW.out.trans (hBn.mono HBW.out.size))
    clear hN hBn HNr HB5 HBW
    go_wp2_with fail
    refine (refCheckOp_any W2 (o1, o2, (o3, o4, o5), o6, o7)).mono ?_
    rintro e w3 ⟨rfl, hb3⟩
    have HN3 := Lib.hid (HN2.out.keep hb3)
    have HNr3 := Lib.hid (HNr2.out.keep hb3)
    have HB7 := Lib.hid (HB6.out.trans (hb3.mono HB6.out.size))
    have HBW3 := Lib.hid (HBW2.out.trans (hb3.mono HBW2.out.size))
    clear HN2 HNr2 HB6 HBW2 hb3 hW2 n0 n1 n2 n3 n4 n5 n6 g0 g1 g2 g3 g4 g5 g6
    by_cases hc : checkOp (o1, o2, (o3, o4, o5), o6, o7) = 0
    case neg =>
      have HE : Hid (E = checkOp (o1, o2, (o3, o4, o5), o6, o7)) := by show _ = _; rw [HST.out]; exact if_pos hc
      have hc' : (checkOp (o1, o2, (o3, o4, o5), o6, o7) != 0) = true := by simpa using hc
      clear hc HST
      generalize checkOp (o1, o2, (o3, o4, o5), o6, o7) = F at *
      go_wp2
      go_ret
      exact ⟨ret_int HE.out.symm, HB7.out⟩
    obtain ⟨gb, hgb⟩ : ∃ b : Bool, b = !decide (o2 = me ∧ o6 = f ∧ o7 = z ∧ la < o1 ∧ o1 ≤ t) := ⟨_, rfl⟩
    have HE4 : Hid (gb = true → E = 4) := by
      intro h
      rw [HST.out, if_neg (by simpa using hc)]
      exact if_pos (by rw [hgb] at h; simpa only [Bool.not_eq_true', decide_eq_false_iff_not] using h)
    have HEN : Hid (gb = false → pendE me f t z o1 (P.drop (k + 1)) = E) := by
      intro h
      rw [HST.out, if_neg (by simpa using hc), if_neg (by rw [hgb] at h; simpa only [Bool.not_eq_false', decide_eq_true_eq, Decidable.not_not] using h)]
    rw [hc]
    have HGB := Lib.hid hgb
    clear hc hgb HST
    have m0 := HN3.out.at 0 rfl
    have m1 := HN3.out.at 1 rfl
    have m5 := HN3.out.at 5 rfl
    have m6 := HN3.out.at 6 rfl
    have y0 := HNr3.out.at 0 rfl
    have y1 := HNr3.out.at 1 rfl
    clear HN3 HNr3
    go_upto_region 20 with fail
    go_cut [136] from 104 to 135 (fun u wc => u = .bool gb ∧ w3 = wc)
    case first =>
      by_cases e1 : o2 = me
      case neg =>
        have d1 : (o2 != me) = true := by simpa using e1
        have HG : Hid (gb = true) := by show _ = _; rw [HGB.out]; simp [e1]
        clear e1
        go_wp2
        go_meet
        case rel => exact ⟨by rw [HG.out], rfl⟩
      have d1 : (o2 != me) = false := by simpa using e1
      by_cases e2 : o6 = f
      case neg =>
        have d2 : (o6 != f) = true := by simpa using e2
        have HG : Hid (gb = true) := by show _ = _; rw [HGB.out]; simp [e2]
        clear e1 e2
        go_wp2
        go_meet
        case rel => exact ⟨by rw [HG.out], rfl⟩
      have d2 : (o6 != f) = false := by simpa using e2
      by_cases e3 : o7 = z
      case neg =>
        have d3 : (o7 != z) = true := by simpa using e3
        have HG : Hid (gb = true) := by show _ = _; rw [HGB.out]; simp [e3]
        clear e1 e2 e3
        go_wp2
        go_meet
        case rel => exact ⟨by rw [HG.out], rfl⟩
      have d3 : (o7 != z) = false := by simpa using e3
      by_cases e4 : la < o1
      case neg =>
        have d4 : decide (o1 ≤ la) = true := by simpa using e4
        have HG : Hid (gb = true) := by show _ = _; rw [HGB.out]; simp [e4]
        clear e1 e2 e3 e4
        go_wp2
        go_meet
        case rel => exact ⟨by rw [HG.out], rfl⟩
      have d4 : decide (o1 ≤ la) = false := by simpa using e4
      by_cases e5 : o1 ≤ t
      · have d5 : decide (o1 > t) = false := by simpa using e5
        have HG : Hid (gb = false) := by show _ = _; rw [HGB.out]; simp [e1, e2, e3, e4, e5]
        clear e1 e2 e3 e4 e5
        go_wp2
        go_meet
        case rel => exact ⟨by rw [HG.out], rfl⟩
      · have d5 : decide (o1 > t) = true := by simpa using e5
        have HG : Hid (gb = true) := by show _ = _; rw [HGB.out]; simp [e5]
        clear e1 e2 e3 e4 e5
        go_wp2
        go_meet
        case rel => exact ⟨by rw [HG.out], rfl⟩
    case rest =>
    obtain ⟨rfl, hwc⟩ := hcut
    subst hwc
    clear m1 m5 m6 y0 y1 HGB
    cases hgb : gb
    case true =>
      have HE : Hid (E = 4) := HE4.out hgb
      subst hgb
      clear HE4 HEN m0
      go_wp2
      go_ret
      exact ⟨ret_int HE.out.symm, HB7.out⟩
    have HE : Hid (pendE me f t z o1 (P.drop (k + 1)) = E) := HEN.out hgb
    subst hgb
    clear HE4 HEN
    go_wp2
    go_roundw
    case rel => exact ⟨k + 1, z, o1, HLT.out, congrArg _ PZ.out, rfl, by go_num, by have := HY.out; have := HZ.out; omega, HE.out, HBW3.out⟩
    case measure => have := HLT.out; simp [intOf]; omega
end Go.Proofs.YtijjiccgpobjmaeGreat

/- orangeryref.Begun. -/
namespace Go.Proofs.YtijjiccgpobjmaeGreat
open Go.ChangeShapes Go.WideShapes Go.ChangeAt Go.RowKit
open Orangery (Pl Mv Vw Cl noCl begE begC)

/-- a client of these numbers, all else nil -/
def bareC (f t : Int) : List Value := [.int .i64 f, .int .i64 t, .int .i64 0, .slice none 0 0, .int .i64 0, .slice none 0 0, .slice none 0 0, .slice none 0 0]
def bareM (f t : Int) : Cm := (((f, t, 0, 0), [], [], [], []), (none, 0), (none, 0), (none, 0), (none, 0))
theorem bareM_val (f t : Int) : clC (bareM f t) = bareC f t := rfl
theorem bareM_in (w : World) (f t : Int) : ClIn w (bareM f t) := ⟨Or.inl rfl, Or.inl rfl, Or.inl rfl, Or.inl rfl, ⟨by simp [bareM], by simp [bareM], by simp [bareM], by simp [bareM]⟩, ⟨fun _ => rfl, fun _ => rfl⟩⟩
theorem sizeClient : (Tryz.prog.info? 28).map (·.size) = some 8 := by kernel_rfl
/-- what Begin leaves: a client, bare -/
def begM (f t : Int) : Cm := if begE f t ≠ 0 then bareM 0 0 else bareM f t
theorem begM_is (f t : Int) : (begM f t).1 = begC f t := by
  unfold begM begC
  split <;> rfl
theorem begM_in (w : World) (f t : Int) : ClIn w (begM f t) := by
  unfold begM
  split <;> exact bareM_in w _ _

set_option maxHeartbeats 4000000 in
set_option maxRecDepth 100000 in
theorem rbegun_any (w : World) (f t : Int) :
    Calls Tryz.prog 12 #[.int .i64 f, .int .i64 t] w fun e w' => e = .returned (.tuple #[(begM f t).val, .int .i64 (begE f t)]) ∧ Below w.heap.size w w' := by
  obtain ⟨W0, hW, hN, hB, -⟩ := laid1 w (bareC 0 0) 28
  have HB := Lib.hid hB
  have hF := hN.frz
  have x0 := hN.at 0 rfl
  have x1 := hN.at 1 rfl
  have x2 := hN.at 2 rfl
  have x3 := hN.at 3 rfl
  have x4 := hN.at 4 rfl
  have x5 := hN.at 5 rfl
  have x6 := hN.at 6 rfl
  have x7 := hN.at 7 rfl
  have hS1 := hN.sets (bareC 0 0) rfl
  have hS2 := hN.sets (bareC f t) rfl
  have HB1 := Lib.hid (below_sets hB w.heap.size (Nat.le_refl _) (bareC 0 0) 0)
  have HB2 := Lib.hid (below_sets hB w.heap.size (Nat.le_refl _) (bareC f t) 0)
  have HS1 := Lib.hid hS1
  have HS2 := Lib.hid hS2
  clear hB hS1 hS2
  have HM : Hid (∀ E, begE f t = E → E = 3 → (begM f t).val = .agg (bareC 0 0).toArray ∧ begE f t = 3) := by
    intro E e h
    rw [h] at e
    refine ⟨?_, e⟩
    unfold begM
    rw [if_pos (by rw [e]; decide)]
    rfl
  have HM0 : Hid (begE f t = 0 → (begM f t).val = .agg (bareC f t).toArray) := by
    intro e
    unfold begM
    rw [if_neg (by simp [e])]
    rfl
  have HE : Hid (begE f t = if 1 ≤ f ∧ f ≤ 50 ∧ 0 ≤ t ∧ t ≤ 10000 then 0 else 3) := rfl
  generalize (begM f t).val = xv at *
  generalize begE f t = E at *
  simp only [bareC] at hW
  go_enter Tryz.func12, Tryz.ntmps12
  go_wp2_with fail
  clear hW
  refine (rin_any _ f 1 50).mono ?_
  rintro e w2 ⟨rfl, rfl⟩
  cases h1 : inB f 1 50
  · have h0 : E = 3 := by rw [HE.out]; exact if_neg (by simp [inB] at h1; omega)
    have HV := Lib.hid (HM.out E rfl h0)
    clear h0 h1 HM HM0 HE
    go_wp2
    refine ret_cell_tmp Tryz.results12 rfl rfl (HS1.out.load Tryz.underlying28 rfl sizeClient) ?_
    exact ⟨by rw [HV.out.1, HV.out.2]; rfl, HB1.out⟩
  go_wp2_with fail
  refine (rin_any _ t 0 10000).mono ?_
  rintro e w3 ⟨rfl, rfl⟩
  cases h2 : inB t 0 10000
  · have h0 : E = 3 := by rw [HE.out]; exact if_neg (by simp [inB] at h1 h2; omega)
    have HV := Lib.hid (HM.out E rfl h0)
    clear h0 h1 h2 HM HM0 HE
    go_wp2
    refine ret_cell_tmp Tryz.results12 rfl rfl (HS1.out.load Tryz.underlying28 rfl sizeClient) ?_
    exact ⟨by rw [HV.out.1, HV.out.2]; rfl, HB1.out⟩
  have h0 : E = 0 := by rw [HE.out]; exact if_pos (by simp [inB] at h1 h2; omega)
  have HV := Lib.hid (HM0.out h0)
  have HV0 := Lib.hid h0
  clear h0 h1 h2 HM HM0 HE
  go_wp2
  refine ret_cell_tmp Tryz.results12 rfl rfl (HS2.out.load Tryz.underlying28 rfl sizeClient) ?_
  exact ⟨by rw [HV.out, HV0.out]; rfl, HB2.out⟩
end Go.Proofs.YtijjiccgpobjmaeGreat

/- slices.Equal at operations. -/
namespace Go.Proofs.YtijjiccgpobjmaeGreat
open Go.ChangeShapes Go.WideShapes Go.ChangeAt Go.RowKit
open Orangery (Mv)

theorem run_neq_ops (o1 o2 o3 o4 o5 o6 o7 p1 p2 p3 p4 p5 p6 p7 : Int) (w : World) : (binOp .neq 32 (.agg #[.int .i64 o1, .int .i64 o2, .int .i64 o3, .int .i64 o4, .int .i64 o5, .int .i64 o6, .int .i64 o7]) (.agg #[.int .i64 p1, .int .i64 p2, .int .i64 p3, .int .i64 p4, .int .i64 p5, .int .i64 p6, .int .i64 p7])).run Tryz.prog w = .ok (.bool (!decide (((o1, o2, (o3, o4, o5), o6, o7) : Mv) = (p1, p2, (p3, p4, p5), p6, p7)))) w :=
  run_neq_opg (o1, o2, (o3, o4, o5), o6, o7) (p1, p2, (p3, p4, p5), p6, p7) w
theorem guard_ops (op : BinOp) (x y : Operand) (xs ys : Array Value) (w : World) : (eqGuard op 32 x y (.agg xs) (.agg ys)).run Tryz.prog w = .ok () w :=
  run_eqGuard_agg w op 32 x y xs ys (by kernel_rfl)

def eqOs (l m : List Mv) : Bool := decide (l = m)

set_option maxHeartbeats 2000000 in
theorem equal_ops (w : World) (a a' : Option Addr) (c c' : Nat) (l m : List Mv) (hl : l.length ≤ maxLen) (h1 : SlE opC w a l) (h2 : SlE opC w a' m) :
    Calls Tryz.prog 21 #[.slice a l.length c, .slice a' m.length c'] w
      fun e w' => e = .returned (.bool (eqOs l m)) ∧ ∃ n, w' = w.drewN n := by
  have hl' : l.length ≤ 9223372036854775807 := hl
  by_cases hlen : l.length = m.length
  · have hgd := guard_ops
    have hlen' : ((l.length : Int) != (m.length : Int)) = false := by simp [hlen]
    have H1 : Hid (SlE opC w a l) := h1
    have H2 : Hid (SlE opC w a' m) := h2
    clear h1 h2
    go_enter Tryz.func21, Tryz.ntmps21
    go_wp2
    go_loopw [13] (fun i w' => ∃ k n : Nat, k ≤ l.length ∧ i = .int .i64 k ∧ w' = w.drewN n ∧ l.take k = m.take k) (fun i _ => l.length - (intOf i).toNat)
    case atStart => exact ⟨0, 0, Nat.zero_le _, rfl, rfl, rfl⟩
    case round =>
      obtain ⟨k, n, hk, rfl, rfl, hpre⟩ := hrel
      have HP : Hid (l.take k = m.take k) := hpre
      clear hpre
      by_cases hlt : k < l.length
      · have hlt2 : k < m.length := by omega
        obtain ⟨b, off, rfl, hbl, hr⟩ := H1.out.at opC_len k hlt
        obtain ⟨b', off', rfl, hbl', hr'⟩ := H2.out.at opC_len k hlt2
        obtain ⟨g0, g1, g2, g3, g4, g5, g6⟩ := op_cells hr
        obtain ⟨x0, x1, x2, x3, x4, x5, x6⟩ := op_cells hr'
        have hlti : (k : Int) < (m.length : Int) := by omega
        have HS : Hid (l[k] = m[k] → l.take (k + 1) = m.take (k + 1)) := fun e => by rw [List.take_succ_eq_append_getElem hlt, List.take_succ_eq_append_getElem hlt2, HP.out, e]
        have HN : Hid (l[k] ≠ m[k] → l ≠ m) := fun h e => by subst e; exact h rfl
        clear hr hr' HP
        generalize l[k] = o at *
        generalize m[k] = p at *
        obtain ⟨o1, o2, ⟨o3, o4, o5⟩, o6, o7⟩ := o
        obtain ⟨p1, p2, ⟨p3, p4, p5⟩, p6, p7⟩ := p
        simp only at g0 g1 g2 g3 g4 g5 g6 x0 x1 x2 x3 x4 x5 x6
        obtain ⟨qb, hqb⟩ : ∃ b, decide (((o1, o2, (o3, o4, o5), o6, o7) : Mv) = (p1, p2, (p3, p4, p5), p6, p7)) = b := ⟨_, rfl⟩
        have hne := run_neq_ops o1 o2 o3 o4 o5 o6 o7 p1 p2 p3 p4 p5 p6 p7
        rw [hqb] at hne
        go_wp2
        go_quiet (fail)
        cases hq : qb
        · have HQ : Hid (l ≠ m) := HN.out (by rw [hq] at hqb; simpa only [decide_eq_false_iff_not] using hqb)
          subst hq
          clear hqb HN HS
          go_wp2
          go_ret
          exact ⟨ret_bool (by symm; simp only [eqOs, decide_eq_false_iff_not]; exact HQ.out), n + nq, by simp⟩
        · have HQ : Hid (l.take (k + 1) = m.take (k + 1)) := HS.out (by rw [hq] at hqb; simpa only [decide_eq_true_eq] using hqb)
          subst hq
          clear hqb HN HS
          go_wp2
          go_roundw
          case rel => exact ⟨k + 1, _, by omega, by go_num, rfl, HQ.out⟩
          case measure => simp [intOf]; omega
      · go_wp2
        go_ret
        refine ⟨ret_bool ?_, n, rfl⟩
        symm
        have e := HP.out
        rw [List.take_of_length_le (by omega), List.take_of_length_le (by omega)] at e
        simp [eqOs, e]
  · have hlen' : ((l.length : Int) != (m.length : Int)) = true := by simp; omega
    have HL : Hid (l.length ≠ m.length) := hlen
    clear hlen
    go_enter Tryz.func21, Tryz.ntmps21
    go_wp2
    go_ret
    exact ⟨ret_bool (by symm; simp only [eqOs, decide_eq_false_iff_not]; intro e; subst e; exact HL.out rfl), 0, rfl⟩
theorem equalOps_any (w : World) (a a' : Option Addr) (c c' : Nat) (l m : List Mv) (hl : l.length ≤ maxLen) (h1 : SlE opC w a l) (h2 : SlE opC w a' m) :
    Calls Tryz.prog 21 #[.slice a l.length c, .slice a' m.length c'] w
      fun e w' => e = .returned (.bool (eqOs l m)) ∧ Below w.heap.size w w' := by
  refine (equal_ops w a a' c c' l m hl h1 h2).mono ?_
  rintro e w' ⟨h, n, rfl⟩
  exact ⟨h, ⟨rfl, rfl, rfl, Nat.le_refl _, fun _ _ => rfl⟩⟩
end Go.Proofs.YtijjiccgpobjmaeGreat

/- orangeryref.SameClient. -/
namespace Go.Proofs.YtijjiccgpobjmaeGreat
open Go.ChangeShapes Go.WideShapes Go.ChangeAt Go.RowKit
open Orangery (Pl Mv Vw Cl sameV)

/-- are two clients alike? -/
def sameCl (x y : Cl) : Bool := decide (x.1 = y.1) && decide (x.2.1 = y.2.1) && decide (x.2.2 = y.2.2)
theorem sameCl_iff (x y : Cl) : sameCl x y = true ↔ x = y := by
  obtain ⟨x1, x2, x3⟩ := x
  obtain ⟨y1, y2, y3⟩ := y
  simp [sameCl, and_assoc]
theorem sameCl_parts (f f' t t' s s' v v' : Int) (P P' : List Mv) (R R' : List Int) (K K' V V' : List Pl) :
    sameCl ((f, t, s, v), P, R, K, V) ((f', t', s', v'), P', R', K', V') = (decide (f = f') && decide (t = t') && decide (s = s') && decide (v = v') && eqOs P P' && sameV R R' K K' V V') := by
  unfold sameCl eqOs sameV
  rw [Bool.eq_iff_iff]
  simp [and_assoc]

set_option maxHeartbeats 8000000 in
set_option maxRecDepth 100000 in
theorem rsameClient_any (w : World) (x y : Cm) (hx : ClIn w x) (hy : ClIn w y) :
    Calls Tryz.prog 17 #[x.val, y.val] w fun e w' => e = .returned (.bool (sameCl x.1 y.1)) ∧ Below w.heap.size w w' := by
  obtain ⟨⟨⟨f, t, s, v⟩, P, R, K, V⟩, ⟨aP, cP⟩, ⟨aR, cR⟩, ⟨aK, cK⟩, ⟨aV, cV⟩⟩ := x
  obtain ⟨⟨⟨f', t', s', v'⟩, P', R', K', V'⟩, ⟨bP, dP⟩, ⟨bR, dR⟩, ⟨bK, dK⟩, ⟨bV, dV⟩⟩ := y
  obtain ⟨E, hE⟩ : ∃ E, E = sameCl ((f, t, s, v), P, R, K, V) ((f', t', s', v'), P', R', K', V') := ⟨_, rfl⟩
  show Calls Tryz.prog _ #[.agg #[Value.int .i64 f, .int .i64 t, .int .i64 s, .slice aP P.length cP, .int .i64 v, .slice aR R.length cR, .slice aK K.length cK, .slice aV V.length cV], .agg #[Value.int .i64 f', .int .i64 t', .int .i64 s', .slice bP P'.length dP, .int .i64 v', .slice bR R'.length dR, .slice bK K'.length dK, .slice bV V'.length dV]] w fun e w' => e = .returned (.bool (sameCl ((f, t, s, v), P, R, K, V) ((f', t', s', v'), P', R', K', V'))) ∧ _
  rw [← hE]
  rw [sameCl_parts] at hE
  have HE := Lib.hid hE
  obtain ⟨W0, hW, hN, hM, hB, -⟩ := laid2 w [Value.int .i64 f, .int .i64 t, .int .i64 s, .slice aP P.length cP, .int .i64 v, .slice aR R.length cR, .slice aK K.length cK, .slice aV V.length cV] 28 [Value.int .i64 f', .int .i64 t', .int .i64 s', .slice bP P'.length dP, .int .i64 v', .slice bR R'.length dR, .slice bK K'.length dK, .slice bV V'.length dV] 28
  have HB := Lib.hid hB
  have HX := Lib.hid (hx.keep hB)
  have HY := Lib.hid (hy.keep hB)
  have HN := Lib.hid hN
  have HM := Lib.hid hM
  clear hB hE hx hy
  have x0 := hN.at 0 rfl
  have x1 := hN.at 1 rfl
  have x2 := hN.at 2 rfl
  have x3 := hN.at 3 rfl
  have x4 := hN.at 4 rfl
  have y0 := hM.at 0 rfl
  have y1 := hM.at 1 rfl
  have y2 := hM.at 2 rfl
  have y3 := hM.at 3 rfl
  have y4 := hM.at 4 rfl
  clear hN hM
  by_cases e1 : f = f'
  case neg =>
    have d1 : (f == f') = false := by simpa using e1
    have HF : Hid (E = false) := by show _ = _; rw [HE.out]; simp [e1]
    clear e1 HE HN HM HX HY x1 x2 x3 x4 y1 y2 y3 y4
    go_enter Tryz.func17, Tryz.ntmps17
    go_wp2
    go_ret
    exact ⟨ret_bool HF.out.symm, HB.out⟩
  have d1 : (f == f') = true := by simpa using e1
  by_cases e2 : t = t'
  case neg =>
    have d2 : (t == t') = false := by simpa using e2
    have HF : Hid (E = false) := by show _ = _; rw [HE.out]; simp [e2]
    clear e1 e2 HE HN HM HX HY x2 x3 x4 y2 y3 y4
    go_enter Tryz.func17, Tryz.ntmps17
    go_wp2
    go_ret
    exact ⟨ret_bool HF.out.symm, HB.out⟩
  have d2 : (t == t') = true := by simpa using e2
  by_cases e3 : s = s'
  case neg =>
    have d3 : (s == s') = false := by simpa using e3
    have HF : Hid (E = false) := by show _ = _; rw [HE.out]; simp [e3]
    clear e1 e2 e3 HE HN HM HX HY x3 x4 y3 y4
    go_enter Tryz.func17, Tryz.ntmps17
    go_wp2
    go_ret
    exact ⟨ret_bool HF.out.symm, HB.out⟩
  have d3 : (s == s') = true := by simpa using e3
  by_cases e4 : v = v'
  case neg =>
    have d4 : (v == v') = false := by simpa using e4
    have HF : Hid (E = false) := by show _ = _; rw [HE.out]; simp [e4]
    clear e1 e2 e3 e4 HE HN HM HX HY x3 y3
    go_enter Tryz.func17, Tryz.ntmps17
    go_wp2
    go_ret
    exact ⟨ret_bool HF.out.symm, HB.out⟩
  have d4 : (v == v') = true := by simpa using e4
  have HF : Hid (E = (eqOs P P' && sameV R R' K K' V V')) := by show _ = _; rw [HE.out]; simp [e1, e2, e3, e4]
  clear e1 e2 e3 e4 HE
  go_enter Tryz.func17, Tryz.ntmps17
  go_wp2_with fail
  clear hW d1 d2 d3 d4 x0 x1 x2 x3 x4 y0 y1 y2 y3 y4
  have q0 := HX.out.few.1
  simp only at q0
  refine (equalOps_any W0 aP bP cP dP P P' (by unfold maxLen; omega) HX.out.lp HY.out.lp).mono ?_
  rintro e w1 ⟨rfl, hb⟩
  have HB1 := Lib.hid (HB.out.trans (hb.mono HB.out.size))
  have HX1 := Lib.hid (HX.out.keep hb)
  have HY1 := Lib.hid (HY.out.keep hb)
  have hN1 := HN.out.keep hb
  have hM1 := HM.out.keep hb
  clear q0 hb HB HX HY HN HM
  cases hq : eqOs P P'
  · have HG : Hid (E = false) := by show _ = _; rw [HF.out, hq]; rfl
    clear hq hN1 hM1 HF HX1 HY1
    go_wp2
    go_ret
    exact ⟨ret_bool HG.out.symm, HB1.out⟩
  have HG : Hid (E = sameV R R' K K' V V') := by show _ = _; rw [HF.out, hq]; rfl
  clear hq HF
  have x5 := hN1.at 5 rfl
  have x6 := hN1.at 6 rfl
  have x7 := hN1.at 7 rfl
  have y5 := hM1.at 5 rfl
  have y6 := hM1.at 6 rfl
  have y7 := hM1.at 7 rfl
  clear hN1 hM1
  go_wp2_with fail
  clear x5 x6 x7 y5 y6 y7
  have q1 := HX1.out.few
  simp only at q1
  refine (rsameV_any w1 aR aK aV bR bK bV cR cK cV dR dK dV R R' K K' V V' (by unfold maxLen; omega) (by unfold maxLen; omega) (by unfold maxLen; omega) HX1.out.lr HX1.out.lk HX1.out.lv HY1.out.lr HY1.out.lk HY1.out.lv).mono ?_
  rintro e w2 ⟨rfl, hb⟩
  have HB2 := Lib.hid (HB1.out.trans (hb.mono HB1.out.size))
  clear q1 hb HB1 HX1 HY1
  go_wp2
  go_ret
  exact ⟨ret_bool HG.out.symm, HB2.out⟩
end Go.Proofs.YtijjiccgpobjmaeGreat

/- The program's client: numbers in range, the numbers together, room for one more, what is of use; Begin, Same. -/
namespace Go.Proofs.YtijjiccgpobjmaeGreat
open Go.ChangeShapes Go.WideShapes Go.ChangeAt Go.RowKit
open Orangery (Pl Mv Vw Dl Ml Cl noCl clRange clForm begE begC deaf sameV)

set_option maxHeartbeats 400000 in
theorem cwithin_any (w : World) (n a b : Int) :
    Calls Tryz.prog 32 #[.int .i64 n, .int .i64 a, .int .i64 b] w fun e w' => e = .returned (.bool (inB n a b)) ∧ w' = w := by
  by_cases h1 : a ≤ n
  all_goals by_cases h2 : n ≤ b
  all_goals
    go_enter Tryz.func32, Tryz.ntmps32
    go_wp2
    go_ret
    exact ⟨ret_bool (by simp [inB]; try omega), rfl⟩

set_option maxHeartbeats 2000000 in
theorem cinRange_any (w : World) (x : Cm) :
    Calls Tryz.prog 38 #[x.val] w fun e w' => e = .returned (.bool (clRange x.1)) ∧ Below w.heap.size w w' := by
  obtain ⟨⟨⟨f, t, s, v⟩, P, R, K, V⟩, ⟨aP, cP⟩, ⟨aR, cR⟩, ⟨aK, cK⟩, ⟨aV, cV⟩⟩ := x
  obtain ⟨E, hE⟩ : ∃ E, E = clRange ((f, t, s, v), P, R, K, V) := ⟨_, rfl⟩
  show Calls Tryz.prog _ #[.agg #[Value.int .i64 f, .int .i64 t, .int .i64 s, .slice aP P.length cP, .int .i64 v, .slice aR R.length cR, .slice aK K.length cK, .slice aV V.length cV]] w fun e w' => e = .returned (.bool (clRange ((f, t, s, v), P, R, K, V))) ∧ _
  rw [← hE]
  have HE : Hid (E = (inB f 0 50 && inB t 0 10000 && inB s 0 30 && inB v 0 60)) := hE
  clear hE
  obtain ⟨W0, hW, hN, hB, -⟩ := laid1 w [Value.int .i64 f, .int .i64 t, .int .i64 s, .slice aP P.length cP, .int .i64 v, .slice aR R.length cR, .slice aK K.length cK, .slice aV V.length cV] 28
  have HB := Lib.hid hB
  have x0 := hN.at 0 rfl
  have x1 := hN.at 1 rfl
  have x2 := hN.at 2 rfl
  have x4 := hN.at 4 rfl
  clear hB hN
  go_enter Tryz.func38, Tryz.ntmps38
  go_wp2_with fail
  clear hW
  refine (cwithin_any _ f 0 50).mono ?_
  rintro e w2 ⟨rfl, rfl⟩
  cases h1 : inB f 0 50
  · have HF : Hid (E = false) := by show _ = _; rw [HE.out, h1]; rfl
    clear h1 HE
    go_wp2
    go_ret
    exact ⟨ret_bool HF.out.symm, HB.out⟩
  go_wp2_with fail
  refine (cwithin_any _ t 0 10000).mono ?_
  rintro e w3 ⟨rfl, rfl⟩
  cases h2 : inB t 0 10000
  · have HF : Hid (E = false) := by show _ = _; rw [HE.out, h1, h2]; rfl
    clear h1 h2 HE
    go_wp2
    go_ret
    exact ⟨ret_bool HF.out.symm, HB.out⟩
  go_wp2_with fail
  refine (cwithin_any _ s 0 30).mono ?_
  rintro e w3 ⟨rfl, rfl⟩
  cases h3 : inB s 0 30
  · have HF : Hid (E = false) := by show _ = _; rw [HE.out, h1, h2, h3]; rfl
    clear h1 h2 h3 HE
    go_wp2
    go_ret
    exact ⟨ret_bool HF.out.symm, HB.out⟩
  go_wp2_with fail
  refine (cwithin_any _ v 0 60).mono ?_
  rintro e w3 ⟨rfl, rfl⟩
  have HF : Hid (E = inB v 0 60) := by show _ = _; rw [HE.out, h1, h2, h3]; rfl
  clear h1 h2 h3 HE
  go_wp2
  go_ret
  exact ⟨ret_bool HF.out.symm, HB.out⟩

set_option maxHeartbeats 2000000 in
theorem ccheckRoom_any (w : World) (x : Cm) :
    Calls Tryz.prog 27 #[x.val] w fun e w' => e = .returned (.int .i64 (if x.1.1.1 = 0 then 7 else if x.1.2.1.length = 8 ∨ x.1.1.2.1 = 10000 ∨ x.1.1.2.2.1 = 30 then 2 else 0)) ∧ Below w.heap.size w w' := by
  obtain ⟨⟨⟨f, t, s, v⟩, P, R, K, V⟩, ⟨aP, cP⟩, ⟨aR, cR⟩, ⟨aK, cK⟩, ⟨aV, cV⟩⟩ := x
  show Calls Tryz.prog _ #[.agg #[Value.int .i64 f, .int .i64 t, .int .i64 s, .slice aP P.length cP, .int .i64 v, .slice aR R.length cR, .slice aK K.length cK, .slice aV V.length cV]] w fun e w' => e = .returned (.int .i64 (if f = 0 then 7 else if P.length = 8 ∨ t = 10000 ∨ s = 30 then 2 else 0)) ∧ _
  generalize P.length = n
  obtain ⟨E, hE⟩ : ∃ E : Int, E = if f = 0 then 7 else if n = 8 ∨ t = 10000 ∨ s = 30 then 2 else 0 := ⟨_, rfl⟩
  rw [← hE]
  have HE := Lib.hid hE
  clear hE
  obtain ⟨W0, hW, hN, hB, -⟩ := laid1 w [Value.int .i64 f, .int .i64 t, .int .i64 s, .slice aP n cP, .int .i64 v, .slice aR R.length cR, .slice aK K.length cK, .slice aV V.length cV] 28
  have HB := Lib.hid hB
  have x0 := hN.at 0 rfl
  have x1 := hN.at 1 rfl
  have x2 := hN.at 2 rfl
  have x3 := hN.at 3 rfl
  clear hB hN
  by_cases h1 : f = 0
  · have HF : Hid (E = 7) := by show _ = _; rw [HE.out, if_pos h1]
    have d1 : (f == 0) = true := by simpa using h1
    clear h1 HE
    go_enter Tryz.func27, Tryz.ntmps27
    go_wp2
    go_ret
    exact ⟨ret_int HF.out.symm, HB.out⟩
  have d1 : (f == 0) = false := by simpa using h1
  by_cases h2 : n = 8
  · have HF : Hid (E = 2) := by show _ = _; rw [HE.out, if_neg h1, if_pos (Or.inl h2)]
    have d2 : ((n : Int) == 8) = true := by simp; omega
    clear h1 h2 HE
    go_enter Tryz.func27, Tryz.ntmps27
    go_wp2
    go_ret
    exact ⟨ret_int HF.out.symm, HB.out⟩
  have d2 : ((n : Int) == 8) = false := by simp; omega
  by_cases h3 : t = 10000
  · have HF : Hid (E = 2) := by show _ = _; rw [HE.out, if_neg h1, if_pos (Or.inr (Or.inl h3))]
    have d3 : (t == 10000) = true := by simpa using h3
    clear h1 h2 h3 HE
    go_enter Tryz.func27, Tryz.ntmps27
    go_wp2
    go_ret
    exact ⟨ret_int HF.out.symm, HB.out⟩
  have d3 : (t == 10000) = false := by simpa using h3
  by_cases h4 : s = 30
  · have HF : Hid (E = 2) := by show _ = _; rw [HE.out, if_neg h1, if_pos (Or.inr (Or.inr h4))]
    have d4 : (s == 30) = true := by simpa using h4
    clear h1 h2 h3 h4 HE
    go_enter Tryz.func27, Tryz.ntmps27
    go_wp2
    go_ret
    exact ⟨ret_int HF.out.symm, HB.out⟩
  have d4 : (s == 30) = false := by simpa using h4
  have HF : Hid (E = 0) := by show _ = _; rw [HE.out, if_neg h1, if_neg (by omega)]
  clear h1 h2 h3 h4 HE
  go_enter Tryz.func27, Tryz.ntmps27
  go_wp2
  go_ret
  exact ⟨ret_int HF.out.symm, HB.out⟩

set_option maxHeartbeats 4000000 in
set_option maxRecDepth 100000 in
theorem cisNews_any (w : World) (x : Cm) (y : Mm) (hk : y.1.1.1 = 2 ∨ y.1.1.1 = 3) :
    Calls Tryz.prog 46 #[x.val, y.val] w fun e w' => e = .returned (.bool (!deaf x.1 y.1)) ∧ Below w.heap.size w w' := by
  obtain ⟨⟨⟨f, t, s, v⟩, P, R, K, V⟩, ⟨aP, cP⟩, ⟨aR, cR⟩, ⟨aK, cK⟩, ⟨aV, cV⟩⟩ := x
  obtain ⟨E, hE⟩ : ∃ E, E = !deaf ((f, t, s, v), P, R, K, V) y.1 := ⟨_, rfl⟩
  obtain ⟨cy, hcy⟩ : ∃ c, c = mlC y := ⟨_, rfl⟩
  show Calls Tryz.prog _ #[.agg #[Value.int .i64 f, .int .i64 t, .int .i64 s, .slice aP P.length cP, .int .i64 v, .slice aR R.length cR, .slice aK K.length cK, .slice aV V.length cV], .agg (mlC y).toArray] w fun e w' => e = .returned (.bool (!deaf ((f, t, s, v), P, R, K, V) y.1)) ∧ _
  rw [← hE, ← hcy]
  have HCY := Lib.hid hcy
  obtain ⟨W0, hW, hN, hM, hB, -⟩ := laid2 w [Value.int .i64 f, .int .i64 t, .int .i64 s, .slice aP P.length cP, .int .i64 v, .slice aR R.length cR, .slice aK K.length cK, .slice aV V.length cV] 28 cy 52
  rw [hcy] at hM
  clear hcy
  obtain ⟨⟨⟨k, u, g, q, z, n, p⟩, o, mv, md⟩, r⟩ := y
  have HB := Lib.hid hB
  have x0 := hN.at 0 rfl
  have x2 := hN.at 2 rfl
  have x4 := hN.at 4 rfl
  have y0 := hM.at 0 rfl
  have y2 := hM.at 2 rfl
  have y3 := hM.at 3 rfl
  have y5 := hM.at 5 rfl
  have y6 := hM.at 6 rfl
  simp only at y0 y2 y3 y5 y6 hk
  have HE : Hid (E = ((decide (k = 2) || decide (p = v)) && decide (g = f) && decide (v < n) && decide (q ≤ s))) := by
    show _ = _
    rw [hE, Bool.eq_iff_iff]
    unfold deaf
    simp only [Bool.not_eq_true', Bool.or_eq_false_iff, Bool.not_eq_false', decide_eq_true_eq, decide_eq_false_iff_not, Bool.and_eq_true, Bool.or_eq_true, Bool.and_eq_false_iff]
    omega
  clear hB hN hM hE HCY
  go_enter Tryz.func46, Tryz.ntmps46
  by_cases hfit : k = 2 ∨ p = v
  case neg =>
    have d1 : (k == 2) = false := by simp; omega
    have d2 : (p == v) = false := by simp; omega
    have HF : Hid (E = false) := by show _ = _; rw [HE.out]; simp; omega
    clear hfit HE hk
    go_wp2
    go_ret
    exact ⟨ret_bool HF.out.symm, HB.out⟩
  obtain ⟨kb, hkb⟩ : ∃ b, (k == 2) = b := ⟨_, rfl⟩
  have HFIT : Hid (kb = false → (p == v) = true) := by
    intro h
    rw [h] at hkb
    simp at hkb
    simp
    omega
  have HG : Hid (E = (decide (g = f) && decide (v < n) && decide (q ≤ s))) := by show _ = _; rw [HE.out]; rcases hfit with h | h <;> simp [h]
  clear hfit HE hk
  have go : ∀ b, kb = b → True := fun _ _ => trivial
  clear go
  by_cases h1 : g = f
  case neg =>
    have c1 : (g == f) = false := by simpa using h1
    have HF : Hid (E = false) := by show _ = _; rw [HG.out]; simp [h1]
    clear h1 HG
    cases kb
    · have d2 := HFIT.out rfl
      clear HFIT
      go_wp2
      go_ret
      exact ⟨ret_bool HF.out.symm, HB.out⟩
    · clear HFIT
      go_wp2
      go_ret
      exact ⟨ret_bool HF.out.symm, HB.out⟩
  have c1 : (g == f) = true := by simpa using h1
  by_cases h2 : v < n
  case neg =>
    have c2 : decide (n > v) = false := by simpa using h2
    have HF : Hid (E = false) := by show _ = _; rw [HG.out]; simp [h2]
    clear h1 h2 HG
    cases kb
    · have d2 := HFIT.out rfl
      clear HFIT
      go_wp2
      go_ret
      exact ⟨ret_bool HF.out.symm, HB.out⟩
    · clear HFIT
      go_wp2
      go_ret
      exact ⟨ret_bool HF.out.symm, HB.out⟩
  have c2 : decide (n > v) = true := by simpa using h2
  have HF : Hid (E = decide (q ≤ s)) := by show _ = _; rw [HG.out]; simp [h1, h2]
  clear h1 h2 HG
  cases kb
  · have d2 := HFIT.out rfl
    clear HFIT
    go_wp2
    go_ret
    exact ⟨ret_bool HF.out.symm, HB.out⟩
  · clear HFIT
    go_wp2
    go_ret
    exact ⟨ret_bool HF.out.symm, HB.out⟩

set_option maxHeartbeats 1000000 in
theorem chear1_any (w : World) (o : Mv) (b : Nat) (q : Int) (hb : b < w.heap.size) (h : w.cell? ⟨b, 3, none⟩ = some (.int .i64 q)) :
    Calls Tryz.prog 48 #[opV o, .pointer (some ⟨b, 0, none⟩)] w fun e w' => e = .returned (.bool (decide (o.2.2.2.2 ≤ q))) ∧ Below w.heap.size w w' := by
  obtain ⟨o1, o2, ⟨o3, o4, o5⟩, o6, o7⟩ := o
  go_enter Tryz.func48, Tryz.ntmps48
  go_wp2
  go_ret
  exact ⟨rfl, Go.Joins.below_alloc1 w _⟩

set_option maxHeartbeats 8000000 in
set_option maxRecDepth 100000 in
theorem cholds_any (w : World) (x : Cm) (hr : clRange x.1 = true) :
    Calls Tryz.prog 40 #[x.val] w fun e w' => e = .returned (.bool (!clForm x.1)) ∧ Below w.heap.size w w' := by
  obtain ⟨⟨⟨f, t, s, v⟩, P, R, K, V⟩, ⟨aP, cP⟩, ⟨aR, cR⟩, ⟨aK, cK⟩, ⟨aV, cV⟩⟩ := x
  obtain ⟨E, hE⟩ : ∃ E, E = !clForm ((f, t, s, v), P, R, K, V) := ⟨_, rfl⟩
  show Calls Tryz.prog _ #[.agg #[Value.int .i64 f, .int .i64 t, .int .i64 s, .slice aP P.length cP, .int .i64 v, .slice aR R.length cR, .slice aK K.length cK, .slice aV V.length cV]] w fun e w' => e = .returned (.bool (!clForm ((f, t, s, v), P, R, K, V))) ∧ _
  rw [← hE]
  have hq : 0 ≤ t ∧ 0 ≤ s ∧ 0 ≤ v := by
    unfold clRange at hr
    simp only [Bool.and_eq_true, decide_eq_true_eq] at hr
    omega
  have HE : Hid (E = !((decide (f = 0) && (!decide (t = 0) || !decide (s = 0) || !decide (v = 0))) || (decide (v = 0) && decide (0 < R.length)) || !decide ((P.length : Int) ≤ s))) := by
    show _ = _
    rw [hE]
    unfold clForm
    have e1 : decide (0 < t) = !decide (t = 0) := by rw [Bool.eq_iff_iff]; simp; omega
    have e2 : decide (0 < s) = !decide (s = 0) := by rw [Bool.eq_iff_iff]; simp; omega
    have e3 : decide (0 < v) = !decide (v = 0) := by rw [Bool.eq_iff_iff]; simp; omega
    have e4 : (!R.isEmpty) = decide (0 < R.length) := by cases R <;> simp
    have e5 : decide (s < (P.length : Int)) = !decide ((P.length : Int) ≤ s) := by rw [Bool.eq_iff_iff]; simp
    rw [e1, e2, e3, e5]
    simp only
    rw [e4]
  clear hE hr hq
  obtain ⟨W0, hW, hN, hB, -⟩ := laid1 w [Value.int .i64 f, .int .i64 t, .int .i64 s, .slice aP P.length cP, .int .i64 v, .slice aR R.length cR, .slice aK K.length cK, .slice aV V.length cV] 28
  have HB := Lib.hid hB
  have x0 := hN.at 0 rfl
  have x1 := hN.at 1 rfl
  have x2 := hN.at 2 rfl
  have x3 := hN.at 3 rfl
  have x4 := hN.at 4 rfl
  have x5 := hN.at 5 rfl
  generalize P.length = pn at *
  generalize R.length = rn at *
  clear hB hN
  have tests : ∀ z : Int, (z = 0 → (z == 0) = true ∧ (z != 0) = false) ∧ (z ≠ 0 → (z == 0) = false ∧ (z != 0) = true) := fun z => ⟨fun h => by simp [h], fun h => by simp [h]⟩
  have HT := Lib.hid tests
  clear tests
  have last : Hid ((pn : Int) ≤ s → decide ((pn : Int) ≤ s) = true) := fun h => by simpa using h
  by_cases h1 : f = 0
  · have d1 := ((HT.out f).1 h1).1
    by_cases h2 : t = 0
    case neg =>
      have d2 := ((HT.out t).2 h2).2
      have HF : Hid (E = false) := by show _ = _; rw [HE.out]; simp [h1, h2]
      clear h1 h2 HE HT last
      obtain ⟨vb, hvb⟩ : ∃ b, (v == 0) = b := ⟨_, rfl⟩
      go_enter Tryz.func40, Tryz.ntmps40
      go_upto_region 1 with fail
      go_quiet (fail)
      go_wp2
      go_ret
      exact ⟨ret_bool HF.out.symm, HB.out.trans ⟨rfl, rfl, rfl, Nat.le_refl _, fun _ _ => rfl⟩⟩
    have d2 := ((HT.out t).1 h2).2
    by_cases h3 : s = 0
    case neg =>
      have d3 := ((HT.out s).2 h3).2
      have HF : Hid (E = false) := by show _ = _; rw [HE.out]; simp [h1, h3]
      clear h1 h2 h3 HE HT last
      obtain ⟨vb, hvb⟩ : ∃ b, (v == 0) = b := ⟨_, rfl⟩
      go_enter Tryz.func40, Tryz.ntmps40
      go_upto_region 1 with fail
      go_quiet (fail)
      go_wp2
      go_ret
      exact ⟨ret_bool HF.out.symm, HB.out.trans ⟨rfl, rfl, rfl, Nat.le_refl _, fun _ _ => rfl⟩⟩
    have d3 := ((HT.out s).1 h3).2
    by_cases h4 : v = 0
    case neg =>
      have d4 := ((HT.out v).2 h4).1
      have HF : Hid (E = false) := by show _ = _; rw [HE.out]; simp [h1, h4]
      clear h1 h2 h3 h4 HE HT last
      go_enter Tryz.func40, Tryz.ntmps40
      go_upto_region 1 with fail
      go_quiet (fail)
      go_wp2
      go_ret
      exact ⟨ret_bool HF.out.symm, HB.out.trans ⟨rfl, rfl, rfl, Nat.le_refl _, fun _ _ => rfl⟩⟩
    have d4 := ((HT.out v).1 h4).1
    by_cases h5 : 0 < rn
    · have d5 : decide ((rn : Int) > 0) = true := by simpa using h5
      have d6 : 0 < rn := h5
      have d7 : decide (0 < rn) = true := by simpa using h5
      have HF : Hid (E = false) := by show _ = _; rw [HE.out]; simp [h4, h5]
      clear h1 h2 h3 h4 h5 HE HT last
      go_enter Tryz.func40, Tryz.ntmps40
      go_upto_region 1 with fail
      go_quiet (fail)
      go_wp2
      go_ret
      exact ⟨ret_bool HF.out.symm, HB.out.trans ⟨rfl, rfl, rfl, Nat.le_refl _, fun _ _ => rfl⟩⟩
    · have d5 : decide ((rn : Int) > 0) = false := by simpa using h5
      have d6 : decide ((0 : Int) < (rn : Int)) = false := by simpa using h5
      have d7 : decide (0 < rn) = false := by simpa using h5
      have HF : Hid (E = decide ((pn : Int) ≤ s)) := by show _ = _; rw [HE.out]; simp [h1, h2, h3, h4, h5]
      clear h1 h2 h3 h4 h5 HE HT last
      go_enter Tryz.func40, Tryz.ntmps40
      go_upto_region 1 with fail
      go_quiet (fail)
      go_wp2
      go_ret
      exact ⟨ret_bool HF.out.symm, HB.out.trans ⟨rfl, rfl, rfl, Nat.le_refl _, fun _ _ => rfl⟩⟩
  have d1 := ((HT.out f).2 h1).1
  by_cases h4 : v = 0
  case neg =>
    have d4 := ((HT.out v).2 h4).1
    have HF : Hid (E = decide ((pn : Int) ≤ s)) := by show _ = _; rw [HE.out]; simp [h1, h4]
    clear h1 h4 HE HT last
    go_enter Tryz.func40, Tryz.ntmps40
    go_upto_region 1 with fail
    go_quiet (fail)
    go_wp2
    go_ret
    exact ⟨ret_bool HF.out.symm, HB.out.trans ⟨rfl, rfl, rfl, Nat.le_refl _, fun _ _ => rfl⟩⟩
  have d4 := ((HT.out v).1 h4).1
  by_cases h5 : 0 < rn
  · have d5 : decide ((rn : Int) > 0) = true := by simpa using h5
    have d6 : 0 < rn := h5
    have d7 : decide (0 < rn) = true := by simpa using h5
    have HF : Hid (E = false) := by show _ = _; rw [HE.out]; simp [h4, h5]
    clear h1 h4 h5 HE HT last
    go_enter Tryz.func40, Tryz.ntmps40
    go_upto_region 1 with fail
    go_quiet (fail)
    go_wp2
    go_ret
    exact ⟨ret_bool HF.out.symm, HB.out.trans ⟨rfl, rfl, rfl, Nat.le_refl _, fun _ _ => rfl⟩⟩
  · have d5 : decide ((rn : Int) > 0) = false := by simpa using h5
    have d6 : decide ((0 : Int) < (rn : Int)) = false := by simpa using h5
    have d7 : decide (0 < rn) = false := by simpa using h5
    have HF : Hid (E = decide ((pn : Int) ≤ s)) := by show _ = _; rw [HE.out]; simp [h1, h4, h5]
    clear h1 h4 h5 HE HT last
    go_enter Tryz.func40, Tryz.ntmps40
    go_upto_region 1 with fail
    go_quiet (fail)
    go_wp2
    go_ret
    exact ⟨ret_bool HF.out.symm, HB.out.trans ⟨rfl, rfl, rfl, Nat.le_refl _, fun _ _ => rfl⟩⟩

set_option maxHeartbeats 4000000 in
set_option maxRecDepth 100000 in
theorem cbegin_any (w : World) (f t : Int) :
    Calls Tryz.prog 9 #[.int .i64 f, .int .i64 t] w fun e w' => e = .returned (.tuple #[(begM f t).val, .int .i64 (begE f t)]) ∧ Below w.heap.size w w' := by
  obtain ⟨W0, hW, hN, hB, -⟩ := laid1 w (bareC 0 0) 28
  have HB := Lib.hid hB
  have hF := hN.frz
  have x0 := hN.at 0 rfl
  have x1 := hN.at 1 rfl
  have x2 := hN.at 2 rfl
  have x3 := hN.at 3 rfl
  have x4 := hN.at 4 rfl
  have x5 := hN.at 5 rfl
  have x6 := hN.at 6 rfl
  have x7 := hN.at 7 rfl
  have hS1 := hN.sets (bareC 0 0) rfl
  have hS2 := hN.sets (bareC f t) rfl
  have HB1 := Lib.hid (below_sets hB w.heap.size (Nat.le_refl _) (bareC 0 0) 0)
  have HB2 := Lib.hid (below_sets hB w.heap.size (Nat.le_refl _) (bareC f t) 0)
  have HS1 := Lib.hid hS1
  have HS2 := Lib.hid hS2
  clear hB hS1 hS2
  have HM : Hid (∀ E, begE f t = E → E = 3 → (begM f t).val = .agg (bareC 0 0).toArray ∧ begE f t = 3) := by
    intro E e h
    rw [h] at e
    refine ⟨?_, e⟩
    unfold begM
    rw [if_pos (by rw [e]; decide)]
    rfl
  have HM0 : Hid (begE f t = 0 → (begM f t).val = .agg (bareC f t).toArray) := by
    intro e
    unfold begM
    rw [if_neg (by simp [e])]
    rfl
  have HE : Hid (begE f t = if 1 ≤ f ∧ f ≤ 50 ∧ 0 ≤ t ∧ t ≤ 10000 then 0 else 3) := rfl
  generalize (begM f t).val = xv at *
  generalize begE f t = E at *
  simp only [bareC] at hW
  go_enter Tryz.func9, Tryz.ntmps9
  go_wp2_with fail
  clear hW
  refine (cwithin_any _ f 1 50).mono ?_
  rintro e w2 ⟨rfl, rfl⟩
  cases h1 : inB f 1 50
  · have h0 : E = 3 := by rw [HE.out]; exact if_neg (by simp [inB] at h1; omega)
    have HV := Lib.hid (HM.out E rfl h0)
    clear h0 h1 HM HM0 HE
    go_wp2
    refine ret_cell_tmp Tryz.results9 rfl rfl (HS1.out.load Tryz.underlying28 rfl sizeClient) ?_
    exact ⟨by rw [HV.out.1, HV.out.2]; rfl, HB1.out⟩
  go_wp2_with fail
  refine (cwithin_any _ t 0 10000).mono ?_
  rintro e w3 ⟨rfl, rfl⟩
  cases h2 : inB t 0 10000
  · have h0 : E = 3 := by rw [HE.out]; exact if_neg (by simp [inB] at h1 h2; omega)
    have HV := Lib.hid (HM.out E rfl h0)
    clear h0 h1 h2 HM HM0 HE
    go_wp2
    refine ret_cell_tmp Tryz.results9 rfl rfl (HS1.out.load Tryz.underlying28 rfl sizeClient) ?_
    exact ⟨by rw [HV.out.1, HV.out.2]; rfl, HB1.out⟩
  have h0 : E = 0 := by rw [HE.out]; exact if_pos (by simp [inB] at h1 h2; omega)
  have HV := Lib.hid (HM0.out h0)
  have HV0 := Lib.hid h0
  clear h0 h1 h2 HM HM0 HE
  go_wp2
  refine ret_cell_tmp Tryz.results9 rfl rfl (HS2.out.load Tryz.underlying28 rfl sizeClient) ?_
  exact ⟨by rw [HV.out, HV0.out]; rfl, HB2.out⟩

set_option maxHeartbeats 8000000 in
set_option maxRecDepth 100000 in
theorem csame_any (w : World) (x y : Cm) (hx : ClIn w x) (hy : ClIn w y) :
    Calls Tryz.prog 16 #[x.val, y.val] w fun e w' => e = .returned (.bool (sameCl x.1 y.1)) ∧ Below w.heap.size w w' := by
  obtain ⟨⟨⟨f, t, s, v⟩, P, R, K, V⟩, ⟨aP, cP⟩, ⟨aR, cR⟩, ⟨aK, cK⟩, ⟨aV, cV⟩⟩ := x
  obtain ⟨⟨⟨f', t', s', v'⟩, P', R', K', V'⟩, ⟨bP, dP⟩, ⟨bR, dR⟩, ⟨bK, dK⟩, ⟨bV, dV⟩⟩ := y
  obtain ⟨E, hE⟩ : ∃ E, E = sameCl ((f, t, s, v), P, R, K, V) ((f', t', s', v'), P', R', K', V') := ⟨_, rfl⟩
  show Calls Tryz.prog _ #[.agg #[Value.int .i64 f, .int .i64 t, .int .i64 s, .slice aP P.length cP, .int .i64 v, .slice aR R.length cR, .slice aK K.length cK, .slice aV V.length cV], .agg #[Value.int .i64 f', .int .i64 t', .int .i64 s', .slice bP P'.length dP, .int .i64 v', .slice bR R'.length dR, .slice bK K'.length dK, .slice bV V'.length dV]] w fun e w' => e = .returned (.bool (sameCl ((f, t, s, v), P, R, K, V) ((f', t', s', v'), P', R', K', V'))) ∧ _
  rw [← hE]
  rw [sameCl_parts] at hE
  have HE := Lib.hid hE
  obtain ⟨W0, hW, hN, hM, hB, -⟩ := laid2 w [Value.int .i64 f, .int .i64 t, .int .i64 s, .slice aP P.length cP, .int .i64 v, .slice aR R.length cR, .slice aK K.length cK, .slice aV V.length cV] 28 [Value.int .i64 f', .int .i64 t', .int .i64 s', .slice bP P'.length dP, .int .i64 v', .slice bR R'.length dR, .slice bK K'.length dK, .slice bV V'.length dV] 28
  have HB := Lib.hid hB
  have HX := Lib.hid (hx.keep hB)
  have HY := Lib.hid (hy.keep hB)
  have HN := Lib.hid hN
  have HM := Lib.hid hM
  clear hB hE hx hy
  have x0 := hN.at 0 rfl
  have x1 := hN.at 1 rfl
  have x2 := hN.at 2 rfl
  have x3 := hN.at 3 rfl
  have x4 := hN.at 4 rfl
  have y0 := hM.at 0 rfl
  have y1 := hM.at 1 rfl
  have y2 := hM.at 2 rfl
  have y3 := hM.at 3 rfl
  have y4 := hM.at 4 rfl
  clear hN hM
  by_cases e1 : f = f'
  case neg =>
    have d1 : (f == f') = false := by simpa using e1
    have HF : Hid (E = false) := by show _ = _; rw [HE.out]; simp [e1]
    clear e1 HE HN HM HX HY x1 x2 x3 x4 y1 y2 y3 y4
    go_enter Tryz.func16, Tryz.ntmps16
    go_wp2
    go_ret
    exact ⟨ret_bool HF.out.symm, HB.out⟩
  have d1 : (f == f') = true := by simpa using e1
  by_cases e2 : t = t'
  case neg =>
    have d2 : (t == t') = false := by simpa using e2
    have HF : Hid (E = false) := by show _ = _; rw [HE.out]; simp [e2]
    clear e1 e2 HE HN HM HX HY x2 x3 x4 y2 y3 y4
    go_enter Tryz.func16, Tryz.ntmps16
    go_wp2
    go_ret
    exact ⟨ret_bool HF.out.symm, HB.out⟩
  have d2 : (t == t') = true := by simpa using e2
  by_cases e3 : s = s'
  case neg =>
    have d3 : (s == s') = false := by simpa using e3
    have HF : Hid (E = false) := by show _ = _; rw [HE.out]; simp [e3]
    clear e1 e2 e3 HE HN HM HX HY x3 x4 y3 y4
    go_enter Tryz.func16, Tryz.ntmps16
    go_wp2
    go_ret
    exact ⟨ret_bool HF.out.symm, HB.out⟩
  have d3 : (s == s') = true := by simpa using e3
  have HF : Hid (E = (decide (v = v') && eqOs P P' && sameV R R' K K' V V')) := by show _ = _; rw [HE.out]; simp [e1, e2, e3]
  clear e1 e2 e3 HE
  go_enter Tryz.func16, Tryz.ntmps16
  go_wp2_with fail
  clear hW d1 d2 d3 x0 x1 x2 x3 x4 y0 y1 y2 y3 y4
  have q0 := HX.out.few.1
  simp only at q0
  refine (equalOps_any W0 aP bP cP dP P P' (by unfold maxLen; omega) HX.out.lp HY.out.lp).mono ?_
  rintro e w1 ⟨rfl, hb⟩
  have HB1 := Lib.hid (HB.out.trans (hb.mono HB.out.size))
  have HX1 := Lib.hid (HX.out.keep hb)
  have HY1 := Lib.hid (HY.out.keep hb)
  have hN1 := HN.out.keep hb
  have hM1 := HM.out.keep hb
  clear q0 hb HB HX HY HN HM
  cases hq : eqOs P P'
  · have HG : Hid (E = false) := by show _ = _; rw [HF.out, hq]; simp
    clear hq hN1 hM1 HF HX1 HY1
    go_wp2
    go_ret
    exact ⟨ret_bool HG.out.symm, HB1.out⟩
  have x4 := hN1.at 4 rfl
  have y4 := hM1.at 4 rfl
  by_cases e4 : v = v'
  case neg =>
    have d4 : (v == v') = false := by simpa using e4
    have HG : Hid (E = false) := by show _ = _; rw [HF.out]; simp [e4]
    clear hq hN1 hM1 HF HX1 HY1 e4
    go_wp2
    go_ret
    exact ⟨ret_bool HG.out.symm, HB1.out⟩
  have d4 : (v == v') = true := by simpa using e4
  have HG : Hid (E = sameV R R' K K' V V') := by show _ = _; rw [HF.out, hq]; simp [e4]
  clear hq HF e4
  have x5 := hN1.at 5 rfl
  have x6 := hN1.at 6 rfl
  have x7 := hN1.at 7 rfl
  have y5 := hM1.at 5 rfl
  have y6 := hM1.at 6 rfl
  have y7 := hM1.at 7 rfl
  clear hN1 hM1
  go_wp2_with fail
  clear x5 x6 x7 y5 y6 y7 x4 y4 d4
  have q1 := HX1.out.few
  simp only at q1
  refine (vsame_any w1 aR aK aV bR bK bV cR cK cV dR dK dV R R' K K' V V' (by unfold maxLen; omega) (by unfold maxLen; omega) (by unfold maxLen; omega) HX1.out.lr HX1.out.lk HX1.out.lv HY1.out.lr HY1.out.lk HY1.out.lv).mono ?_
  rintro e w2 ⟨rfl, hb⟩
  have HB2 := Lib.hid (HB1.out.trans (hb.mono HB1.out.size))
  clear q1 hb HB1 HX1 HY1
  go_wp2
  go_ret
  exact ⟨ret_bool HG.out.symm, HB2.out⟩
end Go.Proofs.YtijjiccgpobjmaeGreat

