/- 4 texts of the proof: way.checkOp, checkNews, checkMail. way.checkMail, Check, Same. One element of an own slice set. slices.Clone and slices.Delete at mail. -/
import Derived.Lib.AppendZeros
import Derived.Test.YtljbchkmoekpmadGreatP10
import Derived.Test.YtljbchkmoekpmadGreatP11
import Derived.Test.YtljbchkmoekpmadGreatP08
import Derived.Test.YtljbchkmoekpmadGreatP09
import Derived.Test.YtljbchkmoekpmadGreatP06
import Derived.Test.YtljbchkmoekpmadGreatP05
/- way.checkOp, checkNews, checkMail. -/
namespace Go.Proofs.YtljbchkmoekpmadGreat
open Go.ChangeShapes Go.WideShapes Go.ChangeAt Go.RowKit
open Orangery (Pl Mv Vw Dl Ml noVw noDl noMl noOp checkOp viewME deltaME viewE deltaE orI seeRange seeUse opUse noV noD ml1E)

theorem noV_iff (v : Vw) : noV v = true ↔ v = noVw := by
  obtain ⟨a, b, c⟩ := v
  simp [noV, noVw, and_assoc]
theorem noD_iff (d : Dl) : noD d = true ↔ d = noDl := by
  obtain ⟨a, b, c, e⟩ := d
  simp [noD, noDl, and_assoc]
theorem noView : viewE [] [] [] = 0 := by decide +kernel
theorem noDelta : deltaE [] [] [] [] = 0 := by decide +kernel
/-- what is told of a mail whose kind and client may be, as the program does it -/
theorem ml1_used {x : Mm} (h1 : 1 ≤ x.1.1.1 ∧ x.1.1.1 ≤ 3) (h2 : 0 ≤ x.1.1.2.1 ∧ x.1.1.2.1 ≤ 2) :
    ml1E x.1 = if sameMl x.1 (usedM x).1 = false then 4 else if x.1.1.1 = 1 then (if x.1.2.1.2.1 ≠ x.1.1.2.1 then 4 else checkOp x.1.2.1)
      else if seeRange x.1 = true then orI (viewME x.1.2.2.1) (deltaME x.1.2.2.2) else 3 := by
  obtain ⟨⟨⟨k, u, f, s, t, n, p⟩, o, v, d⟩, r⟩ := x
  simp only at h1 h2
  have hkk : k = 1 ∨ k = 2 ∨ k = 3 := by omega
  rcases hkk with rfl | rfl | rfl
  · have hu : (usedM (((1, u, f, s, t, n, p), o, v, d), r)).1 = ((1, u, 0, 0, 0, 0, 0), o, noVw, noDl) := rfl
    rw [hu]
    have hE : ml1E ((1, u, f, s, t, n, p), o, v, d) = if opUse ((1, u, f, s, t, n, p), o, v, d) = true then checkOp o else 4 := by
      unfold ml1E
      simp only
      rw [if_neg (by omega), if_neg (by omega), if_pos trivial]
    show ml1E ((1, u, f, s, t, n, p), o, v, d) = if _ then 4 else if (1 : Int) = 1 then (if o.2.1 ≠ u then 4 else checkOp o) else _
    rw [hE, if_pos (rfl : (1 : Int) = 1)]
    by_cases hs : ((1, u, f, s, t, n, p), o, v, d) = (((1, u, 0, 0, 0, 0, 0), o, noVw, noDl) : Ml)
    · have hs2 := (sameMl_iff _ _).2 hs
      rw [hs2, if_neg (show ¬ true = false by decide)]
      simp only [Prod.mk.injEq, true_and] at hs
      obtain ⟨⟨rfl, rfl, rfl, rfl, rfl⟩, rfl, rfl⟩ := hs
      by_cases hw : o.2.1 = u
      · have ho : opUse ((1, u, 0, 0, 0, 0, 0), o, noVw, noDl) = true := by unfold opUse; simp [hw, noV, noVw, noD, noDl]
        rw [ho, if_pos rfl, if_neg (by simp [hw])]
      · have ho : opUse ((1, u, 0, 0, 0, 0, 0), o, noVw, noDl) = false := by unfold opUse; simp [hw]
        rw [ho, if_neg (by decide), if_pos hw]
    · rw [if_pos (sameMl_no hs), if_neg]
      intro h
      apply hs
      unfold opUse at h
      simp only [Bool.and_eq_true, decide_eq_true_eq, noV_iff, noD_iff] at h
      obtain ⟨⟨⟨⟨⟨⟨⟨e1, e2⟩, e3⟩, e4⟩, e5⟩, e6⟩, e7⟩, _⟩ := h
      subst e1 e2 e3 e4 e5 e6 e7
      rfl
  · have hu : (usedM (((2, u, f, s, t, n, p), o, v, d), r)).1 = ((2, u, f, s, t, n, 0), noOp, v, noDl) := rfl
    rw [hu]
    have hE : ml1E ((2, u, f, s, t, n, p), o, v, d) = if seeUse ((2, u, f, s, t, n, p), o, v, d) = false then 4 else if seeRange ((2, u, f, s, t, n, p), o, v, d) = false then 3 else viewME v := by
      unfold ml1E
      simp only
      rw [if_neg (by omega), if_neg (by omega), if_neg (by omega)]
      rfl
    show ml1E ((2, u, f, s, t, n, p), o, v, d) = if _ then 4 else if (2 : Int) = 1 then (if o.2.1 ≠ u then 4 else checkOp o) else if seeRange ((2, u, f, s, t, n, p), o, v, d) = true then orI (viewME v) (deltaME d) else 3
    rw [hE, if_neg (show ¬ (2 : Int) = 1 by omega)]
    by_cases hs : ((2, u, f, s, t, n, p), o, v, d) = (((2, u, f, s, t, n, 0), noOp, v, noDl) : Ml)
    · have hs2 := (sameMl_iff _ _).2 hs
      rw [hs2, if_neg (show ¬ true = false by decide)]
      simp only [Prod.mk.injEq, true_and] at hs
      obtain ⟨rfl, rfl, rfl⟩ := hs
      have hsu : seeUse ((2, u, f, s, t, n, 0), noOp, v, noDl) = true := by unfold seeUse; simp [noD, noDl]
      rw [hsu, if_neg (show ¬ true = false by decide)]
      have e : deltaME noDl = 0 := noDelta
      have e2 : orI (viewME v) 0 = viewME v := by
        unfold orI
        split
        · rfl
        · rename_i h
          have h2 : viewME v = 0 := by simpa using h
          rw [h2]
      rw [e, e2]
      cases hr : seeRange ((2, u, f, s, t, n, 0), noOp, v, noDl) <;> simp
    · rw [if_pos (sameMl_no hs), if_pos]
      cases h : seeUse ((2, u, f, s, t, n, p), o, v, d)
      · rfl
      · exfalso
        apply hs
        unfold seeUse at h
        simp only [Bool.and_eq_true, Bool.or_eq_true, decide_eq_true_eq, Bool.not_eq_true', decide_eq_false_iff_not, noV_iff, noD_iff, not_true_eq_false, false_or] at h
        obtain ⟨⟨e1, e2, e3⟩, _⟩ := h
        subst e1 e2 e3
        rfl
  · have hu : (usedM (((3, u, f, s, t, n, p), o, v, d), r)).1 = ((3, u, f, s, t, n, p), noOp, noVw, d) := rfl
    rw [hu]
    have hE : ml1E ((3, u, f, s, t, n, p), o, v, d) = if seeUse ((3, u, f, s, t, n, p), o, v, d) = false then 4 else if seeRange ((3, u, f, s, t, n, p), o, v, d) = false then 3 else deltaME d := by
      unfold ml1E
      simp only
      rw [if_neg (by omega), if_neg (by omega), if_neg (by omega)]
      rfl
    show ml1E ((3, u, f, s, t, n, p), o, v, d) = if _ then 4 else if (3 : Int) = 1 then (if o.2.1 ≠ u then 4 else checkOp o) else if seeRange ((3, u, f, s, t, n, p), o, v, d) = true then orI (viewME v) (deltaME d) else 3
    rw [hE, if_neg (show ¬ (3 : Int) = 1 by omega)]
    by_cases hs : ((3, u, f, s, t, n, p), o, v, d) = (((3, u, f, s, t, n, p), noOp, noVw, d) : Ml)
    · have hs2 := (sameMl_iff _ _).2 hs
      rw [hs2, if_neg (show ¬ true = false by decide)]
      simp only [Prod.mk.injEq, true_and] at hs
      obtain ⟨rfl, rfl, -⟩ := hs
      have hsu : seeUse ((3, u, f, s, t, n, p), noOp, noVw, d) = true := by unfold seeUse; simp [noV, noVw]
      rw [hsu, if_neg (show ¬ true = false by decide)]
      have e : viewME noVw = 0 := noView
      have e2 : orI 0 (deltaME d) = deltaME d := rfl
      rw [e, e2]
      cases hr : seeRange ((3, u, f, s, t, n, p), noOp, noVw, d) <;> simp
    · rw [if_pos (sameMl_no hs), if_pos]
      cases h : seeUse ((3, u, f, s, t, n, p), o, v, d)
      · rfl
      · exfalso
        apply hs
        unfold seeUse at h
        simp only [Bool.and_eq_true, Bool.or_eq_true, decide_eq_true_eq, Bool.not_eq_true', decide_eq_false_iff_not, noV_iff, noD_iff, not_true_eq_false, false_or] at h
        obtain ⟨⟨e1, _⟩, e2⟩ := h
        subst e1 e2
        rfl

set_option maxHeartbeats 1000000 in
set_option maxRecDepth 100000 in
theorem wcheckOp_any (w : World) (x : Mm) : Calls Tryz.prog 115 #[x.val] w fun e w' => e = .returned (.int .i64 (if x.1.2.1.2.1 ≠ x.1.1.2.1 then 4 else checkOp x.1.2.1)) ∧ Below w.heap.size w w' := by
  obtain ⟨E, hE⟩ : ∃ E, E = (if x.1.2.1.2.1 ≠ x.1.1.2.1 then 4 else checkOp x.1.2.1) := ⟨_, rfl⟩
  rw [← hE]
  obtain ⟨cx, hcx⟩ : ∃ c, c = mlC x := ⟨_, rfl⟩
  have HCX : Hid (cx = mlC x) := hcx
  show Calls Tryz.prog _ #[.agg (mlC x).toArray] w _
  rw [← hcx]
  clear hcx
  obtain ⟨W0, hW, hA, hB, -⟩ := laid1 w cx 74
  rw [HCX.out] at hA
  have HB0 := Lib.hid hB
  clear hB
  have x1 := hA.at 1 rfl
  have x7 := hA.at 7 rfl
  have x8 := hA.at 8 rfl
  have x9 := hA.at 9 rfl
  have x10 := hA.at 10 rfl
  have x11 := hA.at 11 rfl
  have x12 := hA.at 12 rfl
  have x13 := hA.at 13 rfl
  clear hA HCX
  by_cases hne : x.1.2.1.2.1 = x.1.1.2.1
  case neg =>
    have d1 : (x.1.2.1.2.1 != x.1.1.2.1) = true := by simpa using hne
    have HE : Hid (E = 4) := by show _ = _; rw [hE]; exact if_pos hne
    clear hne hE
    go_enter Tryz.func115, Tryz.ntmps115
    go_wp2
    go_ret
    exact ⟨ret_int HE.out.symm, HB0.out⟩
  have d1 : (x.1.2.1.2.1 != x.1.1.2.1) = false := by simpa using hne
  have HE : Hid (E = checkOp x.1.2.1) := by show _ = _; rw [hE]; exact if_neg (by simpa using hne)
  clear hne hE
  go_enter Tryz.func115, Tryz.ntmps115
  go_wp2_with fail
  clear hW
  refine (moveCheck_any W0 x.1.2.1).mono ?_
  rintro e w1 ⟨rfl, hb⟩
  have HB1 := Lib.hid (HB0.out.trans (hb.mono HB0.out.size))
  clear hb x1 x7 x8 x9 x10 x11 x12 x13
  go_wp2
  go_ret
  exact ⟨ret_int HE.out.symm, HB1.out⟩

set_option maxHeartbeats 4000000 in
set_option maxRecDepth 100000 in
theorem wcheckNews_any (w : World) (x : Mm) (hx : MlIn w x) : Calls Tryz.prog 116 #[x.val] w fun e w' => e = .returned (.int .i64 (if seeRange x.1 = true then orI (viewME x.1.2.2.1) (deltaME x.1.2.2.2) else 3)) ∧ Below w.heap.size w w' := by
  have HX := Lib.hid hx
  clear hx
  have HSR : Hid (seeRange x.1 = (inB x.1.1.2.2.1 1 50 && inB x.1.1.2.2.2.1 0 30 && inB x.1.1.2.2.2.2.1 0 10000 && inB x.1.1.2.2.2.2.2.1 1 60 && inB x.1.1.2.2.2.2.2.2 0 (x.1.1.2.2.2.2.2.1 - 1))) := by
    show _ = _
    have h1 : decide (0 ≤ x.1.1.2.2.2.2.2.2 ∧ x.1.1.2.2.2.2.2.2 < x.1.1.2.2.2.2.2.1) = decide (0 ≤ x.1.1.2.2.2.2.2.2 ∧ x.1.1.2.2.2.2.2.2 ≤ x.1.1.2.2.2.2.2.1 - 1) := by
      by_cases h : 0 ≤ x.1.1.2.2.2.2.2.2 ∧ x.1.1.2.2.2.2.2.2 < x.1.1.2.2.2.2.2.1
      · rw [decide_eq_true h, decide_eq_true (by omega)]
      · rw [decide_eq_false h, decide_eq_false (by omega)]
    show (_ && decide (0 ≤ x.1.1.2.2.2.2.2.2 ∧ x.1.1.2.2.2.2.2.2 < x.1.1.2.2.2.2.2.1)) = _
    rw [h1]
    rfl
  obtain ⟨E, hE⟩ : ∃ E, E = (if seeRange x.1 = true then orI (viewME x.1.2.2.1) (deltaME x.1.2.2.2) else 3) := ⟨_, rfl⟩
  have H3 : Hid (seeRange x.1 = false → E = 3) := fun h => by rw [hE, h]; rfl
  have H0 : Hid (seeRange x.1 = true → E = orI (viewE x.1.2.2.1.1 x.1.2.2.1.2.1 x.1.2.2.1.2.2) (deltaE x.1.2.2.2.1 x.1.2.2.2.2.1 x.1.2.2.2.2.2.1 x.1.2.2.2.2.2.2)) := fun h => by rw [hE, h]; rfl
  rw [← hE]
  clear hE
  obtain ⟨cx, hcx⟩ : ∃ c, c = mlC x := ⟨_, rfl⟩
  have HCX : Hid (cx = mlC x) := hcx
  show Calls Tryz.prog _ #[.agg (mlC x).toArray] w _
  rw [← hcx]
  clear hcx
  obtain ⟨W0, hW, hA, hB, -⟩ := laid1 w cx 74
  rw [HCX.out] at hA
  have HB0 := Lib.hid hB
  clear hB
  clear HCX
  go_enter Tryz.func116, Tryz.ntmps116
  have x2 := hA.at 2 rfl
  go_wp2_with fail
  clear hW
  refine (wwithin_any W0 x.1.1.2.2.1 1 50).mono ?_
  rintro e w1 ⟨rfl, hb⟩
  have hA := hA.keep hb
  have HB0 := Lib.hid (HB0.out.trans (hb.mono HB0.out.size))
  clear hb x2
  obtain ⟨b0, hb0⟩ : ∃ b : Bool, b = inB x.1.1.2.2.1 1 50 := ⟨_, rfl⟩
  rw [← hb0] at HSR ⊢
  clear hb0
  cases b0
  case false =>
    have HE := Lib.hid (H3.out (by rw [HSR.out]; rfl))
    clear hA
    go_wp2
    go_ret
    exact ⟨ret_int HE.out.symm, HB0.out⟩
  have x3 := hA.at 3 rfl
  go_wp2_with fail
  refine (wwithin_any w1 x.1.1.2.2.2.1 0 30).mono ?_
  rintro e w2 ⟨rfl, hb⟩
  have hA := hA.keep hb
  have HB0 := Lib.hid (HB0.out.trans (hb.mono HB0.out.size))
  clear hb x3
  obtain ⟨b1, hb1⟩ : ∃ b : Bool, b = inB x.1.1.2.2.2.1 0 30 := ⟨_, rfl⟩
  rw [← hb1] at HSR ⊢
  clear hb1
  cases b1
  case false =>
    have HE := Lib.hid (H3.out (by rw [HSR.out]; rfl))
    clear hA
    go_wp2
    go_ret
    exact ⟨ret_int HE.out.symm, HB0.out⟩
  have x4 := hA.at 4 rfl
  go_wp2_with fail
  refine (wwithin_any w2 x.1.1.2.2.2.2.1 0 10000).mono ?_
  rintro e w3 ⟨rfl, hb⟩
  have hA := hA.keep hb
  have HB0 := Lib.hid (HB0.out.trans (hb.mono HB0.out.size))
  clear hb x4
  obtain ⟨b2, hb2⟩ : ∃ b : Bool, b = inB x.1.1.2.2.2.2.1 0 10000 := ⟨_, rfl⟩
  rw [← hb2] at HSR ⊢
  clear hb2
  cases b2
  case false =>
    have HE := Lib.hid (H3.out (by rw [HSR.out]; rfl))
    clear hA
    go_wp2
    go_ret
    exact ⟨ret_int HE.out.symm, HB0.out⟩
  have x5 := hA.at 5 rfl
  go_wp2_with fail
  refine (wwithin_any w3 x.1.1.2.2.2.2.2.1 1 60).mono ?_
  rintro e w4 ⟨rfl, hb⟩
  have hA := hA.keep hb
  have HB0 := Lib.hid (HB0.out.trans (hb.mono HB0.out.size))
  clear hb x5
  obtain ⟨b3, hb3⟩ : ∃ b : Bool, b = inB x.1.1.2.2.2.2.2.1 1 60 := ⟨_, rfl⟩
  have HN6 : Hid (b3 = true → 1 ≤ x.1.1.2.2.2.2.2.1 ∧ x.1.1.2.2.2.2.2.1 ≤ 60) := by intro h; rw [hb3] at h; simpa [inB] using h
  rw [← hb3] at HSR ⊢
  clear hb3
  cases b3
  case false =>
    have HE := Lib.hid (H3.out (by rw [HSR.out]; rfl))
    clear hA
    go_wp2
    go_ret
    exact ⟨ret_int HE.out.symm, HB0.out⟩
  have hn60 := HN6.out rfl
  have hnw : IntKind.i64.wrap (x.1.1.2.2.2.2.2.1 - 1) = x.1.1.2.2.2.2.2.1 - 1 := by rw [IntKind.wrap_i64]; omega
  have hnw2 : wrap64 (x.1.1.2.2.2.2.2.1 - 1) = x.1.1.2.2.2.2.2.1 - 1 := by unfold wrap64; omega
  clear HN6
  have x6 := hA.at 6 rfl
  have x5 := hA.at 5 rfl
  go_wp2_with fail
  refine (wwithin_any w4 x.1.1.2.2.2.2.2.2 0 (x.1.1.2.2.2.2.2.1 - 1)).mono ?_
  rintro e w5 ⟨rfl, hb⟩
  have hA := hA.keep hb
  have HB0 := Lib.hid (HB0.out.trans (hb.mono HB0.out.size))
  clear hb x6 x5
  obtain ⟨b4, hb4⟩ : ∃ b : Bool, b = inB x.1.1.2.2.2.2.2.2 0 (x.1.1.2.2.2.2.2.1 - 1) := ⟨_, rfl⟩
  rw [← hb4] at HSR ⊢
  clear hb4
  cases b4
  case false =>
    have HE := Lib.hid (H3.out (by rw [HSR.out]; rfl))
    clear hA
    go_wp2
    go_ret
    exact ⟨ret_int HE.out.symm, HB0.out⟩
  clear hn60 hnw hnw2
  have HE := Lib.hid (H0.out (by rw [HSR.out]; rfl))
  have HA := Lib.hid hA
  clear H3 H0 HSR hA
  go_upto_region 2 with fail
  refine wp_region_held_drew (S := fun w' => Blk w' w.heap.size (mlC x) ∧ Below w.heap.size w w') (by kernel_rfl) ⟨HA.out.drew, HB0.out.drew⟩ (fun hHeld => ?_)
  refine take_yes 0 34 (v := ?_) rfl rfl (by kernel_rfl) (by kernel_rfl) (by kernel_rfl) (fun _ _ _ h => h) (by rfl) ?_ hHeld ?_
  rotate_left 1
  · (intro w9 hSw; skip; go_simp; try with_reducible rfl)
  simp only [Act.put, List.setIfInBounds_toArray, List.set_cons_succ, List.set_cons_zero]
  refine take_yes 1 35 (v := ?_) rfl rfl (by kernel_rfl) (by kernel_rfl) (by kernel_rfl) (fun _ _ _ h => h) (by rfl) ?_ hHeld ?_
  rotate_left 1
  · (intro w9 hSw; have q1 := hSw.1.at 14 rfl; have q2 := hSw.1.at 15 rfl; have q3 := hSw.1.at 16 rfl; go_simp; try with_reducible rfl)
  simp only [Act.put, List.setIfInBounds_toArray, List.set_cons_succ, List.set_cons_zero]
  refine take_yes 3 37 (v := ?_) rfl rfl (by kernel_rfl) (by kernel_rfl) (by kernel_rfl) (fun _ _ _ h => h) (by rfl) ?_ hHeld ?_
  rotate_left 1
  · (intro w9 hSw; skip; go_simp; try with_reducible rfl)
  simp only [Act.put, List.setIfInBounds_toArray, List.set_cons_succ, List.set_cons_zero]
  refine take_yes 4 38 (v := ?_) rfl rfl (by kernel_rfl) (by kernel_rfl) (by kernel_rfl) (fun _ _ _ h => h) (by rfl) ?_ hHeld ?_
  rotate_left 1
  · (intro w9 hSw; have q1 := hSw.1.at 17 rfl; have q2 := hSw.1.at 18 rfl; have q3 := hSw.1.at 19 rfl; have q4 := hSw.1.at 20 rfl; go_simp; try with_reducible rfl)
  simp only [Act.put, List.setIfInBounds_toArray, List.set_cons_succ, List.set_cons_zero]
  refine wpAnyH_ready (rs := [2]) (by kernel_rfl) (by simp) ?_
  refine AllReadyH.cons rfl (fun KK hKK => ?_) AllReadyH.nil
  go_simp
  refine (vcheck_any w5.drew x.2.1.1.1 x.2.1.2.1.1 x.2.1.2.2.1 x.2.1.1.2 x.2.1.2.1.2 x.2.1.2.2.2 x.1.2.2.1.1 x.1.2.2.1.2.1 x.1.2.2.1.2.2 HX.out.max.1.1 HX.out.max.1.2.1 HX.out.max.1.2.2 HX.out.nils.2 (HX.out.keep hHeld.2).lr (HX.out.keep hHeld.2).lk (HX.out.keep hHeld.2).lv).mono ?_
  rintro e w6 ⟨rfl, hb⟩
  have hHeld2 := hHeld
  refine hKK.out _ _ ⟨hHeld2.1.keep hb, hHeld2.2.trans (hb.mono hHeld2.2.size)⟩ (fun hHeld => ?_)
  clear hKK KK hHeld2 hb
  refine wpAnyH_ready (rs := [5]) (by kernel_rfl) (by simp) ?_
  refine AllReadyH.cons rfl (fun KK hKK => ?_) AllReadyH.nil
  go_simp
  refine (dcheck_any w6 x.2.2.1.1 x.2.2.2.1.1 x.2.2.2.2.1.1 x.2.2.2.2.2.1 x.2.2.1.2 x.2.2.2.1.2 x.2.2.2.2.1.2 x.2.2.2.2.2.2 x.1.2.2.2.1 x.1.2.2.2.2.1 x.1.2.2.2.2.2.1 x.1.2.2.2.2.2.2 HX.out.max.2 (HX.out.keep hHeld.2).lg (HX.out.keep hHeld.2).lh (HX.out.keep hHeld.2).lx (HX.out.keep hHeld.2).ly).mono ?_
  rintro e w7 ⟨rfl, hb⟩
  have hHeld2 := hHeld
  refine hKK.out _ _ ⟨hHeld2.1.keep hb, hHeld2.2.trans (hb.mono hHeld2.2.size)⟩ (fun hHeld => ?_)
  clear hKK KK hHeld2 hb
  generalize viewE x.1.2.2.1.1 x.1.2.2.1.2.1 x.1.2.2.1.2.2 = e1 at *
  generalize deltaE x.1.2.2.2.1 x.1.2.2.2.2.1 x.1.2.2.2.2.2.1 x.1.2.2.2.2.2.2 = e2 at *
  refine wpAnyH_ready (rs := [6]) (by kernel_rfl) (by simp) ?_
  refine AllReadyH.cons rfl (fun KK hKK => ?_) AllReadyH.nil
  go_simp
  have hHeld2 := hHeld
  have hN := Blk.new w7 [Value.int .i64 e1, .int .i64 e2] 38
  refine hKK.out _ _ ⟨hHeld2.1.alloc _, hHeld2.2.alloc hHeld2.2.size _⟩ (fun hHeld => ?_)
  clear hKK KK hHeld2
  have hHN : Hid (Blk (w7.alloc (Obj.cells [Value.int .i64 e1, .int .i64 e2].toArray 38)) w7.heap.size [Value.int .i64 e1, .int .i64 e2]) := hN
  clear hN
  refine wpAnyH_ready (rs := [7]) (by kernel_rfl) (by simp) ?_
  refine AllReadyH.cons rfl (fun KK hKK => ?_) AllReadyH.nil
  go_simp
  refine (orE_any _ w7.heap.size 2 e1 e2 (hHN.out.at 0 rfl) (hHN.out.at 1 rfl)).mono ?_
  rintro e w8 ⟨rfl, hw8⟩
  have hHeld2 := hHeld
  refine hKK.out _ _ (by rw [hw8]; exact hHeld2) (fun hHeld => ?_)
  clear hKK KK hHeld2
  refine take_yes 8 2 (v := ?_) rfl rfl (by kernel_rfl) (by kernel_rfl) (by kernel_rfl) (fun _ _ _ h => h) (by rfl) ?_ hHeld ?_
  rotate_left 1
  · (intro w9 hSw; skip; go_simp; try with_reducible rfl)
  simp only [Act.put, List.setIfInBounds_toArray, List.set_cons_succ, List.set_cons_zero]
  refine wpAnyH_done (by kernel_rfl) ?_ _
  have HB9 := Lib.hid hHeld.2
  clear hHeld hw8 hHN
  generalize orI e1 e2 = e3 at *
  go_wp2
  go_ret
  exact ⟨ret_int HE.out.symm, HB9.out⟩
end Go.Proofs.YtljbchkmoekpmadGreat

/- way.checkMail, Check, Same. -/
namespace Go.Proofs.YtljbchkmoekpmadGreat
open Go.ChangeShapes Go.WideShapes Go.ChangeAt Go.RowKit
open Orangery (Pl Mv Vw Dl Ml noVw noDl noMl noOp checkOp viewME deltaME viewE deltaE orI seeRange ml1E mlsE mlE)

set_option maxHeartbeats 4000000 in
set_option maxRecDepth 100000 in
theorem wcheckMail_any (w : World) (x : Mm) (hx : MlIn w x) : Calls Tryz.prog 80 #[x.val] w fun e w' => e = .returned (.int .i64 (ml1E x.1)) ∧ Below w.heap.size w w' := by
  obtain ⟨E, hE⟩ : ∃ E, E = ml1E x.1 := ⟨_, rfl⟩
  have H4 : Hid (¬ (1 ≤ x.1.1.1 ∧ x.1.1.1 ≤ 3) → E = 4) := fun h => by rw [hE]; unfold ml1E; rw [if_pos h]
  have H5 : Hid ((1 ≤ x.1.1.1 ∧ x.1.1.1 ≤ 3) → ¬ (0 ≤ x.1.1.2.1 ∧ x.1.1.2.1 ≤ 2) → E = 5) := fun h1 h => by rw [hE]; unfold ml1E; rw [if_neg (by simpa using h1), if_pos h]
  have HM : Hid ((1 ≤ x.1.1.1 ∧ x.1.1.1 ≤ 3) → (0 ≤ x.1.1.2.1 ∧ x.1.1.2.1 ≤ 2) → E = if sameMl x.1 (usedM x).1 = false then 4 else if x.1.1.1 = 1 then (if x.1.2.1.2.1 ≠ x.1.1.2.1 then 4 else checkOp x.1.2.1) else if seeRange x.1 = true then orI (viewME x.1.2.2.1) (deltaME x.1.2.2.2) else 3) := fun h1 h2 => by rw [hE]; exact ml1_used h1 h2
  rw [← hE]
  clear hE
  obtain ⟨cx, hcx⟩ : ∃ c, c = mlC x := ⟨_, rfl⟩
  show Calls Tryz.prog _ #[.agg (mlC x).toArray] w _
  rw [← hcx]
  obtain ⟨W0, hW, hA, hB, -⟩ := laid1 w cx 74
  have HAX : Hid (∀ W, Blk W w.heap.size cx → Blk W w.heap.size (mlC x)) := fun W h => by rw [← hcx]; exact h
  have HX := Lib.hid hx
  have HB0 := Lib.hid hB
  have HI1 : Hid ((Tryz.prog.info? 74).map (·.size) = some cx.length) := by show _ = _; rw [hcx]; exact sizeMailC x
  have HCU : Hid ((1 ≤ x.1.1.1 ∧ x.1.1.1 ≤ 3) → ∀ W, Below w.heap.size w W → Calls Tryz.prog 114 #[.agg cx.toArray] W fun e w' => ∃ y : Mm, e = .returned y.val ∧ y = usedM x ∧ MlIn w' y ∧ Below W.heap.size W w') := fun h W hb => by rw [hcx]; exact wused_any W x (hx.keep hb) h
  have HCA : Hid (∀ W (y : Mm), Below w.heap.size w W → MlIn W y → Calls Tryz.prog 82 #[.agg cx.toArray, y.val] W fun e w' => e = .returned (.bool (sameMl x.1 y.1)) ∧ Below W.heap.size W w') := fun W y hb hy => by rw [hcx]; exact walike_any W x y (hx.keep hb) hy
  have HCO : Hid (∀ W, Calls Tryz.prog 115 #[.agg cx.toArray] W fun e w' => e = .returned (.int .i64 (if x.1.2.1.2.1 ≠ x.1.1.2.1 then 4 else checkOp x.1.2.1)) ∧ Below W.heap.size W w') := fun W => by rw [hcx]; exact wcheckOp_any W x
  have HCN : Hid (∀ W, Below w.heap.size w W → Calls Tryz.prog 116 #[.agg cx.toArray] W fun e w' => e = .returned (.int .i64 (if seeRange x.1 = true then orI (viewME x.1.2.2.1) (deltaME x.1.2.2.2) else 3)) ∧ Below W.heap.size W w') := fun W hb => by rw [hcx]; exact wcheckNews_any W x (hx.keep hb)
  have x0 := (HAX.out _ hA).at 0 rfl
  have x1 := (HAX.out _ hA).at 1 rfl
  have HA := Lib.hid hA
  clear hx hB hA hcx
  by_cases hk : 1 ≤ x.1.1.1 ∧ x.1.1.1 ≤ 3
  case neg =>
    have HE := Lib.hid (H4.out hk)
    have d1 : (x.1.1.1 != 1) = true := by simp; omega
    have d2 : (x.1.1.1 != 2) = true := by simp; omega
    have d3 : (x.1.1.1 != 3) = true := by simp; omega
    clear hk H4 H5 HM
    go_enter Tryz.func80, Tryz.ntmps80
    go_wp2
    go_ret
    exact ⟨ret_int HE.out.symm, HB0.out⟩
  have HK := Lib.hid hk
  have hkk : x.1.1.1 = 1 ∨ x.1.1.1 = 2 ∨ x.1.1.1 = 3 := by omega
  have HKK := Lib.hid hkk
  clear hk H4
  go_enter Tryz.func80, Tryz.ntmps80
  go_upto_region 1 with fail
  clear hW
  go_cut [3] from 4 to 16 (fun v wc => v = .bool false ∧ wc = W0)
  case first =>
    rcases HKK.out with h | h | h
    · have d1 : (x.1.1.1 != 1) = false := by simp; omega
      clear h hkk
      go_wp2
      go_meet
      case rel => exact ⟨rfl, rfl⟩
    · have d1 : (x.1.1.1 != 1) = true := by simp; omega
      have d2 : (x.1.1.1 != 2) = false := by simp; omega
      clear h hkk
      go_wp2
      go_meet
      case rel => exact ⟨rfl, rfl⟩
    · have d1 : (x.1.1.1 != 1) = true := by simp; omega
      have d2 : (x.1.1.1 != 2) = true := by simp; omega
      have d3 : (x.1.1.1 != 3) = false := by simp; omega
      clear h hkk
      go_wp2
      go_meet
      case rel => exact ⟨rfl, rfl⟩
  case rest =>
  obtain ⟨rfl, hwc⟩ := hcut
  subst hwc
  clear hkk
  go_wp2_with fail
  refine (wwithin_any wc x.1.1.2.1 0 2).mono ?_
  rintro e w1 ⟨rfl, hb⟩
  have HA1 := Lib.hid (HA.out.keep hb)
  have HB1 := Lib.hid (HB0.out.trans (hb.mono HB0.out.size))
  clear hb HA HB0 x0 x1
  by_cases hu : 0 ≤ x.1.1.2.1 ∧ x.1.1.2.1 ≤ 2
  case neg =>
    have HE := Lib.hid (H5.out HK.out hu)
    have d1 : inB x.1.1.2.1 0 2 = false := by simp [inB]; omega
    rw [d1]
    clear hu d1 H5 HM
    go_wp2
    go_ret
    exact ⟨ret_int HE.out.symm, HB1.out⟩
  have HM1 := Lib.hid (HM.out HK.out hu)
  have d1 : inB x.1.1.2.1 0 2 = true := by simp [inB]; omega
  rw [d1]
  clear hu d1 H5 HM
  go_upto_region 5 with fail
  refine wp_region_held_drew (S := fun w' => Blk w' w.heap.size cx ∧ Below w.heap.size w w') (by kernel_rfl) ⟨HA1.out.drew, HB1.out.drew⟩ (fun hHeld => ?_)
  refine take_load 0 24 74 w.heap.size cx rfl rfl (by kernel_rfl) (by kernel_rfl) (by kernel_rfl) (fun _ _ _ h => h) (by rfl) (by rfl) (by rfl) (fun w hw => hw.1.range) Tryz.underlying74 rfl HI1.out hHeld ?_
  simp only [Act.put, List.setIfInBounds_toArray, List.set_cons_succ, List.set_cons_zero]
  refine take_load 1 25 74 w.heap.size cx rfl rfl (by kernel_rfl) (by kernel_rfl) (by kernel_rfl) (fun _ _ _ h => h) (by rfl) (by rfl) (by rfl) (fun w hw => hw.1.range) Tryz.underlying74 rfl HI1.out hHeld ?_
  simp only [Act.put, List.setIfInBounds_toArray, List.set_cons_succ, List.set_cons_zero]
  refine wpAnyH_ready (rs := [2]) (by kernel_rfl) (by simp) ?_
  refine AllReadyH.cons rfl (fun KK hKK => ?_) AllReadyH.nil
  go_simp
  refine (HCU.out HK.out w1.drew hHeld.2).mono ?_
  rintro e w2 ⟨y, rfl, hy, hyI, hb⟩
  have HY := Lib.hid hy
  have HYI := Lib.hid hyI
  have hHeld2 := hHeld
  refine hKK.out _ _ ⟨hHeld2.1.keep hb, hHeld2.2.trans (hb.mono hHeld2.2.size)⟩ (fun hHeld => ?_)
  clear hKK KK hHeld2 hb hy hyI
  refine wpAnyH_ready (rs := [3]) (by kernel_rfl) (by simp) ?_
  refine AllReadyH.cons rfl (fun KK hKK => ?_) AllReadyH.nil
  go_simp
  refine (HCA.out w2 y hHeld.2 HYI.out).mono ?_
  rintro e w3 ⟨rfl, hb⟩
  have hHeld2 := hHeld
  refine hKK.out _ _ ⟨hHeld2.1.keep hb, hHeld2.2.trans (hb.mono hHeld2.2.size)⟩ (fun hHeld => ?_)
  clear hKK KK hHeld2 hb HYI
  obtain ⟨sm, hsm⟩ : ∃ b : Bool, b = sameMl x.1 y.1 := ⟨_, rfl⟩
  have HSM : Hid (sm = sameMl x.1 (usedM x).1) := by show _ = _; rw [hsm, HY.out]
  rw [← hsm]
  rw [← HSM.out] at HM1
  clear hsm HY HSM
  refine take_yes 4 28 (v := ?_) rfl rfl (by kernel_rfl) (by kernel_rfl) (by kernel_rfl) (fun _ _ _ h => h) (by rfl) ?_ hHeld ?_
  rotate_left 1
  · (intro w9 hSw; go_simp; try with_reducible rfl)
  simp only [Act.put, List.setIfInBounds_toArray, List.set_cons_succ, List.set_cons_zero]
  refine take_yes 5 23 (v := ?_) rfl rfl (by kernel_rfl) (by kernel_rfl) (by kernel_rfl) (fun _ _ _ h => h) (by rfl) ?_ hHeld ?_
  rotate_left 1
  · (intro w9 hSw; go_simp; try with_reducible rfl)
  simp only [Act.put, List.setIfInBounds_toArray, List.set_cons_succ, List.set_cons_zero]
  refine wpAnyH_done (by kernel_rfl) ?_ _
  have HA3 := Lib.hid hHeld.1
  have HB3 := Lib.hid hHeld.2
  have x0 := (HAX.out _ hHeld.1).at 0 rfl
  clear hHeld
  cases sm
  case false =>
    have HE : Hid (E = 4) := HM1.out
    clear HM1
    go_wp2
    go_ret
    exact ⟨ret_int HE.out.symm, HB3.out⟩
  have HR3 := Lib.hid HA3.out.range
  by_cases h1 : x.1.1.1 = 1
  · have d1 : (x.1.1.1 == 1) = true := by simpa using h1
    have HE : Hid (E = if x.1.2.1.2.1 ≠ x.1.1.2.1 then 4 else checkOp x.1.2.1) := by show _ = _; rw [HM1.out, if_neg (by decide), if_pos h1]
    clear h1 HM1
    go_wp2_with (first | (refine wpList_load_mid rfl 74 _ rfl w.heap.size 0 rfl cx _ HR3.out Tryz.underlying74 rfl HI1.out ?_) | fail)
    refine (HCO.out w3).mono ?_
    rintro e w4 ⟨rfl, hb⟩
    have HB4 := Lib.hid (HB3.out.trans (hb.mono HB3.out.size))
    clear hb HB3 HA3 HR3 x0
    rw [← HE.out]
    go_wp2
    go_ret
    exact ⟨rfl, HB4.out⟩
  · have d1 : (x.1.1.1 == 1) = false := by simpa using h1
    have HE : Hid (E = if seeRange x.1 = true then orI (viewME x.1.2.2.1) (deltaME x.1.2.2.2) else 3) := by show _ = _; rw [HM1.out, if_neg (by decide), if_neg h1]
    clear h1 HM1
    go_wp2_with (first | (refine wpList_load_mid rfl 74 _ rfl w.heap.size 0 rfl cx _ HR3.out Tryz.underlying74 rfl HI1.out ?_) | fail)
    refine (HCN.out w3 HB3.out).mono ?_
    rintro e w4 ⟨rfl, hb⟩
    have HB4 := Lib.hid (HB3.out.trans (hb.mono HB3.out.size))
    clear hb HB3 HA3 HR3 x0
    rw [← HE.out]
    go_wp2
    go_ret
    exact ⟨rfl, HB4.out⟩

theorem mlsE_first' {l : List Ml} {k : Nat} (hk : k < l.length) (h1 : ∀ j, (hj : j < l.length) → j < k → ml1E l[j] = 0) (h2 : ml1E l[k] ≠ 0) : mlsE l = ml1E l[k] := by
  induction l generalizing k with
  | nil => simp at hk
  | cons x l ih =>
    cases k with
    | zero => show (if ml1E x ≠ 0 then ml1E x else mlsE l) = ml1E x; exact if_pos h2
    | succ k =>
      have h0 : ml1E x = 0 := h1 0 (by simp) (by omega)
      show (if ml1E x ≠ 0 then ml1E x else mlsE l) = _
      rw [if_neg (by simp [h0])]
      exact ih (by simpa using hk) (fun j hj hjk => h1 (j + 1) (by simpa using hj) (by omega)) h2
theorem mlsE_none' {l : List Ml} (h1 : ∀ j, (hj : j < l.length) → ml1E l[j] = 0) : mlsE l = 0 := by
  induction l with
  | nil => rfl
  | cons x l ih =>
    show (if ml1E x ≠ 0 then ml1E x else mlsE l) = 0
    have h0 : ml1E x = 0 := h1 0 (by simp)
    rw [if_neg (by simp [h0])]
    exact ih (fun j hj => h1 (j + 1) (by simpa using hj))

set_option maxHeartbeats 4000000 in
set_option maxRecDepth 100000 in
theorem wCheck_any (w : World) (a : Option Addr) (c : Nat) (X : List Mm) (l : List Ml) (hl : X.map (·.1) = l) (hm : X.length ≤ maxLen) (hX : SlM w a X) :
    Calls Tryz.prog 33 #[.slice a X.length c] w fun e w' => e = .returned (.int .i64 (mlE l)) ∧ Below w.heap.size w w' := by
  have hm' : X.length ≤ 9223372036854775807 := hm
  have HX := Lib.hid hX
  have HLL : Hid (X.length = l.length) := by show _ = _; rw [← hl]; simp
  have HAT : Hid (∀ k, (hk : k < X.length) → ∃ h : k < l.length, l[k] = X[k].1) := fun k hk => by subst hl; exact ⟨by simpa using hk, by simp⟩
  clear hX hl hm
  by_cases hbig : 30 < X.length
  · have HE : Hid (mlE l = 2) := by show _ = _; unfold mlE; rw [if_pos (by have := HLL.out; omega)]
    have d1 : decide ((X.length : Int) > 30) = true := by simp; omega
    go_enter Tryz.func33, Tryz.ntmps33
    go_wp2
    go_ret
    exact ⟨ret_int HE.out.symm, Below.refl _ _⟩
  have HE0 : Hid (mlE l = mlsE l) := by show _ = _; unfold mlE; rw [if_neg (by have := HLL.out; omega)]
  have d1 : decide ((X.length : Int) > 30) = false := by simp; omega
  clear hbig
  go_enter Tryz.func33, Tryz.ntmps33
  go_wp2
  clear d1
  go_loopw [11] (fun i W => ∃ k : Nat, k ≤ X.length ∧ i = .int .i64 k ∧ (∀ j, (hj : j < l.length) → j < k → ml1E l[j] = 0) ∧ Below w.heap.size w W) (fun i _ => X.length - (intOf i).toNat)
  case atStart => exact ⟨0, Nat.zero_le _, rfl, fun j _ hj => absurd hj (Nat.not_lt_zero _), Below.refl _ _⟩
  case round =>
    obtain ⟨j, hj, rfl, hno, hb⟩ := hrel
    have HNO := Lib.hid hno
    have HBr := Lib.hid hb
    clear hno hb
    by_cases hlt : j < X.length
    case neg =>
      have HE : Hid (mlE l = 0) := by show _ = _; rw [HE0.out]; exact mlsE_none' (fun i hi => HNO.out i hi (by have := HLL.out; omega))
      clear HNO HE0
      go_wp2
      go_ret
      exact ⟨ret_int HE.out.symm, HBr.out⟩
    have hXr := HX.out.keep HBr.out
    obtain ⟨hp, hpe⟩ := HAT.out j hlt
    obtain ⟨bx, ox, rfl, hbx, hrx⟩ := hXr.reads.at mlC_len j hlt
    have hxi := hXr.each _ (List.getElem_mem hlt)
    have HFI : Hid (ml1E X[j].1 ≠ 0 → mlE l = ml1E X[j].1) := by
      intro he
      rw [← hpe] at he ⊢
      rw [HE0.out]
      exact mlsE_first' hp HNO.out he
    have HNX : Hid (ml1E X[j].1 = 0 → ∀ i, (hi : i < l.length) → i < j + 1 → ml1E l[i] = 0) := by
      intro e i hi hij
      by_cases hij' : i < j
      · exact HNO.out i hi hij'
      · have : i = j := by omega
        subst this
        rw [← hpe] at e
        exact e
    have HRG : Hid (wr.rangeAt bx (ox + j * 21) (mlC X[j])) := hrx
    have HXI := Lib.hid hxi
    clear hrx hXr hpe HNO HE0 hxi
    have hlti : (j : Int) < (X.length : Int) := by omega
    obtain ⟨x, hx⟩ : ∃ x, x = X[j] := ⟨_, rfl⟩
    rw [← hx] at HFI HNX HRG HXI
    clear hx
    have HCL : Hid (∀ W', Below wr.heap.size wr W' → Calls Tryz.prog 80 #[.agg (mlC x).toArray] W' fun e w' => e = .returned (.int .i64 (ml1E x.1)) ∧ Below W'.heap.size W' w') := fun W' hb => wcheckMail_any W' x (HXI.out.keep hb)
    have HI1 := Lib.hid (sizeMailC x)
    have HS1 : Hid ((Tryz.prog.info? 74).map (·.size) = some (mlC x).toArray.size) := sizeMail
    have HO1 : Hid ((mlC x).toArray.all (·.oneCell') = true) := all_oneCell_toArray (mlC_one x)
    have hl1 : zeroMail.length = 21 := rfl
    have hl2 := mlC_len x
    have HZZ : Hid (zeroMail.toArray = #[Value.int .i64 0, .int .i64 0, .int .i64 0, .int .i64 0, .int .i64 0, .int .i64 0, .int .i64 0, .int .i64 0, .int .i64 0, .int .i64 0, .int .i64 0, .int .i64 0, .int .i64 0, .int .i64 0, .slice none 0 0, .slice none 0 0, .slice none 0 0, .slice none 0 0, .slice none 0 0, .slice none 0 0, .slice none 0 0]) := rfl
    generalize mlC x = cx at *
    generalize zeroMail = zc at *
    have hN1 := Blk.new wr zc 74
    have hB1 := Go.Joins.below_alloc1 wr (Obj.cells zc.toArray 74)
    have HT1 : Hid ((wr.alloc (Obj.cells zc.toArray 74)).there wr.heap.size 0 cx.toArray.size) := by show World.there _ _ _ _; have := hN1.there; rw [hl1] at this; simpa [hl2] using this
    have hN2 := hN1.sets cx (by rw [hl1, hl2])
    have hB2 : Below wr.heap.size wr ((wr.alloc (Obj.cells zc.toArray 74)).setCells wr.heap.size 0 cx) := below_sets hB1 wr.heap.size (Nat.le_refl _) cx 0
    rw [HZZ.out] at HT1 hN2 hB2
    have HRG2 := Lib.hid hN2.range
    have HB2 := Lib.hid hB2
    clear hN1 hB1 HZZ hl1 hl2 hN2 hB2
    go_wp2_with (first | (refine wpList_load_mid rfl 74 _ rfl bx (ox + j * 21) rfl cx _ HRG.out Tryz.underlying74 rfl HI1.out ?_) | (with_reducible refine at_store 74 ?_; refine wpList_store_mid rfl 74 _ _ rfl wr.heap.size 0 cx.toArray rfl rfl HT1.out HS1.out HO1.out ?_) | (refine wpList_load_mid rfl 74 _ rfl wr.heap.size 0 rfl cx _ HRG2.out Tryz.underlying74 rfl HI1.out ?_) | fail)
    clear HT1 HS1 HO1 HI1 HRG HRG2
    refine (HCL.out _ HB2.out).mono ?_
    rintro e w4 ⟨rfl, hb4⟩
    have HB4 : Hid (Below w.heap.size w w4) := HBr.out.trans ((HB2.out.trans (hb4.mono HB2.out.size)).mono HBr.out.size)
    clear hb4 HB2 HXI HCL
    by_cases hz : ml1E x.1 = 0
    · have HN9 := Lib.hid (HNX.out hz)
      rw [hz]
      clear hz HFI HNX
      go_wp2
      go_roundw
      case rel => exact ⟨j + 1, hlt, by go_num, HN9.out, HB4.out⟩
      case measure => simp [intOf]; omega
    · have HE := Lib.hid (HFI.out hz)
      have dz : (ml1E x.1 != 0) = true := by simpa using hz
      clear hz HFI HNX
      generalize ml1E x.1 = ez at *
      go_wp2
      go_ret
      exact ⟨ret_int HE.out.symm, HB4.out⟩

theorem enters_walike : ∀ args w, (callFunc 82 args).run Tryz.prog w = .ok (.enter 82 args) w := Go.Proofs.enters_of Tryz.func82 (by kernel_rfl) rfl
theorem wSame_any (w : World) (a a' : Option Addr) (c c' : Nat) (X Y : List Mm) (hl : X.length ≤ maxLen) (hx : SlM w a X) (hy : SlM w a' Y) :
    Calls Tryz.prog 34 #[.slice a X.length c, .slice a' Y.length c'] w fun e w' => e = .returned (.bool (eqMs X Y)) ∧ Below w.heap.size w w' := by
  have HC := Lib.hid (eqFuncM_any w a a' c c' X Y 82 hl hx hy enters_walike (fun W x y h1 h2 => walike_any W x y h1 h2))
  clear hx hy
  go_enter Tryz.func34, Tryz.ntmps34
  go_wp2_with fail
  refine HC.out.mono ?_
  rintro e w1 ⟨rfl, hb⟩
  have HB := Lib.hid hb
  clear hb HC
  go_wp2
  go_ret
  exact ⟨rfl, HB.out⟩
end Go.Proofs.YtljbchkmoekpmadGreat

/- One element of an own slice set. -/
namespace Go.Proofs.YtljbchkmoekpmadGreat
open Go.ChangeShapes Go.WideShapes Go.ChangeAt Go.RowKit

theorem there_block {w : World} {g : Nat} {t : TypeId} {cur : Array Value} (h : w.heap[g]? = some (.cells cur t (0, 0))) (o n : Nat) (hl : o + n ≤ cur.size) : w.there g o n := by
  intro j hj
  refine ⟨?_, Go.Joins.unfrozen_of_block h _⟩
  rw [Go.Joins.cell_of_block h, Array.getElem?_eq_getElem (by omega)]
  rfl

/-- cells set in a block, and the block as a whole -/
theorem setCells_whole (g : Nat) (t : TypeId) : ∀ (vs : List Value) (o : Nat) (w : World) (cur : Array Value), w.heap[g]? = some (.cells cur t (0, 0)) → o + vs.length ≤ cur.size →
    ∃ cur', (w.setCells g o vs).heap[g]? = some (.cells cur' t (0, 0)) ∧ cur'.toList = cur.toList.take o ++ vs ++ cur.toList.drop (o + vs.length)
  | [], o, w, cur, h, _ => ⟨cur, h, by simp⟩
  | v :: r, o, w, cur, h, hl => by
    have hs := heap_setCell_same w g o cur t v h
    have hlo : o < cur.toList.length := by simp at hl ⊢; omega
    obtain ⟨cur', h1, h2⟩ := setCells_whole g t r (o + 1) (w.setCell ⟨g, o, none⟩ v) (cur.setIfInBounds o v) hs (by simp at hl ⊢; omega)
    refine ⟨cur', h1, ?_⟩
    rw [h2, Array.toList_setIfInBounds]
    have e2 : (cur.toList.set o v).take (o + 1) = cur.toList.take o ++ [v] := by
      rw [List.take_succ_eq_append_getElem (by simpa using hlo), List.take_set_of_le (Nat.le_refl _)]
      simp
    have e3 : (cur.toList.set o v).drop (o + 1 + r.length) = cur.toList.drop (o + (v :: r).length) := by
      rw [List.drop_set_of_lt (by omega)]
      congr 1
      simp
      omega
    rw [e2, e3]
    simp

theorem flat_set {α : Type} {enc : α → List Value} {k : Nat} (hk : ∀ x, (enc x).length = k) (x : α) : ∀ (l : List α) (i : Nat), i < l.length →
    (l.set i x).flatMap enc = (l.flatMap enc).take (i * k) ++ enc x ++ (l.flatMap enc).drop (i * k + k)
  | [], i, h => by simp at h
  | y :: l, 0, _ => by
    have e : (enc y).length = k := hk y
    simp [List.flatMap_cons, ← e]
  | y :: l, i + 1, h => by
    have e : (enc y).length = k := hk y
    have ih := flat_set hk x l i (by simpa using h)
    simp only [List.set_cons_succ, List.flatMap_cons]
    rw [ih]
    have e1 : (i + 1) * k = (enc y).length + i * k := by rw [e, Nat.succ_mul]; omega
    have e3 : (enc y).length + i * k + k = (enc y).length + (i * k + k) := by omega
    rw [e1, e3, List.take_length_add_append, List.drop_length_add_append]
    simp only [List.append_assoc]

/-- one element of an own slice set -/
theorem OwnE.set {α : Type} {enc : α → List Value} {k : Nat} (hk : ∀ x, (enc x).length = k) {e : TypeId} {w : World} {base g cap : Nat} {l : List α} (h : OwnE enc k e w base (.slice (some ⟨g, 0, none⟩) l.length cap) l) (i : Nat) (hi : i < l.length) (x : α) :
    OwnE enc k e (w.setCells g (i * k) (enc x)) base (.slice (some ⟨g, 0, none⟩) (l.set i x).length cap) (l.set i x) := by
  refine ⟨flatE_len hk _, ?_⟩
  rcases h.2 with ⟨h', _⟩ | ⟨g', cap', cur, h', hb, hg, hn, hm, hs, ht⟩
  · simp at h'
  · obtain ⟨rfl, rfl⟩ : g = g' ∧ cap = cap' := by simpa using h'
    have hle : i * k + k ≤ l.length * k := by
      have := Nat.mul_le_mul_right k (Nat.succ_le_of_lt hi)
      rw [Nat.succ_mul] at this
      exact this
    have hle2 : l.length * k ≤ cap * k := Nat.mul_le_mul_right k hn
    obtain ⟨cur', h1, h2⟩ := setCells_whole g e (enc x) (i * k) w cur hg (by rw [hk]; omega)
    rw [hk] at h2
    have hsz : cur'.size = cap * k := by
      have := congrArg List.length h2
      simp [hk] at this
      omega
    refine Or.inr ⟨g, cap, cur', rfl, hb, h1, by simpa using hn, hm, hsz, ?_⟩
    rw [List.length_set, flat_set hk x l i hi, ← ht, h2]
    have hcl : cur.toList.length = cap * k := by simpa using hs
    apply List.ext_getElem?
    intro p
    simp only [List.getElem?_take, List.getElem?_append, List.getElem?_drop, List.length_append, List.length_take, hk, hcl]
    grind

theorem OwnE.lt {α : Type} {enc : α → List Value} {k : Nat} {e : TypeId} {w : World} {base : Nat} {v : Value} {l : List α} (h : OwnE enc k e w base v l) : ∀ g, v.ownBlock = some g → base ≤ g ∧ g < w.heap.size := fun g hg => h.row.lt g hg
theorem OwnE.there {α : Type} {enc : α → List Value} {k : Nat} {e : TypeId} {w : World} {base g cap : Nat} {l : List α} (h : OwnE enc k e w base (.slice (some ⟨g, 0, none⟩) l.length cap) l) (i : Nat) (hi : i < l.length) : w.there g (i * k) k := by
  rcases h.2 with ⟨h', _⟩ | ⟨g', cap', cur, h', hb, hg, hn, hm, hs, ht⟩
  · simp at h'
  · obtain ⟨rfl, rfl⟩ : g = g' ∧ cap = cap' := by simpa using h'
    have hle : i * k + k ≤ l.length * k := by
      have := Nat.mul_le_mul_right k (Nat.succ_le_of_lt hi)
      rw [Nat.succ_mul] at this
      exact this
    have hle2 : l.length * k ≤ cap * k := Nat.mul_le_mul_right k hn
    exact there_block hg _ _ (by omega)
end Go.Proofs.YtljbchkmoekpmadGreat

/- slices.Clone and slices.Delete at mail. -/
namespace Go.Proofs.YtljbchkmoekpmadGreat
open Go.ChangeShapes Go.WideShapes Go.ChangeAt Go.RowKit
open Orangery (Pl Mv Vw Dl Ml noVw noDl noMl)

theorem infoMail : (Tryz.prog.info? 74).map (fun i => (i.zero, i.size, i.bytes)) = some (some (.agg zeroMail.toArray), 21, 280) := by kernel_rfl
set_option maxHeartbeats 2000000 in
theorem cloneMails_any (w : World) (a : Option Addr) (c : Nat) (l : List Mm) (hl : l.length ≤ 1000) (h : SlE mlC w a l) :
    Calls Tryz.prog 36 #[.slice a l.length c] w
      fun e w' => ∃ v, e = .returned v ∧ OwnE mlC 21 74 w' w.heap.size v l ∧ Below w.heap.size w w' := by
  obtain ⟨i0, hi, hz0, hz1, hz2⟩ := info_parts infoMail
  have hq := fun (W : World) (a : Option Addr) (n c : Nat) => Lib.run_eql_slice_nil (P := Tryz.prog) W 70 74 a n c 0 0 Tryz.underlying70
  cases a with
  | none =>
    have hl0 : l = [] := by
      rcases h with h | ⟨b, off, h, _⟩
      · exact h
      · simp at h
    subst hl0
    go_enter Tryz.func36, Tryz.ntmps36
    go_wp2
    go_ret
    exact ⟨_, rfl, OwnE.nil _ _, Below.refl _ _⟩
  | some ad =>
    have hB := Go.Joins.below_alloc1 w (Obj.cells #[] 74)
    have hP := h.below hB
    have hown : (w.alloc (Obj.cells #[] 74)).ownsRow w.heap.size 74 21 (.slice (some ⟨w.heap.size, 0, none⟩) 0 0) 0 [] :=
      ⟨rfl, Or.inr ⟨w.heap.size, 0, #[], rfl, Nat.le_refl _, blk_new rfl, Nat.le_refl _, by unfold maxLen; omega, rfl, rfl⟩⟩
    have hnews : ∀ j u, (l.flatMap mlC)[j]? = some u → (w.alloc (Obj.cells #[] 74)).cell? (ad.add j) = some u := by
      rcases hP with hP | ⟨b, off, ha, _, hp⟩
      · intro j u hj; subst hP; simp at hj
      · simp at ha
        subst ha
        intro j u hj
        rw [Addr.add_mid]
        exact hp j u hj
    have HN : Hid (∀ j u, (l.flatMap mlC)[j]? = some u → (w.alloc (Obj.cells #[] 74)).cell? (ad.add j) = some u) := hnews
    have HLN : Hid ((l.flatMap mlC).length = l.length * 21) := flatE_len mlC_len l
    have HON : Hid (∀ v ∈ l.flatMap mlC, v.oneCell' = true) := flat_oneE mlC_one l
    clear hP h hnews
    obtain ⟨cs, hcs⟩ : ∃ cs, cs = l.flatMap mlC := ⟨_, rfl⟩
    rw [← hcs] at HN HLN HON
    go_enter Tryz.func36, Tryz.ntmps36
    go_wp2_with (at_builtin; refine wpList_append_own _ rfl _ _ 70 rfl w.heap.size 74 i0 _ 21 280 Tryz.underlying70 hi hz0 hz1 hz2 rfl (by decide) _ _ _ rfl hown ad l.length c cs rfl HLN.out ?c1 ?c2 ?c3 ?c4 ?c5 ?_)
    case c1 => exact HN.out
    case c2 => exact HON.out
    case c3 => unfold maxLen; omega
    case c4 => omega
    case c5 => exact hB.size
    · intro v' w1 hown' hgrow _
      have hb1 := hB.trans (below_grown hown hB.size hgrow)
      have hO : OwnE mlC 21 74 w1 w.heap.size v' l := hown'
      clear hgrow hown hown'
      go_wp2
      go_ret
      exact ⟨_, rfl, hO, hb1⟩

/-- a row in place: the block, what it holds -/
structure InRow (w : World) (base g cap : Nat) (cs : List Value) (m : Nat) : Prop where
  low : base ≤ g
  room : m ≤ cap
  few : cap ≤ maxLen
  row : ∃ cur, w.heap[g]? = some (.cells cur 74 (0, 0)) ∧ cur.size = cap * 21 ∧ cur.toList.take (m * 21) = cs
theorem InRow.own {w : World} {base g cap m : Nat} {Y : List Mm} (h : InRow w base g cap (Y.flatMap mlC) m) (hm : Y.length = m) : OwnE mlC 21 74 w base (.slice (some ⟨g, 0, none⟩) m cap) Y := by
  obtain ⟨cur, h1, h2, h3⟩ := h.row
  subst hm
  exact ⟨flatE_len mlC_len Y, Or.inr ⟨g, cap, cur, rfl, h.low, h1, h.room, h.few, h2, h3⟩⟩
theorem OwnE.inRow {w : World} {base g cap m : Nat} {Y : List Mm} (h : OwnE mlC 21 74 w base (.slice (some ⟨g, 0, none⟩) m cap) Y) (hm : Y.length = m) : InRow w base g cap (Y.flatMap mlC) m := by
  subst hm
  rcases h.2 with ⟨h', _⟩ | ⟨g', cap', cur, h', hb, hg, hn, hmx, hs, ht⟩
  · simp at h'
  · obtain ⟨rfl, rfl⟩ : g = g' ∧ cap = cap' := by simpa using h'
    exact ⟨hb, hn, hmx, cur, hg, hs, ht⟩

theorem take_flat (l : List Mm) (k : Nat) : (l.flatMap mlC).take (k * 21) = (l.take k).flatMap mlC := by
  induction l generalizing k with
  | nil => simp
  | cons x l ih =>
    cases k with
    | zero => simp
    | succ k =>
      simp only [List.flatMap_cons, List.take_succ_cons]
      rw [show (k + 1) * 21 = (mlC x).length + k * 21 by rw [mlC_len]; omega, List.take_length_add_append, ih]
theorem drop_flat (l : List Mm) (k : Nat) : (l.flatMap mlC).drop (k * 21) = (l.drop k).flatMap mlC := by
  induction l generalizing k with
  | nil => simp
  | cons x l ih =>
    cases k with
    | zero => simp
    | succ k =>
      simp only [List.flatMap_cons, List.drop_succ_cons]
      rw [show (k + 1) * 21 = (mlC x).length + k * 21 by rw [mlC_len]; omega, List.drop_length_add_append, ih]
/-- the end of a row moved down over one of it -/
theorem app_down (W : World) (base g cap m k ty : Nat) (Y : List Mm) (hY : Y.length = m + 1) (hk : k ≤ m) (h : InRow W base g cap (Y.flatMap mlC) (m + 1)) (ad : Addr) (hA : ad = ⟨g, (k + 1) * 21, none⟩ ∨ k = m) :
    ∃ W1, (∀ c, (Builtin.append_ #[70, 70] ty #[.slice (some ⟨g, 0, none⟩) k cap, .slice (some ad) (m - k) c]).run Tryz.prog W = .ok (.slice (some ⟨g, 0, none⟩) m cap) W1) ∧
      InRow W1 base g cap ((Y.take k ++ Y.drop (k + 1)).flatMap mlC) m ∧ W.grownBy W1 (some g) ∧ Below base W W1 := by
  obtain ⟨i0, hi, hz0, hz1, hz2⟩ := info_parts infoMail
  obtain ⟨cur, hg, hs, ht⟩ := h.row
  have hroom := h.room
  have hflat : ((Y.drop (k + 1)).flatMap mlC).length = (m - k) * 21 := by rw [flatE_len mlC_len]; simp; omega
  have hcl : cur.toList.length = cap * 21 := by simpa using hs
  have hsz : (Y.flatMap mlC).length = (m + 1) * 21 := by rw [flatE_len mlC_len, hY]
  have hnews : ∀ j u, ((Y.drop (k + 1)).flatMap mlC)[j]? = some u → W.cell? (ad.add j) = some u := by
    rcases hA with rfl | rfl
    · intro j u hj
      rw [Addr.add_mid, Go.Joins.cell_of_block hg]
      rw [← drop_flat, List.getElem?_drop, ← ht, List.getElem?_take] at hj
      split at hj
      · simpa using hj
      · simp at hj
    · intro j u hj
      rw [List.drop_of_length_le (by omega)] at hj
      simp at hj
  have hr := fun c => run_append_room (P := Tryz.prog) W 70 ty 74 i0 Tryz.underlying70 hi g k cap cur hg ad (m - k) c ((Y.drop (k + 1)).flatMap mlC) (by rw [hz1]; exact hflat) hnews (flat_oneE mlC_one _) (by omega) (by rw [hz1, hflat, hs]; omega)
  simp only [show k + (m - k) = m by omega] at hr
  refine ⟨_, hr, ⟨h.low, by omega, h.few, _, setRow_heap W g cur _ 74 (0, 0) hg, ?_, ?_⟩, ⟨rfl, rfl, rfl, by simp, fun j _ hj => setRow_other W g j _ (fun e => hj (by rw [e]))⟩, ⟨rfl, rfl, rfl, by simp, fun j hj => setRow_other W g j _ (by have := h.low; omega)⟩⟩
  · simp only [List.size_toArray, List.length_append, List.length_take, List.length_drop, hcl, hflat, hz1]
    omega
  · rw [hz1]
    have e1 : cur.toList.take (k * 21) = (Y.take k).flatMap mlC := by
      rw [← take_flat, ← ht, List.take_take, Nat.min_eq_left (by omega)]
    rw [e1, List.flatMap_append]
    have e2 : ((Y.take k).flatMap mlC ++ (Y.drop (k + 1)).flatMap mlC).length = m * 21 := by
      rw [List.length_append, hflat, flatE_len mlC_len]
      simp
      omega
    rw [← e2]
    exact List.take_left
theorem zeroMails (n : Nat) : ∀ v ∈ (Builtin.zeroCells zeroMail.toArray n).toList, v.oneCell' = true := by
  intro v hv
  rw [Builtin.zeroCells, Array.toList_map, List.mem_map] at hv
  obtain ⟨a, _, rfl⟩ := hv
  have hlt : a % 21 < 21 := Nat.mod_lt _ (by decide)
  have key : ∀ j : Fin 21, (zeroMail[j.val]'(by show j.val < 21; exact j.2)).oneCell' = true := by decide
  have h1 := key ⟨a % 21, hlt⟩
  have h2 : zeroMail.toArray[a % zeroMail.toArray.size]! = zeroMail[a % 21]'(by show a % 21 < 21; exact hlt) := by
    show zeroMail.toArray[a % 21]! = _
    rw [getElem!_pos zeroMail.toArray (a % 21) (by show a % 21 < 21; exact hlt)]
    rfl
  rw [h2]
  exact h1
/-- 'clear' of the cell behind -/
theorem clear_end (W : World) (base g cap m c ty : Nat) (cs : List Value) (h : InRow W base g cap cs m) (hm : m + 1 ≤ cap) :
    ∃ W1, (Builtin.clear_ #[70] ty #[.slice (some ⟨g, m * 21, none⟩) 1 c]).run Tryz.prog W = .ok (.tuple #[]) W1 ∧ InRow W1 base g cap cs m ∧ W.grownBy W1 (some g) ∧ Below base W W1 := by
  obtain ⟨cur, hg, hs, ht⟩ := h.row
  have hcl : cur.toList.length = cap * 21 := by simpa using hs
  have hlen : (Builtin.zeroCells zeroMail.toArray 1).toList.length = 21 := by rw [Array.length_toList, size_zeroCells]; rfl
  have hst := run_storeCells_at Tryz.prog g (m * 21) 74 (Builtin.zeroCells zeroMail.toArray 1).toList 0 cur W hg (by rw [hlen]; omega) (zeroMails 1)
  simp only [Nat.add_zero] at hst
  have hz := Tryz.zeroValue74
  have key : (Builtin.clear_ #[70] ty #[.slice (some ⟨g, m * 21, none⟩) 1 c]).run Tryz.prog W = .ok (.tuple #[]) (W.setRow g (cur.toList.take (m * 21) ++ (Builtin.zeroCells zeroMail.toArray 1).toList ++ cur.toList.drop (m * 21 + (Builtin.zeroCells zeroMail.toArray 1).toList.length)).toArray) := by
    simp only [zeroMail] at hst ⊢
    simp [Builtin.clear_, run_underlying Tryz.underlying70, hz, Value.cells, hst]
  refine ⟨_, key, ⟨h.low, h.room, h.few, _, setRow_heap W g cur _ 74 (0, 0) hg, ?_, ?_⟩, ⟨rfl, rfl, rfl, by simp, fun j _ hj => setRow_other W g j _ (fun e => hj (by rw [e]))⟩, ⟨rfl, rfl, rfl, by simp, fun j hj => setRow_other W g j _ (by have := h.low; omega)⟩⟩
  · simp only [List.size_toArray, List.length_append, List.length_take, List.length_drop, hcl, hlen]
    omega
  · rw [List.append_assoc, List.take_append_of_le_length (by simp [hcl]; omega), List.take_take, Nat.min_self, ht]
end Go.Proofs.YtljbchkmoekpmadGreat

