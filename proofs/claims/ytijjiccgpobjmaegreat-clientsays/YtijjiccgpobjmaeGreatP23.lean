/- 1 texts of the proof: orangeryref.HeardOf. -/
import Derived.Test.YtijjiccgpobjmaeGreatP20
import Derived.Test.YtijjiccgpobjmaeGreatP21
import Derived.Test.YtijjiccgpobjmaeGreatP22
/- orangeryref.HeardOf. -/
namespace Go.Proofs.YtijjiccgpobjmaeGreat
open Go.ChangeShapes Go.WideShapes Go.ChangeAt Go.RowKit
open Orangery (Pl Mv Vw Ml Cl noCl noVw clE viewE orI ml1E mlE hearE hearC hearV heard deaf apME apMV apE apR apL)

theorem deaf_or (c : Cl) (m : Ml) : deaf c m = (!decide (c.1.1 = m.1.2.2.1) || decide (m.1.2.2.2.2.2.1 ≤ c.1.2.2.2) || decide (c.1.2.2.1 < m.1.2.2.2.1) || (decide (m.1.1 = 3) && !decide (m.1.2.2.2.2.2.2 = c.1.2.2.2))) := rfl
/-- a view in memory: where its lists are read, and what they lie off -/
structure VwAt (g : Nat) (R : List Int) (K V : List Pl) (p : Ad × Ad × Ad) (W : World) : Prop where
  lr : SlI W p.1.1 R
  lk : SlP W p.2.1.1 K
  lv : SlP W p.2.2.1 V
  off : VwOff g R K V p
  nils : (p.2.1.1 = none → p.2.1.2 = 0) ∧ (p.2.2.1 = none → p.2.2.2 = 0)
theorem VwAt.keep {g : Nat} {R : List Int} {K V : List Pl} {p : Ad × Ad × Ad} {W W' : World} (h : VwAt g R K V p W) (hb : Below W.heap.size W W') : VwAt g R K V p W' := ⟨h.lr.below hb, h.lk.below hb, h.lv.below hb, h.off, h.nils⟩

set_option maxHeartbeats 32000000 in
set_option maxRecDepth 100000 in
theorem rheard_any (w : World) (x : Cm) (me : Int) (y : Mm) (hx : ClIn w x) (hy : MlIn w y) :
    Calls Tryz.prog 20 #[x.val, .int .i64 me, y.val] w (Hears w x.1 me y.1) := by
  have CC := Lib.hid (fun W h => rcheckClient_any W x me h)
  obtain ⟨⟨⟨f, t, s, v⟩, P, R, K, V⟩, ⟨aP, cP⟩, ⟨aR, cR⟩, ⟨aK, cK⟩, ⟨aV, cV⟩⟩ := x
  obtain ⟨cy, hcy⟩ : ∃ c, c = mlC y := ⟨_, rfl⟩
  show Calls Tryz.prog _ #[.agg #[Value.int .i64 f, .int .i64 t, .int .i64 s, .slice aP P.length cP, .int .i64 v, .slice aR R.length cR, .slice aK K.length cK, .slice aV V.length cV], .int .i64 me, .agg (mlC y).toArray] w (Hears w ((f, t, s, v), P, R, K, V) me y.1)
  rw [← hcy]
  obtain ⟨W0, hW, hN, hM, hR, hB, hS⟩ := laid3 w [Value.int .i64 f, .int .i64 t, .int .i64 s, .slice aP P.length cP, .int .i64 v, .slice aR R.length cR, .slice aK K.length cK, .slice aV V.length cV] 28 cy 52 [Value.int .i64 0, .int .i64 0, .int .i64 0, .slice none 0 0, .int .i64 0, .slice none 0 0, .slice none 0 0, .slice none 0 0] 28
  rw [hcy] at hM
  clear hcy
  have HB := Lib.hid hB
  have HX0 := Lib.hid hx
  have HY0 := Lib.hid hy
  have HX := Lib.hid (hx.keep hB)
  have HY := Lib.hid (hy.keep hB)
  have HN := Lib.hid hN
  have HM := Lib.hid hM
  have HR := Lib.hid hR
  have HS0 : Hid (w.heap.size + 3 ≤ W0.heap.size) := by show _ ≤ _; omega
  have HMB : Hid (∀ E w', hearE ((f, t, s, v), P, R, K, V) me y.1 = E → E ≠ 0 → Below w.heap.size w w' → Hears w ((f, t, s, v), P, R, K, V) me y.1 (.returned (.tuple #[.agg (bareC 0 0).toArray, .int .i64 E])) w') := fun E w' h1 h2 h3 => Hears.bad h1 h2 h3
  have ERR : Hid (∀ (W : World), Blk W (w.heap.size + 1 + 1) [Value.int .i64 0, .int .i64 0, .int .i64 0, .slice none 0 0, .int .i64 0, .slice none 0 0, .slice none 0 0, .slice none 0 0] → Below w.heap.size w W →
      (Blk (W.setCells (w.heap.size + 1 + 1) 0 (bareC 0 0)) (w.heap.size + 1 + 1) (bareC 0 0) ∧ Below w.heap.size w (W.setCells (w.heap.size + 1 + 1) 0 (bareC 0 0)))) := by
    intro W h2 h3
    exact ⟨h2.sets (bareC 0 0) rfl, below_sets h3 (w.heap.size + 1 + 1) (by omega) _ 0⟩
  obtain ⟨E1, hE1⟩ : ∃ E, E = clE ((f, t, s, v), P, R, K, V) me := ⟨_, rfl⟩
  obtain ⟨E2, hE2⟩ : ∃ E, E = ml1E y.1 := ⟨_, rfl⟩
  have HE1 := Lib.hid hE1
  have HE2 := Lib.hid hE2
  have HWC : Hid (∀ (W : World) (N : Nat), Blk W N (mlC y) → MlIn W y → Calls Tryz.prog 50 #[.slice (some ⟨N, 0, none⟩) 1 1] W fun e w' => e = .returned (.int .i64 E2) ∧ Below W.heap.size W w') := by
    intro W N h1 h2
    have := rcheckMail_any W (some ⟨N, 0, none⟩) 1 [y] [y.1] rfl (by unfold maxLen; simp) (one_row h1 h2)
    rw [Orangery.mlE_one, ← hE2] at this
    exact this
  have HRG := Lib.hid hN.range
  clear hB hx hy hN hM hR hS hE1 hE2
  go_enter Tryz.func20, Tryz.ntmps20
  go_wp2_with (first | (refine wpList_load_mid rfl 28 _ rfl w.heap.size 0 rfl [Value.int .i64 f, .int .i64 t, .int .i64 s, .slice aP P.length cP, .int .i64 v, .slice aR R.length cR, .slice aK K.length cK, .slice aV V.length cV] _ HRG.out Tryz.underlying28 rfl sizeClient ?_) | fail)
  clear hW
  refine (CC.out W0 HX.out).mono ?_
  rintro e w1 ⟨rfl, hb1⟩
  simp only
  rw [← HE1.out]
  have HN1 := Lib.hid (HN.out.keep hb1)
  have HM1 := Lib.hid (HM.out.keep hb1)
  have HR1 := Lib.hid (HR.out.keep hb1)
  have HX1 := Lib.hid (HX.out.keep hb1)
  have HY1 := Lib.hid (HY.out.keep hb1)
  have HB1 := Lib.hid (HB.out.trans (hb1.mono HB.out.size))
  have HS1 : Hid (w.heap.size + 3 ≤ w1.heap.size) := by show _ ≤ _; have := hb1.size; have := HS0.out; omega
  clear hb1 HN HM HR HX HY HB HS0 CC HRG
  by_cases h1 : E1 = 0
  case neg =>
    have HE : Hid (hearE ((f, t, s, v), P, R, K, V) me y.1 = E1) := by
      show _ = _
      rw [hear_first (by rw [← HE1.out]; unfold orI; rw [if_pos h1]; exact h1), ← HE1.out]
      unfold orI
      rw [if_pos h1]
    have d1 : (E1 == 0) = false := by simpa using h1
    have d2 : (E1 != 0) = true := by simpa using h1
    have HZ := Lib.hid h1
    clear h1 HE1 HE2 HX1 HN1 HM1 HY1 HX0 HY0 HWC
    have h3 := Lib.hid (ERR.out w1 HR1.out HB1.out)
    have c0 := HR1.out.at 0 rfl
    have c1 := HR1.out.at 1 rfl
    have c2 := HR1.out.at 2 rfl
    have c3 := HR1.out.at 3 rfl
    have c4 := HR1.out.at 4 rfl
    have c5 := HR1.out.at 5 rfl
    have c6 := HR1.out.at 6 rfl
    have c7 := HR1.out.at 7 rfl
    have cf := HR1.out.frz
    go_wp2
    refine ret_cell_tmp Tryz.results20 rfl rfl (h3.out.1.load Tryz.underlying28 rfl sizeClient) ?_
    exact HMB.out E1 _ HE.out HZ.out h3.out.2
  have HRM := Lib.hid HM1.out.range
  obtain ⟨W2, hW2, hN2, hb2, hsz2⟩ := laid1 w1 (mlC y) 52
  have HROW := Lib.hid hN2
  have HN2 := Lib.hid (HN1.out.keep hb2)
  have HM2 := Lib.hid (HM1.out.keep hb2)
  have HR2 := Lib.hid (HR1.out.keep hb2)
  have HX2 := Lib.hid (HX1.out.keep hb2)
  have HY2 := Lib.hid (HY1.out.keep hb2)
  have HB2 := Lib.hid (HB1.out.trans (hb2.mono HB1.out.size))
  have HS2 : Hid (w.heap.size + 3 ≤ W2.heap.size) := by show _ ≤ _; have := HS1.out; omega
  have h1z : E1 = 0 := h1
  rw [h1z]
  clear h1 hN2 hb2 hsz2 HN1 HM1 HR1 HX1 HY1 HB1 HS1
  go_wp2_with (first | (refine wpList_load_mid rfl 52 _ rfl (w.heap.size + 1) 0 rfl (mlC y) _ HRM.out Tryz.underlying52 rfl (sizeMailC y) ?_) | (with_reducible refine at_slice ?_; refine build_one rfl rfl (mlC y) rfl rfl ?_; rw [hW2]) | fail)
  refine (HWC.out W2 w1.heap.size HROW.out HY2.out).mono ?_
  rintro e w3 ⟨rfl, hb3⟩
  have HN3 := Lib.hid (HN2.out.keep hb3)
  have HM3 := Lib.hid (HM2.out.keep hb3)
  have HR3 := Lib.hid (HR2.out.keep hb3)
  have HX3 := Lib.hid (HX2.out.keep hb3)
  have HY3 := Lib.hid (HY2.out.keep hb3)
  have HB3 := Lib.hid (HB2.out.trans (hb3.mono HB2.out.size))
  have HS3 : Hid (w.heap.size + 3 ≤ w3.heap.size) := by show _ ≤ _; have := hb3.size; have := HS2.out; omega
  clear hb3 hW2 HN2 HM2 HR2 HX2 HY2 HB2 HS2 HROW HRM HWC
  by_cases h2 : E2 = 0
  case neg =>
    have hE1z : clE ((f, t, s, v), P, R, K, V) me = 0 := by rw [← HE1.out]; exact h1z
    have HE : Hid (hearE ((f, t, s, v), P, R, K, V) me y.1 = E2) := by
      show _ = _
      have ho : orI (clE ((f, t, s, v), P, R, K, V) me) (ml1E y.1) = E2 := by rw [hE1z, ← HE2.out]; rfl
      rw [hear_first (by rw [ho]; exact h2), ho]
    have d1 : (E2 == 0) = false := by simpa using h2
    have d2 : (E2 != 0) = true := by simpa using h2
    have HZ := Lib.hid h2
    clear h2 h1z hE1z HE1 HE2 HX3 HN3 HM3 HY3 HX0 HY0
    have h3 := Lib.hid (ERR.out w3 HR3.out HB3.out)
    have c0 := HR3.out.at 0 rfl
    have c1 := HR3.out.at 1 rfl
    have c2 := HR3.out.at 2 rfl
    have c3 := HR3.out.at 3 rfl
    have c4 := HR3.out.at 4 rfl
    have c5 := HR3.out.at 5 rfl
    have c6 := HR3.out.at 6 rfl
    have c7 := HR3.out.at 7 rfl
    have cf := HR3.out.frz
    go_wp2
    refine ret_cell_tmp Tryz.results20 rfl rfl (h3.out.1.load Tryz.underlying28 rfl sizeClient) ?_
    exact HMB.out E2 _ HE.out HZ.out h3.out.2
  have HO0 : Hid (orI (clE ((f, t, s, v), P, R, K, V) me) (ml1E y.1) = 0) := by show _ = _; rw [← HE1.out, ← HE2.out, h1z, h2]; rfl
  have HFEW := Lib.hid (cl_few (Orangery.orI_zero HO0.out).1)
  have HNUM := Lib.hid (cl_nums (Orangery.orI_zero HO0.out).1)
  have HMF := Lib.hid (ml1_few (Orangery.orI_zero HO0.out).2)
  have hkind := ml_kind (Orangery.orI_zero HO0.out).2
  rw [h2]
  clear h2 h1z HE1 HE2
  have m0 := HM3.out.at 0 rfl
  have m1 := HM3.out.at 1 rfl
  by_cases hk : y.1.1.1 = 1 ∨ y.1.1.2.1 ≠ me
  · have HE : Hid (hearE ((f, t, s, v), P, R, K, V) me y.1 = 4) := hear_form HO0.out hk
    have HZ : Hid ((4 : Int) ≠ 0) := by show _ ≠ _; decide
    by_cases hk1 : y.1.1.1 = 1
    · have d1 : (y.1.1.1 == 1) = true := by simpa using hk1
      clear hk hk1 hkind HO0 HX3 HN3 HM3 HY3 HX0 HY0 HFEW HNUM HMF m1
      have h3 := Lib.hid (ERR.out w3 HR3.out HB3.out)
      have c0 := HR3.out.at 0 rfl
      have c1 := HR3.out.at 1 rfl
      have c2 := HR3.out.at 2 rfl
      have c3 := HR3.out.at 3 rfl
      have c4 := HR3.out.at 4 rfl
      have c5 := HR3.out.at 5 rfl
      have c6 := HR3.out.at 6 rfl
      have c7 := HR3.out.at 7 rfl
      have cf := HR3.out.frz
      go_wp2
      refine ret_cell_tmp Tryz.results20 rfl rfl (h3.out.1.load Tryz.underlying28 rfl sizeClient) ?_
      exact HMB.out 4 _ HE.out HZ.out h3.out.2
    · have d1 : (y.1.1.1 == 1) = false := by simpa using hk1
      have d2 : (y.1.1.2.1 != me) = true := by
        rcases hk with h | h
        · exact absurd h hk1
        · simpa using h
      clear hk hk1 hkind HO0 HX3 HN3 HM3 HY3 HX0 HY0 HFEW HNUM HMF
      have h3 := Lib.hid (ERR.out w3 HR3.out HB3.out)
      have c0 := HR3.out.at 0 rfl
      have c1 := HR3.out.at 1 rfl
      have c2 := HR3.out.at 2 rfl
      have c3 := HR3.out.at 3 rfl
      have c4 := HR3.out.at 4 rfl
      have c5 := HR3.out.at 5 rfl
      have c6 := HR3.out.at 6 rfl
      have c7 := HR3.out.at 7 rfl
      have cf := HR3.out.frz
      go_wp2
      refine ret_cell_tmp Tryz.results20 rfl rfl (h3.out.1.load Tryz.underlying28 rfl sizeClient) ?_
      exact HMB.out 4 _ HE.out HZ.out h3.out.2
  have HK := Lib.hid hk
  have hk1 : ¬ y.1.1.1 = 1 := fun h => hk (Or.inl h)
  have hk2 : y.1.1.2.1 = me := Decidable.not_not.1 (fun h => hk (Or.inr h))
  have HKD : Hid (y.1.1.1 = 2 ∨ y.1.1.1 = 3) := by show _ ∨ _; omega
  have d1 : (y.1.1.1 == 1) = false := by simpa using hk1
  have d2 : (y.1.1.2.1 != me) = false := by simpa using hk2
  clear hk hk1 hk2 hkind
  have x0 := HN3.out.at 0 rfl
  have x2 := HN3.out.at 2 rfl
  have x4 := HN3.out.at 4 rfl
  have m2 := HM3.out.at 2 rfl
  have m3 := HM3.out.at 3 rfl
  have m5 := HM3.out.at 5 rfl
  have m6 := HM3.out.at 6 rfl
  -- nothing changes
  have DEAF : Hid (deaf ((f, t, s, v), P, R, K, V) y.1 = true → ∀ W, Blk W (w.heap.size + 1 + 1) [Value.int .i64 f, .int .i64 t, .int .i64 s, .slice aP P.length cP, .int .i64 v, .slice aR R.length cR, .slice aK K.length cK, .slice aV V.length cV] → Below w.heap.size w W → Hears w ((f, t, s, v), P, R, K, V) me y.1 (.returned (.tuple #[.agg #[Value.int .i64 f, .int .i64 t, .int .i64 s, .slice aP P.length cP, .int .i64 v, .slice aR R.length cR, .slice aK K.length cK, .slice aV V.length cV], .int .i64 0])) W) := by
    intro h W _ hb
    obtain ⟨h5, h6⟩ := hear_deaf HO0.out HK.out h
    exact ⟨(((f, t, s, v), P, R, K, V), (aP, cP), (aR, cR), (aK, cK), (aV, cV)), by rw [h5]; rfl, by rw [h6], HX0.out.keep hb, hb⟩
  have HRG := Lib.hid HN3.out.range
  have HRf := Lib.hid (HR3.out.sets [Value.int .i64 f, .int .i64 t, .int .i64 s, .slice aP P.length cP, .int .i64 v, .slice aR R.length cR, .slice aK K.length cK, .slice aV V.length cV] rfl)
  have HBf := Lib.hid (below_sets HB3.out (w.heap.size + 1 + 1) (by omega) [Value.int .i64 f, .int .i64 t, .int .i64 s, .slice aP P.length cP, .int .i64 v, .slice aR R.length cR, .slice aK K.length cK, .slice aV V.length cV] 0)
  have HDF := Lib.hid (deaf_or ((f, t, s, v), P, R, K, V) y.1)
  simp only at HDF
  have c0 := HR3.out.at 0 rfl
  have c1 := HR3.out.at 1 rfl
  have c2 := HR3.out.at 2 rfl
  have c3 := HR3.out.at 3 rfl
  have c4 := HR3.out.at 4 rfl
  have c5 := HR3.out.at 5 rfl
  have c6 := HR3.out.at 6 rfl
  have c7 := HR3.out.at 7 rfl
  have cf := HR3.out.frz
  have x1 := HN3.out.at 1 rfl
  have x3 := HN3.out.at 3 rfl
  have x5 := HN3.out.at 5 rfl
  have x6 := HN3.out.at 6 rfl
  have x7 := HN3.out.at 7 rfl
  by_cases t0 : f = y.1.1.2.2.1
  case neg =>
    have e0 : (f != y.1.1.2.2.1) = true := by simpa using t0
    have HD : Hid (deaf ((f, t, s, v), P, R, K, V) y.1 = true) := by show _ = _; rw [HDF.out]; simp [t0]
    clear t0 HO0 HX3 HM3 HY3 HX0 HY0 HFEW HNUM HMF HK HKD ERR HMB HDF HR3 HB3 HN3
    go_wp2
    refine ret_cell_tmp Tryz.results20 rfl rfl (HRf.out.load Tryz.underlying28 rfl sizeClient) ?_
    exact DEAF.out HD.out _ HRf.out HBf.out
  have e0 : (f != y.1.1.2.2.1) = false := by simpa using t0
  by_cases t1 : y.1.1.2.2.2.2.2.1 ≤ v
  case pos =>
    have e1 : decide (v ≥ y.1.1.2.2.2.2.2.1) = true := by simpa using t1
    have HD : Hid (deaf ((f, t, s, v), P, R, K, V) y.1 = true) := by show _ = _; rw [HDF.out]; simp [t1]
    clear t0 t1 HO0 HX3 HM3 HY3 HX0 HY0 HFEW HNUM HMF HK HKD ERR HMB HDF HR3 HB3 HN3
    go_wp2
    refine ret_cell_tmp Tryz.results20 rfl rfl (HRf.out.load Tryz.underlying28 rfl sizeClient) ?_
    exact DEAF.out HD.out _ HRf.out HBf.out
  have e1 : decide (v ≥ y.1.1.2.2.2.2.2.1) = false := by simpa using t1
  by_cases t2 : s < y.1.1.2.2.2.1
  case pos =>
    have e2 : decide (s < y.1.1.2.2.2.1) = true := by simpa using t2
    have HD : Hid (deaf ((f, t, s, v), P, R, K, V) y.1 = true) := by show _ = _; rw [HDF.out]; simp [t2]
    clear t0 t1 t2 HO0 HX3 HM3 HY3 HX0 HY0 HFEW HNUM HMF HK HKD ERR HMB HDF HR3 HB3 HN3
    go_wp2
    refine ret_cell_tmp Tryz.results20 rfl rfl (HRf.out.load Tryz.underlying28 rfl sizeClient) ?_
    exact DEAF.out HD.out _ HRf.out HBf.out
  have e2 : decide (s < y.1.1.2.2.2.1) = false := by simpa using t2
  by_cases t3 : y.1.1.1 = 3
  · have e3 : (y.1.1.1 == 3) = true := by simpa using t3
    by_cases t4 : y.1.1.2.2.2.2.2.2 = v
    case neg =>
      have e4 : (y.1.1.2.2.2.2.2.2 != v) = true := by simpa using t4
      have HD : Hid (deaf ((f, t, s, v), P, R, K, V) y.1 = true) := by show _ = _; rw [HDF.out]; simp [t3, t4]
      clear t0 t1 t2 t3 t4 HO0 HX3 HM3 HY3 HX0 HY0 HFEW HNUM HMF HK HKD ERR HMB HDF HR3 HB3 HN3
      go_wp2
      refine ret_cell_tmp Tryz.results20 rfl rfl (HRf.out.load Tryz.underlying28 rfl sizeClient) ?_
      exact DEAF.out HD.out _ HRf.out HBf.out
    have e4 : (y.1.1.2.2.2.2.2.2 != v) = false := by simpa using t4
    have HD : Hid (deaf ((f, t, s, v), P, R, K, V) y.1 = false) := by show _ = _; rw [HDF.out]; simp [t0, t1, t2, t4] ; try omega
    have m14 : w3.cell? ⟨w.heap.size + 1, 14, none⟩ = some (.slice y.2.1.1.1 y.1.2.2.1.1.length y.2.1.1.2) := HM3.out.at 14 rfl
    have m15 : w3.cell? ⟨w.heap.size + 1, 15, none⟩ = some (.slice y.2.1.2.1.1 y.1.2.2.1.2.1.length y.2.1.2.1.2) := HM3.out.at 15 rfl
    have m16 : w3.cell? ⟨w.heap.size + 1, 16, none⟩ = some (.slice y.2.1.2.2.1 y.1.2.2.1.2.2.length y.2.1.2.2.2) := HM3.out.at 16 rfl
    obtain ⟨W4, hW4, hV4, hb4, hsz4⟩ := laid1 w3 [Value.slice y.2.1.1.1 y.1.2.2.1.1.length y.2.1.1.2, .slice y.2.1.2.1.1 y.1.2.2.1.2.1.length y.2.1.2.1.2, .slice y.2.1.2.2.1 y.1.2.2.1.2.2.length y.2.1.2.2.2] 26
    have HN4 := Lib.hid (HN3.out.keep hb4)
    have HM4 := Lib.hid (HM3.out.keep hb4)
    have HR4 := Lib.hid (HR3.out.keep hb4)
    have HB4 := Lib.hid (HB3.out.trans (hb4.mono HB3.out.size))
    have HV4 := Lib.hid hV4
    have HX4 := Lib.hid (HX3.out.keep hb4)
    have HY4 := Lib.hid (HY3.out.keep hb4)
    have HS4 : Hid (w.heap.size + 3 ≤ w3.heap.size ∧ w3.heap.size < W4.heap.size) := by show _ ∧ _; have := HS3.out; omega
    have n0 := HM4.out.at 0 rfl
    have n17 : W4.cell? ⟨w.heap.size + 1, 17, none⟩ = some (.slice y.2.2.1.1 y.1.2.2.2.1.length y.2.2.1.2) := HM4.out.at 17 rfl
    have n18 : W4.cell? ⟨w.heap.size + 1, 18, none⟩ = some (.slice y.2.2.2.1.1 y.1.2.2.2.2.1.length y.2.2.2.1.2) := HM4.out.at 18 rfl
    have n19 : W4.cell? ⟨w.heap.size + 1, 19, none⟩ = some (.slice y.2.2.2.2.1.1 y.1.2.2.2.2.2.1.length y.2.2.2.2.1.2) := HM4.out.at 19 rfl
    have n20 : W4.cell? ⟨w.heap.size + 1, 20, none⟩ = some (.slice y.2.2.2.2.2.1 y.1.2.2.2.2.2.2.length y.2.2.2.2.2.2) := HM4.out.at 20 rfl
    have p5 := HN4.out.at 5 rfl
    have p6 := HN4.out.at 6 rfl
    have p7 := HN4.out.at 7 rfl
    obtain ⟨E, hEE⟩ : ∃ E, E = aftE (R, K, V) y.1 := ⟨_, rfl⟩
    have hap := rapplied_any W4 aR aK aV y.2.2.1.1 y.2.2.2.1.1 y.2.2.2.2.1.1 y.2.2.2.2.2.1 cR cK cV y.2.2.1.2 y.2.2.2.1.2 y.2.2.2.2.1.2 y.2.2.2.2.2.2 R K V y.1.2.2.2.1 y.1.2.2.2.2.1 y.1.2.2.2.2.2.1 y.1.2.2.2.2.2.2 (by have h1 := HFEW.out; have h2 := HMF.out; simp only [ClFew, MlFew] at h1 h2; unfold maxLen; omega) HX4.out.nils HX4.out.lr HX4.out.lk HX4.out.lv HY4.out.lg HY4.out.lh HY4.out.lx HY4.out.ly
    have hE' : apE R K V y.1.2.2.2.1 y.1.2.2.2.2.1 y.1.2.2.2.2.2.1 y.1.2.2.2.2.2.2 = E := by rw [hEE]; exact (if_pos t3).symm
    rw [hE'] at hap
    have HAP := Lib.hid hap
    have HEV : Hid (E = 0 → (R, apL E K y.1.2.2.2.1 y.1.2.2.2.2.1, apL E V y.1.2.2.2.2.2.1 y.1.2.2.2.2.2.2) = hearV ((f, t, s, v), P, R, K, V) y.1) := by
      intro h0
      rw [← aft_view (c := ((f, t, s, v), P, R, K, V)) (by rw [← hEE]; exact h0)]
      unfold aftV
      rw [if_pos t3]
      have e5 : apME (R, K, V) y.1.2.2.2 = E := hE'
      show _ = (apR (apME (R, K, V) y.1.2.2.2) R, apL (apME (R, K, V) y.1.2.2.2) K y.1.2.2.2.1 y.1.2.2.2.2.1, apL (apME (R, K, V) y.1.2.2.2) V y.1.2.2.2.2.2.1 y.1.2.2.2.2.2.2)
      rw [e5, h0]
      rfl
    have HEA : Hid (hearE ((f, t, s, v), P, R, K, V) me y.1 = E) := by show _ = _; rw [hEE]; exact hear_aft HO0.out HK.out HD.out
    clear hap hE' hEE hV4 hb4 hsz4 HN3 HM3 HR3 HB3 HX3 HY3 HRf HBf DEAF HRG HDF c0 c1 c2 c3 c4 c5 c6 c7 cf t0 t1 t2 t3 t4 HKD
    go_wp2_with fail
    clear n17 n18 n19 n20 p5 p6 p7 n0 hW4
    refine HAP.out.mono ?_
    rintro e w5 ⟨r1, r2, r3, s1, s2, s3, rfl, ⟨n2, n3⟩, ⟨f2, f3, f1⟩, l1, l2, l3, hb5⟩
    have hs4 := HS4.out
    have hroot : ∀ g, w.heap.size ≤ g → g < W4.heap.size → OffL g r1 (apR E R) := by
      intro g h1 h2
      rcases f1 with rfl | f1
      · unfold apR
        split
        · exact Or.inl rfl
        · exact HX0.out.lr.off h1
      · exact (Fresh.inl f1).off (fun b hb => by omega)
    have ho2 : ∀ g, g < W4.heap.size → OffL g r2 (apL E K y.1.2.2.2.1 y.1.2.2.2.2.1) := fun g h2 => (Fresh.inl f2).off (fun b hb => by omega)
    have ho3 : ∀ g, g < W4.heap.size → OffL g r3 (apL E V y.1.2.2.2.2.2.1 y.1.2.2.2.2.2.2) := fun g h2 => (Fresh.inl f3).off (fun b hb => by omega)
    have hV5 := HV4.out.keep hb5
    obtain ⟨W6, hW6⟩ : ∃ W6, ((w5.setCell ⟨w3.heap.size, 0, none⟩ (.slice r1 (apR E R).length s1)).setCell ⟨w3.heap.size, 1, none⟩ (.slice r2 (apL E K y.1.2.2.2.1 y.1.2.2.2.2.1).length s2)).setCell ⟨w3.heap.size, 2, none⟩ (.slice r3 (apL E V y.1.2.2.2.2.2.1 y.1.2.2.2.2.2.2).length s3) = W6 := ⟨_, rfl⟩
    have HV6 : Hid (Blk W6 w3.heap.size [.slice r1 (apR E R).length s1, .slice r2 (apL E K y.1.2.2.2.1 y.1.2.2.2.2.1).length s2, .slice r3 (apL E V y.1.2.2.2.2.2.1 y.1.2.2.2.2.2.2).length s3]) := by
      refine Lib.hid ?_
      rw [← hW6]
      exact hV5.sets [.slice r1 (apR E R).length s1, .slice r2 (apL E K y.1.2.2.2.1 y.1.2.2.2.2.1).length s2, .slice r3 (apL E V y.1.2.2.2.2.2.1 y.1.2.2.2.2.2.2).length s3] rfl
    have HVA : Hid (VwAt (w.heap.size + 1 + 1) (apR E R) (apL E K y.1.2.2.2.1 y.1.2.2.2.2.1) (apL E V y.1.2.2.2.2.2.1 y.1.2.2.2.2.2.2) ((r1, s1), (r2, s2), (r3, s3)) W6) := by
      refine Lib.hid ?_
      rw [← hW6]
      exact ⟨l1.setsO (hroot w3.heap.size (by omega) (by omega)) [.slice r1 (apR E R).length s1, .slice r2 (apL E K y.1.2.2.2.1 y.1.2.2.2.2.1).length s2, .slice r3 (apL E V y.1.2.2.2.2.2.1 y.1.2.2.2.2.2.2).length s3] 0, l2.sets (ho2 w3.heap.size (by omega)) [.slice r1 (apR E R).length s1, .slice r2 (apL E K y.1.2.2.2.1 y.1.2.2.2.2.1).length s2, .slice r3 (apL E V y.1.2.2.2.2.2.1 y.1.2.2.2.2.2.2).length s3] 0, l3.sets (ho3 w3.heap.size (by omega)) [.slice r1 (apR E R).length s1, .slice r2 (apL E K y.1.2.2.2.1 y.1.2.2.2.2.1).length s2, .slice r3 (apL E V y.1.2.2.2.2.2.1 y.1.2.2.2.2.2.2).length s3] 0, ⟨hroot (w.heap.size + 1 + 1) (by omega) (by omega), ho2 _ (by omega), ho3 _ (by omega)⟩, n2, n3⟩
    have hother : ∀ (b : Nat) (vs : List Value), Blk w5 b vs → b ≠ w3.heap.size → Blk W6 b vs := by
      intro b vs h1 h2
      rw [← hW6]
      exact ((h1.other h2 0 _).other h2 1 _).other h2 2 _
    have HN6 := Lib.hid (hother _ _ (HN4.out.keep hb5) (by omega))
    have HM6 := Lib.hid (hother _ _ (HM4.out.keep hb5) (by omega))
    have HR6 := Lib.hid (hother _ _ (HR4.out.keep hb5) (by omega))
    have HB6 : Hid (Below w.heap.size w W6) := by
      refine Lib.hid ?_
      rw [← hW6]
      exact below_sets (HB4.out.trans (hb5.mono HB4.out.size)) w3.heap.size (by omega) [.slice r1 (apR E R).length s1, .slice r2 (apL E K y.1.2.2.2.1 y.1.2.2.2.2.1).length s2, .slice r3 (apL E V y.1.2.2.2.2.2.1 y.1.2.2.2.2.2.2).length s3] 0
    have HS6 : Hid (w.heap.size + 3 ≤ W6.heap.size) := by show _ ≤ _; have := HV6.out.lt; omega
    have y0 := hV5.at 0 rfl
    have y1 := hV5.at 1 rfl
    have y2 := hV5.at 2 rfl
    have yf := hV5.frz
    clear hroot ho2 ho3 hV5 hother l1 l2 l3 f1 f2 f3 n2 n3 hb5 hs4 HN4 HM4 HR4 HB4 HV4 HX4 HY4 HAP
    by_cases hE0 : E = 0
    case neg =>
      have hE0' : (E != 0) = true := by simpa using hE0
      have HE := Lib.hid HEA.out
      have HZ := Lib.hid hE0
      clear hE0 HEV HEA HVA HV6 HN6 HM6
      have h3 := Lib.hid (ERR.out W6 HR6.out HB6.out)
      have c0 := HR6.out.at 0 rfl
      have c1 := HR6.out.at 1 rfl
      have c2 := HR6.out.at 2 rfl
      have c3 := HR6.out.at 3 rfl
      have c4 := HR6.out.at 4 rfl
      have c5 := HR6.out.at 5 rfl
      have c6 := HR6.out.at 6 rfl
      have c7 := HR6.out.at 7 rfl
      have cf := HR6.out.frz
      go_wp2
      refine ret_cell_tmp Tryz.results20 rfl rfl (h3.out.1.load Tryz.underlying28 rfl sizeClient) ?_
      exact HMB.out E _ HE.out HZ.out h3.out.2
    have HE : Hid (hearE ((f, t, s, v), P, R, K, V) me y.1 = 0) := by show _ = _; rw [HEA.out]; exact hE0
    have HVW := Lib.hid (HEV.out hE0)
    rw [hE0] at HVW HV6 HVA hW6 ⊢
    have hR0 : apR 0 R = R := rfl
    rw [hR0] at HV6 HVA hW6 ⊢
    generalize apL 0 K y.1.2.2.2.1 y.1.2.2.2.2.1 = K' at *
    generalize apL 0 V y.1.2.2.2.2.2.1 y.1.2.2.2.2.2.2 = V' at *
    clear hE0 HEV HEA ERR HMB
    have HPL := Lib.hid (HX0.out.lp.below HB6.out)
    have x0 := HN6.out.at 0 rfl
    have x1 := HN6.out.at 1 rfl
    have x2 := HN6.out.at 2 rfl
    have m4 := HM6.out.at 4 rfl
    have m5 := HM6.out.at 5 rfl
    have v0 := HV6.out.at 0 rfl
    have v1 := HV6.out.at 1 rfl
    have v2 := HV6.out.at 2 rfl
    obtain ⟨Wb, hWb, hNb, hbb, hszb⟩ := laid1 W6 [Value.int .i64 f, .int .i64 (max t y.1.1.2.2.2.2.1), .int .i64 s, .slice none 0 0, .int .i64 y.1.1.2.2.2.2.2.1, .slice r1 R.length s1, .slice r2 K'.length s2, .slice r3 V'.length s3] 28
    have hp8 : P.length ≤ 8 := HNUM.out.2.2
    have x3 := (HN6.out.keep hbb).at 3 rfl
    have HNb := Lib.hid hNb
    have HBb := Lib.hid hbb
    have HSb : Hid (Wb.heap.size = W6.heap.size + 1) := by show _ = _; omega
    clear hNb hbb hszb
    try simp only
    go_wp2
    clear x0 x1 x2 x3 m4 m5 v0 v1 v2 hWb
    go_loopw [103] (fun i W' => ∃ (k : Nat) (a4 : Option Addr) (c4 : Nat), k ≤ P.length ∧ i = .int .i64 k ∧ Blk W' W6.heap.size [Value.int .i64 f, .int .i64 (max t y.1.1.2.2.2.2.1), .int .i64 s, .slice a4 ((P.take k).filter (fun o => decide (y.1.1.2.2.2.1 < o.2.2.2.2))).length c4, .int .i64 y.1.1.2.2.2.2.2.1, .slice r1 R.length s1, .slice r2 K'.length s2, .slice r3 V'.length s3] ∧ OwnE opC 7 32 W' Wb.heap.size (.slice a4 ((P.take k).filter (fun o => decide (y.1.1.2.2.2.1 < o.2.2.2.2))).length c4) ((P.take k).filter (fun o => decide (y.1.1.2.2.2.1 < o.2.2.2.2))) ∧ Below W6.heap.size W6 W') (fun i _ => P.length - (intOf i).toNat)
    case atStart => exact ⟨0, none, 0, Nat.zero_le _, rfl, HNb.out, OwnE.nil _ _, HBb.out⟩
    case round =>
      obtain ⟨k, a4, c4, hk, rfl, hT, hO, hb⟩ := hrel
      have hsb := HSb.out
      by_cases hlt : k < P.length
      case neg =>
        have hk' : P.take k = P := List.take_of_length_le (by omega)
        rw [hk'] at hT hO
        obtain ⟨Q, hQ⟩ : ∃ Q, Q = P.filter (fun o => decide (y.1.1.2.2.2.1 < o.2.2.2.2)) := ⟨_, rfl⟩
        rw [← hQ] at hT hO
        obtain ⟨zc, hzc⟩ : ∃ z : Cm, z = (((f, (max t y.1.1.2.2.2.2.1), s, y.1.1.2.2.2.2.2.1), Q, R, K', V'), (a4, c4), (r1, s1), (r2, s2), (r3, s3)) := ⟨_, rfl⟩
        have hN5 : Blk wr W6.heap.size (clC zc) := by rw [hzc]; exact hT
        have hR5 := HR6.out.keep hb
        have HRG := Lib.hid hN5.range
        have HT : Hid (wr.there (w.heap.size + 1 + 1) 0 (clC zc).toArray.size) := hR5.there
        have HO : Hid ((clC zc).toArray.all (·.oneCell') = true) := all_oneCell_toArray (clC_one zc)
        have HSZ : Hid ((Tryz.prog.info? 28).map (·.size) = some (clC zc).toArray.size) := sizeClient
        have HRf := Lib.hid (hR5.sets (clC zc) rfl)
        have HBf := Lib.hid (below_sets (HB6.out.trans (hb.mono HB6.out.size)) (w.heap.size + 1 + 1) (by omega) (clC zc) 0)
        have hv5 := HVA.out.keep hb
        have HVf := Lib.hid (And.intro (hv5.lr.setsO hv5.off.1 (clC zc) 0) (And.intro (hv5.lk.sets hv5.off.2.1 (clC zc) 0) (hv5.lv.sets hv5.off.2.2 (clC zc) 0)))
        have HQf := Lib.hid (hO.others (w.heap.size + 1 + 1) (by have := HS6.out; omega) (clC zc) 0 wr).read
        have HQL : Hid (Q.length ≤ P.length) := by show _ ≤ _; rw [hQ]; exact List.length_filter_le _ _
        have HQ := Lib.hid hQ
        have HZC := Lib.hid hzc
        clear hT hO hb hk' hQ hzc hN5 hR5 hv5 HN6 HM6 HR6 HB6 HV6 HPL HNb HBb hsb
        have hlt' : ¬ ((k : Int) < (P.length : Int)) := by omega
        go_wp2_with (first | (refine wpList_load_mid rfl 28 _ rfl W6.heap.size 0 rfl (clC zc) _ HRG.out Tryz.underlying28 rfl (sizeClientC zc) ?_) | (with_reducible refine at_store 28 ?_; refine wpList_store_mid rfl 28 _ _ rfl (w.heap.size + 1 + 1) 0 (clC zc).toArray rfl rfl HT.out HSZ.out HO.out ?_) | fail)
        refine ret_cell_tmp Tryz.results20 rfl rfl (HRf.out.load Tryz.underlying28 rfl (sizeClientC zc)) ?_
        have hC : hearC ((f, t, s, v), P, R, K, V) me y.1 = heard ((f, t, s, v), P, R, K, V) y.1 := by
          unfold hearC
          rw [if_neg (by rw [HE.out]; simp), if_neg (by rw [HD.out]; simp)]
        have hfew := cl_few (Orangery.heard_ok HE.out HD.out)
        have hh : heard ((f, t, s, v), P, R, K, V) y.1 = ((f, (max t y.1.1.2.2.2.2.1), s, y.1.1.2.2.2.2.2.1), Q, R, K', V') := by
          show ((f, (max t y.1.1.2.2.2.2.1), s, y.1.1.2.2.2.2.2.1), _, _) = _
          rw [HQ.out, HVW.out]
        rw [hh] at hfew
        simp only [ClFew] at hfew
        refine ⟨zc, by rw [HE.out]; rfl, by rw [hC, hh, HZC.out], ?_, HBf.out⟩
        rw [HZC.out] at HQf HVf ⊢
        exact ⟨HQf.out, HVf.out.1, HVf.out.2.1, HVf.out.2.2, ⟨by show Q.length ≤ _; omega, by show R.length ≤ _; omega, by show K'.length ≤ _; omega, by show V'.length ≤ _; omega⟩, HVA.out.nils⟩
      obtain ⟨b, off, rfl, hbl, hr⟩ := (HPL.out.below hb).at opC_len k hlt
      obtain ⟨g0, g1, g2, g3, g4, g5, g6⟩ := op_cells (w := wr) hr
      have htk : (P.take (k + 1)).filter (fun o => decide (y.1.1.2.2.2.1 < o.2.2.2.2)) = ((P.take k).filter (fun o => decide (y.1.1.2.2.2.1 < o.2.2.2.2))) ++ (if decide (y.1.1.2.2.2.1 < P[k].2.2.2.2) = true then [P[k]] else []) := by
        rw [List.take_succ_eq_append_getElem hlt, List.filter_append]
        congr 1
        by_cases h : y.1.1.2.2.2.1 < P[k].2.2.2.2 <;> simp [h]
      have hfl : ((P.take k).filter (fun o => decide (y.1.1.2.2.2.1 < o.2.2.2.2))).length ≤ 8 := by
        have h9 := List.length_filter_le (fun o => decide (y.1.1.2.2.2.1 < o.2.2.2.2)) (P.take k)
        simp only [List.length_take] at h9
        omega
      have HTK := Lib.hid htk
      have HLT := Lib.hid hlt
      clear hr htk HPL
      have hlt' : (k : Int) < (P.length : Int) := by omega
      generalize P[k] = o at *
      generalize ((P.take k).filter (fun o => decide (y.1.1.2.2.2.1 < o.2.2.2.2))) = Fk at *
      obtain ⟨o1, o2, ⟨o3, o4, o5⟩, o6, o7⟩ := o
      simp only at g0 g1 g2 g3 g4 g5 g6
      obtain ⟨Wc, hWc, hNc, hbc, hszc⟩ := laid1 wr [Value.int IntKind.i64 o1, Value.int IntKind.i64 o2, Value.int IntKind.i64 o3, Value.int IntKind.i64 o4, Value.int IntKind.i64 o5, Value.int IntKind.i64 o6, Value.int IntKind.i64 o7] 32
      have n0 := hNc.at 0 rfl
      have n1 := hNc.at 1 rfl
      have n2 := hNc.at 2 rfl
      have n3 := hNc.at 3 rfl
      have n4 := hNc.at 4 rfl
      have n5 := hNc.at 5 rfl
      have n6 := hNc.at 6 rfl
      have hbw : Below W6.heap.size W6 Wc := hb.trans (hbc.mono (by have := hb.size; omega))
      have mq := (HM6.out.keep hbw).at 3 rfl
      have hTc := hT.keep hbc
      have t3 := hTc.at 3 rfl
      by_cases hs : y.1.1.2.2.2.1 < o7
      case neg =>
        have d9 : decide (o7 > y.1.1.2.2.2.1) = false := by simpa using hs
        have HTc := Lib.hid hTc
        have HOc := Lib.hid (hO.keep hbc)
        have HBw := Lib.hid hbw
        have HN9 : Hid ((P.take (k + 1)).filter (fun o => decide (y.1.1.2.2.2.1 < o.2.2.2.2)) = Fk) := by show _ = _; rw [HTK.out, if_neg (by simpa using hs), List.append_nil]
        clear hTc hbw hT hO hb hbc hNc hszc hs hsb
        go_wp2
        go_roundw
        case rel => exact ⟨k + 1, a4, c4, HLT.out, by go_num, by rw [HN9.out]; exact HTc.out, by rw [HN9.out]; exact HOc.out, HBw.out⟩
        case measure => have := HLT.out; simp [intOf]; omega
      have d9 : decide (o7 > y.1.1.2.2.2.1) = true := by simpa using hs
      obtain ⟨Wd, hWd, hNd, hbd, hszd⟩ := laid1 Wc [Value.int IntKind.i64 o1, Value.int IntKind.i64 o2, Value.int IntKind.i64 o3, Value.int IntKind.i64 o4, Value.int IntKind.i64 o5, Value.int IntKind.i64 o6, Value.int IntKind.i64 o7] 32
      have hbcd : Below wr.heap.size wr Wd := hbc.trans (hbd.mono hbc.size)
      have hown : Wd.ownsRow Wb.heap.size 32 7 (.slice a4 Fk.length c4) Fk.length (Fk.flatMap opC) := (hO.keep hbcd).row
      have hTd := hTc.keep hbd
      have hWbs : Wb.heap.size ≤ wr.heap.size := by have := hT.lt; omega
      have hbase : Wb.heap.size ≤ Wd.heap.size := by exact Nat.le_trans hWbs hbcd.size
      have HTd := Lib.hid hTd
      have HAd := Lib.hid hNd
      have HBd := Lib.hid (hbw.trans (hbd.mono (by have := hbw.size; omega)))
      have HN9 : Hid ((P.take (k + 1)).filter (fun o => decide (y.1.1.2.2.2.1 < o.2.2.2.2)) = Fk ++ [(o1, o2, (o3, o4, o5), o6, o7)]) := by show _ = _; rw [HTK.out, if_pos (by simpa using hs)]
      obtain ⟨i0, hi, hz0, hz1, hz2⟩ := info_parts infoOp
      clear hTc hTd hbw hT hO hb hbc hbd hbcd hNc hNd hszc hszd hs hsb hWbs
      go_wp2_with (at_builtin; refine wpList_append_own _ rfl _ _ 22 rfl Wb.heap.size 32 i0 _ 7 56 Tryz.underlying22 hi hz0 hz1 hz2 rfl (by decide) _ _ _ rfl hown ⟨Wc.heap.size, 0, none⟩ 1 1 [Value.int IntKind.i64 o1, Value.int IntKind.i64 o2, Value.int IntKind.i64 o3, Value.int IntKind.i64 o4, Value.int IntKind.i64 o5, Value.int IntKind.i64 o6, Value.int IntKind.i64 o7] rfl rfl ?c1 ?c2 ?c3 ?c4 ?c5 ?_)
      case c1 => intro i u hi; first | exact HAd.out.at i hi | (rw [Addr.add_mid, Nat.zero_add]; exact HAd.out.at i hi)
      case c2 => first | exact opC_one (o1, o2, (o3, o4, o5), o6, o7) | exact ⟨rfl, rfl, rfl, rfl, rfl, rfl, rfl⟩
      case c3 => unfold maxLen; omega
      case c4 => omega
      intro v8 w8 hown' hgrow _
      have hsb := HSb.out
      have hO8 : OwnE opC 7 32 w8 Wb.heap.size v8 (Fk ++ [(o1, o2, (o3, o4, o5), o6, o7)]) := by
        show World.ownsRow _ _ _ _ _ _ _
        simpa [opC] using hown'
      have hgb : ∀ g, (Value.slice a4 Fk.length c4).ownBlock = some g → Wb.heap.size ≤ g := fun g hg => (hown.lt g hg).1
      have hT8 := HTd.out.grown hgrow (by intro e; have := hgb _ e.symm; omega)
      have hB8 : Below W6.heap.size W6 w8 := HBd.out.trans ((below_grown hown hbase hgrow).mono (by omega))
      obtain ⟨a5, c5, hv8, -, -⟩ := hO8.val
      rw [show (Fk ++ [(o1, o2, (o3, o4, o5), o6, o7)]).length = Fk.length + 1 by simp] at hv8
      subst hv8
      have y3 := hT8.at 3 rfl
      have yf := hT8.frz
      have HTf := Lib.hid (hT8.set 3 (by show 3 < 8; decide) (.slice a5 (Fk.length + 1) c5))
      have HOf := Lib.hid (hO8.other W6.heap.size (by omega) 3 (.slice a5 (Fk.length + 1) c5))
      have HBf := Lib.hid (below_sets hB8 W6.heap.size (Nat.le_refl _) [.slice a5 (Fk.length + 1) c5] 3)
      clear hO8 hgb hT8 hB8 hown' hgrow hown hbase HTd HAd HBd hsb
      go_wp2
      go_roundw
      case rel =>
        refine ⟨k + 1, a5, c5, HLT.out, by go_num, ?_, ?_, HBf.out⟩
        · rw [HN9.out, show (Fk ++ [(o1, o2, (o3, o4, o5), o6, o7)]).length = Fk.length + 1 by simp]; exact HTf.out
        · rw [HN9.out, show (Fk ++ [(o1, o2, (o3, o4, o5), o6, o7)]).length = Fk.length + 1 by simp]; exact HOf.out
      case measure => have := HLT.out; simp [intOf]; omega

  · have e3 : (y.1.1.1 == 3) = false := by simpa using t3
    have HD : Hid (deaf ((f, t, s, v), P, R, K, V) y.1 = false) := by show _ = _; rw [HDF.out]; simp [t0, t1, t2, t3]; try omega
    have HE : Hid (hearE ((f, t, s, v), P, R, K, V) me y.1 = 0) := by
      show _ = _
      rw [hear_aft HO0.out HK.out HD.out]
      exact if_neg t3
    obtain ⟨R', hR'⟩ : ∃ q, q = y.1.2.2.1.1 := ⟨_, rfl⟩
    obtain ⟨K', hK'⟩ : ∃ q, q = y.1.2.2.1.2.1 := ⟨_, rfl⟩
    obtain ⟨V', hV'⟩ : ∃ q, q = y.1.2.2.1.2.2 := ⟨_, rfl⟩
    obtain ⟨r1, hr1⟩ : ∃ q, q = y.2.1.1.1 := ⟨_, rfl⟩
    obtain ⟨s1, hs1⟩ : ∃ q, q = y.2.1.1.2 := ⟨_, rfl⟩
    obtain ⟨r2, hr2⟩ : ∃ q, q = y.2.1.2.1.1 := ⟨_, rfl⟩
    obtain ⟨s2, hs2⟩ : ∃ q, q = y.2.1.2.1.2 := ⟨_, rfl⟩
    obtain ⟨r3, hr3⟩ : ∃ q, q = y.2.1.2.2.1 := ⟨_, rfl⟩
    obtain ⟨s3, hs3⟩ : ∃ q, q = y.2.1.2.2.2 := ⟨_, rfl⟩
    have HVW : Hid ((R', K', V') = hearV ((f, t, s, v), P, R, K, V) y.1) := by
      show _ = _
      rw [hR', hK', hV']
      exact (if_neg t3).symm
    have m14 : w3.cell? ⟨w.heap.size + 1, 14, none⟩ = some (.slice r1 R'.length s1) := by rw [hr1, hs1, hR']; exact HM3.out.at 14 rfl
    have m15 : w3.cell? ⟨w.heap.size + 1, 15, none⟩ = some (.slice r2 K'.length s2) := by rw [hr2, hs2, hK']; exact HM3.out.at 15 rfl
    have m16 : w3.cell? ⟨w.heap.size + 1, 16, none⟩ = some (.slice r3 V'.length s3) := by rw [hr3, hs3, hV']; exact HM3.out.at 16 rfl
    obtain ⟨W4, hW4, hV4, hb4, hsz4⟩ := laid1 w3 [Value.slice r1 R'.length s1, .slice r2 K'.length s2, .slice r3 V'.length s3] 26
    have HVA : Hid (VwAt (w.heap.size + 1 + 1) R' K' V' ((r1, s1), (r2, s2), (r3, s3)) W4) := by
      have hb04 := HB3.out.trans (hb4.mono HB3.out.size)
      rw [hR', hK', hV', hr1, hs1, hr2, hs2, hr3, hs3]
      exact ⟨HY0.out.lr.below hb04, HY0.out.lk.below hb04, HY0.out.lv.below hb04, ⟨HY0.out.lr.off (by omega), HY0.out.lk.off (by omega), HY0.out.lv.off (by omega)⟩, HY0.out.nils⟩
    have HN4 := Lib.hid (HN3.out.keep hb4)
    have HM4 := Lib.hid (HM3.out.keep hb4)
    have HR4 := Lib.hid (HR3.out.keep hb4)
    have HB4 := Lib.hid (HB3.out.trans (hb4.mono HB3.out.size))
    have HV4 := Lib.hid hV4
    have HS4 : Hid (w.heap.size + 3 ≤ W4.heap.size) := by show _ ≤ _; have := HS3.out; omega
    have n0 := HM4.out.at 0 rfl
    clear hV4 hb4 hsz4 hR' hK' hV' hr1 hs1 hr2 hs2 hr3 hs3 HN3 HM3 HR3 HB3 HX3 HY3 HRf HBf DEAF HRG HDF ERR HMB c0 c1 c2 c3 c4 c5 c6 c7 cf t0 t1 t2 t3 HKD
    have HPL := Lib.hid (HX0.out.lp.below HB4.out)
    have x0 := HN4.out.at 0 rfl
    have x1 := HN4.out.at 1 rfl
    have x2 := HN4.out.at 2 rfl
    have m4 := HM4.out.at 4 rfl
    have m5 := HM4.out.at 5 rfl
    have v0 := HV4.out.at 0 rfl
    have v1 := HV4.out.at 1 rfl
    have v2 := HV4.out.at 2 rfl
    obtain ⟨Wb, hWb, hNb, hbb, hszb⟩ := laid1 W4 [Value.int .i64 f, .int .i64 (max t y.1.1.2.2.2.2.1), .int .i64 s, .slice none 0 0, .int .i64 y.1.1.2.2.2.2.2.1, .slice r1 R'.length s1, .slice r2 K'.length s2, .slice r3 V'.length s3] 28
    have hp8 : P.length ≤ 8 := HNUM.out.2.2
    have x3 := (HN4.out.keep hbb).at 3 rfl
    have HNb := Lib.hid hNb
    have HBb := Lib.hid hbb
    have HSb : Hid (Wb.heap.size = W4.heap.size + 1) := by show _ = _; omega
    clear hNb hbb hszb
    try simp only
    go_wp2
    clear x0 x1 x2 x3 m4 m5 v0 v1 v2 hWb
    go_loopw [103] (fun i W' => ∃ (k : Nat) (a4 : Option Addr) (c4 : Nat), k ≤ P.length ∧ i = .int .i64 k ∧ Blk W' W4.heap.size [Value.int .i64 f, .int .i64 (max t y.1.1.2.2.2.2.1), .int .i64 s, .slice a4 ((P.take k).filter (fun o => decide (y.1.1.2.2.2.1 < o.2.2.2.2))).length c4, .int .i64 y.1.1.2.2.2.2.2.1, .slice r1 R'.length s1, .slice r2 K'.length s2, .slice r3 V'.length s3] ∧ OwnE opC 7 32 W' Wb.heap.size (.slice a4 ((P.take k).filter (fun o => decide (y.1.1.2.2.2.1 < o.2.2.2.2))).length c4) ((P.take k).filter (fun o => decide (y.1.1.2.2.2.1 < o.2.2.2.2))) ∧ Below W4.heap.size W4 W') (fun i _ => P.length - (intOf i).toNat)
    case atStart => exact ⟨0, none, 0, Nat.zero_le _, rfl, HNb.out, OwnE.nil _ _, HBb.out⟩
    case round =>
      obtain ⟨k, a4, c4, hk, rfl, hT, hO, hb⟩ := hrel
      have hsb := HSb.out
      by_cases hlt : k < P.length
      case neg =>
        have hk' : P.take k = P := List.take_of_length_le (by omega)
        rw [hk'] at hT hO
        obtain ⟨Q, hQ⟩ : ∃ Q, Q = P.filter (fun o => decide (y.1.1.2.2.2.1 < o.2.2.2.2)) := ⟨_, rfl⟩
        rw [← hQ] at hT hO
        obtain ⟨zc, hzc⟩ : ∃ z : Cm, z = (((f, (max t y.1.1.2.2.2.2.1), s, y.1.1.2.2.2.2.2.1), Q, R', K', V'), (a4, c4), (r1, s1), (r2, s2), (r3, s3)) := ⟨_, rfl⟩
        have hN5 : Blk wr W4.heap.size (clC zc) := by rw [hzc]; exact hT
        have hR5 := HR4.out.keep hb
        have HRG := Lib.hid hN5.range
        have HT : Hid (wr.there (w.heap.size + 1 + 1) 0 (clC zc).toArray.size) := hR5.there
        have HO : Hid ((clC zc).toArray.all (·.oneCell') = true) := all_oneCell_toArray (clC_one zc)
        have HSZ : Hid ((Tryz.prog.info? 28).map (·.size) = some (clC zc).toArray.size) := sizeClient
        have HRf := Lib.hid (hR5.sets (clC zc) rfl)
        have HBf := Lib.hid (below_sets (HB4.out.trans (hb.mono HB4.out.size)) (w.heap.size + 1 + 1) (by omega) (clC zc) 0)
        have hv5 := HVA.out.keep hb
        have HVf := Lib.hid (And.intro (hv5.lr.setsO hv5.off.1 (clC zc) 0) (And.intro (hv5.lk.sets hv5.off.2.1 (clC zc) 0) (hv5.lv.sets hv5.off.2.2 (clC zc) 0)))
        have HQf := Lib.hid (hO.others (w.heap.size + 1 + 1) (by have := HS4.out; omega) (clC zc) 0 wr).read
        have HQL : Hid (Q.length ≤ P.length) := by show _ ≤ _; rw [hQ]; exact List.length_filter_le _ _
        have HQ := Lib.hid hQ
        have HZC := Lib.hid hzc
        clear hT hO hb hk' hQ hzc hN5 hR5 hv5 HN4 HM4 HR4 HB4 HV4 HPL HNb HBb hsb
        have hlt' : ¬ ((k : Int) < (P.length : Int)) := by omega
        go_wp2_with (first | (refine wpList_load_mid rfl 28 _ rfl W4.heap.size 0 rfl (clC zc) _ HRG.out Tryz.underlying28 rfl (sizeClientC zc) ?_) | (with_reducible refine at_store 28 ?_; refine wpList_store_mid rfl 28 _ _ rfl (w.heap.size + 1 + 1) 0 (clC zc).toArray rfl rfl HT.out HSZ.out HO.out ?_) | fail)
        refine ret_cell_tmp Tryz.results20 rfl rfl (HRf.out.load Tryz.underlying28 rfl (sizeClientC zc)) ?_
        have hC : hearC ((f, t, s, v), P, R, K, V) me y.1 = heard ((f, t, s, v), P, R, K, V) y.1 := by
          unfold hearC
          rw [if_neg (by rw [HE.out]; simp), if_neg (by rw [HD.out]; simp)]
        have hfew := cl_few (Orangery.heard_ok HE.out HD.out)
        have hh : heard ((f, t, s, v), P, R, K, V) y.1 = ((f, (max t y.1.1.2.2.2.2.1), s, y.1.1.2.2.2.2.2.1), Q, R', K', V') := by
          show ((f, (max t y.1.1.2.2.2.2.1), s, y.1.1.2.2.2.2.2.1), _, _) = _
          rw [HQ.out, HVW.out]
        rw [hh] at hfew
        simp only [ClFew] at hfew
        refine ⟨zc, by rw [HE.out]; rfl, by rw [hC, hh, HZC.out], ?_, HBf.out⟩
        rw [HZC.out] at HQf HVf ⊢
        exact ⟨HQf.out, HVf.out.1, HVf.out.2.1, HVf.out.2.2, ⟨by show Q.length ≤ _; omega, by show R'.length ≤ _; omega, by show K'.length ≤ _; omega, by show V'.length ≤ _; omega⟩, HVA.out.nils⟩
      obtain ⟨b, off, rfl, hbl, hr⟩ := (HPL.out.below hb).at opC_len k hlt
      obtain ⟨g0, g1, g2, g3, g4, g5, g6⟩ := op_cells (w := wr) hr
      have htk : (P.take (k + 1)).filter (fun o => decide (y.1.1.2.2.2.1 < o.2.2.2.2)) = ((P.take k).filter (fun o => decide (y.1.1.2.2.2.1 < o.2.2.2.2))) ++ (if decide (y.1.1.2.2.2.1 < P[k].2.2.2.2) = true then [P[k]] else []) := by
        rw [List.take_succ_eq_append_getElem hlt, List.filter_append]
        congr 1
        by_cases h : y.1.1.2.2.2.1 < P[k].2.2.2.2 <;> simp [h]
      have hfl : ((P.take k).filter (fun o => decide (y.1.1.2.2.2.1 < o.2.2.2.2))).length ≤ 8 := by
        have h9 := List.length_filter_le (fun o => decide (y.1.1.2.2.2.1 < o.2.2.2.2)) (P.take k)
        simp only [List.length_take] at h9
        omega
      have HTK := Lib.hid htk
      have HLT := Lib.hid hlt
      clear hr htk HPL
      have hlt' : (k : Int) < (P.length : Int) := by omega
      generalize P[k] = o at *
      generalize ((P.take k).filter (fun o => decide (y.1.1.2.2.2.1 < o.2.2.2.2))) = Fk at *
      obtain ⟨o1, o2, ⟨o3, o4, o5⟩, o6, o7⟩ := o
      simp only at g0 g1 g2 g3 g4 g5 g6
      obtain ⟨Wc, hWc, hNc, hbc, hszc⟩ := laid1 wr [Value.int IntKind.i64 o1, Value.int IntKind.i64 o2, Value.int IntKind.i64 o3, Value.int IntKind.i64 o4, Value.int IntKind.i64 o5, Value.int IntKind.i64 o6, Value.int IntKind.i64 o7] 32
      have n0 := hNc.at 0 rfl
      have n1 := hNc.at 1 rfl
      have n2 := hNc.at 2 rfl
      have n3 := hNc.at 3 rfl
      have n4 := hNc.at 4 rfl
      have n5 := hNc.at 5 rfl
      have n6 := hNc.at 6 rfl
      have hbw : Below W4.heap.size W4 Wc := hb.trans (hbc.mono (by have := hb.size; omega))
      have mq := (HM4.out.keep hbw).at 3 rfl
      have hTc := hT.keep hbc
      have t3 := hTc.at 3 rfl
      by_cases hs : y.1.1.2.2.2.1 < o7
      case neg =>
        have d9 : decide (o7 > y.1.1.2.2.2.1) = false := by simpa using hs
        have HTc := Lib.hid hTc
        have HOc := Lib.hid (hO.keep hbc)
        have HBw := Lib.hid hbw
        have HN9 : Hid ((P.take (k + 1)).filter (fun o => decide (y.1.1.2.2.2.1 < o.2.2.2.2)) = Fk) := by show _ = _; rw [HTK.out, if_neg (by simpa using hs), List.append_nil]
        clear hTc hbw hT hO hb hbc hNc hszc hs hsb
        go_wp2
        go_roundw
        case rel => exact ⟨k + 1, a4, c4, HLT.out, by go_num, by rw [HN9.out]; exact HTc.out, by rw [HN9.out]; exact HOc.out, HBw.out⟩
        case measure => have := HLT.out; simp [intOf]; omega
      have d9 : decide (o7 > y.1.1.2.2.2.1) = true := by simpa using hs
      obtain ⟨Wd, hWd, hNd, hbd, hszd⟩ := laid1 Wc [Value.int IntKind.i64 o1, Value.int IntKind.i64 o2, Value.int IntKind.i64 o3, Value.int IntKind.i64 o4, Value.int IntKind.i64 o5, Value.int IntKind.i64 o6, Value.int IntKind.i64 o7] 32
      have hbcd : Below wr.heap.size wr Wd := hbc.trans (hbd.mono hbc.size)
      have hown : Wd.ownsRow Wb.heap.size 32 7 (.slice a4 Fk.length c4) Fk.length (Fk.flatMap opC) := (hO.keep hbcd).row
      have hTd := hTc.keep hbd
      have hWbs : Wb.heap.size ≤ wr.heap.size := by have := hT.lt; omega
      have hbase : Wb.heap.size ≤ Wd.heap.size := by exact Nat.le_trans hWbs hbcd.size
      have HTd := Lib.hid hTd
      have HAd := Lib.hid hNd
      have HBd := Lib.hid (hbw.trans (hbd.mono (by have := hbw.size; omega)))
      have HN9 : Hid ((P.take (k + 1)).filter (fun o => decide (y.1.1.2.2.2.1 < o.2.2.2.2)) = Fk ++ [(o1, o2, (o3, o4, o5), o6, o7)]) := by show _ = _; rw [HTK.out, if_pos (by simpa using hs)]
      obtain ⟨i0, hi, hz0, hz1, hz2⟩ := info_parts infoOp
      clear hTc hTd hbw hT hO hb hbc hbd hbcd hNc hNd hszc hszd hs hsb hWbs
      go_wp2_with (at_builtin; refine wpList_append_own _ rfl _ _ 22 rfl Wb.heap.size 32 i0 _ 7 56 Tryz.underlying22 hi hz0 hz1 hz2 rfl (by decide) _ _ _ rfl hown ⟨Wc.heap.size, 0, none⟩ 1 1 [Value.int IntKind.i64 o1, Value.int IntKind.i64 o2, Value.int IntKind.i64 o3, Value.int IntKind.i64 o4, Value.int IntKind.i64 o5, Value.int IntKind.i64 o6, Value.int IntKind.i64 o7] rfl rfl ?e1 ?e2 ?e3 ?e4 ?e5 ?_)
      case e1 => intro i u hi; first | exact HAd.out.at i hi | (rw [Addr.add_mid, Nat.zero_add]; exact HAd.out.at i hi)
      case e2 => first | exact opC_one (o1, o2, (o3, o4, o5), o6, o7) | exact ⟨rfl, rfl, rfl, rfl, rfl, rfl, rfl⟩
      case e3 => unfold maxLen; omega
      case e4 => omega
      intro v8 w8 hown' hgrow _
      have hsb := HSb.out
      have hO8 : OwnE opC 7 32 w8 Wb.heap.size v8 (Fk ++ [(o1, o2, (o3, o4, o5), o6, o7)]) := by
        show World.ownsRow _ _ _ _ _ _ _
        simpa [opC] using hown'
      have hgb : ∀ g, (Value.slice a4 Fk.length c4).ownBlock = some g → Wb.heap.size ≤ g := fun g hg => (hown.lt g hg).1
      have hT8 := HTd.out.grown hgrow (by intro e; have := hgb _ e.symm; omega)
      have hB8 : Below W4.heap.size W4 w8 := HBd.out.trans ((below_grown hown hbase hgrow).mono (by omega))
      obtain ⟨a5, c5, hv8, -, -⟩ := hO8.val
      rw [show (Fk ++ [(o1, o2, (o3, o4, o5), o6, o7)]).length = Fk.length + 1 by simp] at hv8
      subst hv8
      have y3 := hT8.at 3 rfl
      have yf := hT8.frz
      have HTf := Lib.hid (hT8.set 3 (by show 3 < 8; decide) (.slice a5 (Fk.length + 1) c5))
      have HOf := Lib.hid (hO8.other W4.heap.size (by omega) 3 (.slice a5 (Fk.length + 1) c5))
      have HBf := Lib.hid (below_sets hB8 W4.heap.size (Nat.le_refl _) [.slice a5 (Fk.length + 1) c5] 3)
      clear hO8 hgb hT8 hB8 hown' hgrow hown hbase HTd HAd HBd hsb
      go_wp2
      go_roundw
      case rel =>
        refine ⟨k + 1, a5, c5, HLT.out, by go_num, ?_, ?_, HBf.out⟩
        · rw [HN9.out, show (Fk ++ [(o1, o2, (o3, o4, o5), o6, o7)]).length = Fk.length + 1 by simp]; exact HTf.out
        · rw [HN9.out, show (Fk ++ [(o1, o2, (o3, o4, o5), o6, o7)]).length = Fk.length + 1 by simp]; exact HOf.out
      case measure => have := HLT.out; simp [intOf]; omega

end Go.Proofs.YtijjiccgpobjmaeGreat

