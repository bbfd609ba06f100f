/- 1 texts of the proof: The program's client: Hear. -/
import Derived.Test.YtijjiccgpobjmaeGreatP19
/- The program's client: Hear. -/
namespace Go.Proofs.YtijjiccgpobjmaeGreat
open Go.ChangeShapes Go.WideShapes Go.ChangeAt Go.RowKit
open Orangery (Pl Mv Vw Ml Cl noCl noVw clE viewE orI ml1E mlE hearE hearC hearV heard deaf apME apMV apE apR apL)

theorem build_mlwp {Q : Exit → Act → World → Prop} {K : Act → World → Prop} {o : Oper} {x : Operand} {a : Act} {w : World} (ho : o.op = .buildSlice 80 1 #[(0, x)]) (cs : List Value) (hc : cs.length = 21) (hx : a.eval x = .agg cs.toArray)
    (h : K (a.put o.dst (.slice (some ⟨w.heap.size, 0, none⟩) 1 1)) (w.alloc (.cells cs.toArray 52))) : o.wp Tryz.prog a w K Q := by
  obtain ⟨i0, hi, hz0, hz1, hz2⟩ := info_parts infoMail
  refine wp_buildSlice 80 52 1 _ ho cs.toArray i0 _ Tryz.underlying80 hi hz0 (by rw [hz1]; decide) (by rw [hz1]; decide) ?_ h
  have e : (#[(0, x)].map fun (p : Nat × Operand) => (p.1, a.eval p.2)).toList = [(0, Value.agg cs.toArray)] := by simp [hx]
  show Instr.fill _ _ (#[(0, x)].map fun (p : Nat × Operand) => (p.1, a.eval p.2)).toList = _
  rw [e]
  exact build_cells cs hc hz1
theorem SlI.rowed {w w' : World} {a : Option Addr} {l : List Int} {row : Option Nat} (h : SlI w a l) (hg : w.grownBy w' row) (hs : ∀ g, row = some g → OffL g a l) : SlI w' a l := by
  cases row with
  | none => exact h.apartL (D := fun _ => True) (Or.inr fun _ _ _ => trivial) hg.size (fun b _ hl => hg.block b hl (by simp))
  | some g => exact h.apartL (D := (· ≠ g)) (hs g rfl) hg.size (fun b hb hl => hg.block b hl (fun e => hb (by simpa using e)))
theorem SlP.rowed {w w' : World} {a : Option Addr} {l : List Pl} {row : Option Nat} (h : SlP w a l) (hg : w.grownBy w' row) (hs : ∀ g, row = some g → OffL g a l) : SlP w' a l := by
  cases row with
  | none => exact h.apartL (D := fun _ => True) (Or.inr fun _ _ _ => trivial) hg.size (fun b _ hl => hg.block b hl (by simp))
  | some g => exact h.apartL (D := (· ≠ g)) (hs g rfl) hg.size (fun b hb hl => hg.block b hl (fun e => hb (by simpa using e)))
/-- what Hear leaves -/
def Hears (w : World) (c : Cl) (me : Int) (m : Ml) (e : Ending) (w' : World) : Prop :=
  ∃ z : Cm, e = .returned (.tuple #[z.val, .int .i64 (hearE c me m)]) ∧ z.1 = hearC c me m ∧ ClIn w' z ∧ Below w.heap.size w w'
theorem Hears.bad {w w' : World} {c : Cl} {me E : Int} {m : Ml} (h : hearE c me m = E) (h0 : E ≠ 0) (hb : Below w.heap.size w w') : Hears w c me m (.returned (.tuple #[.agg (bareC 0 0).toArray, .int .i64 E])) w' := by
  rw [← h] at h0
  have h1 : hearC c me m = noCl := if_pos h0
  exact ⟨bareM 0 0, by rw [h]; rfl, by rw [h1]; rfl, bareM_in _ _ _, hb⟩
theorem hear_first {c : Cl} {me : Int} {m : Ml} (h : orI (clE c me) (ml1E m) ≠ 0) : hearE c me m = orI (clE c me) (ml1E m) := by
  unfold hearE
  unfold orI at h ⊢
  by_cases h1 : clE c me ≠ 0
  · rw [if_pos h1, if_pos h1]
  · rw [if_neg h1] at h ⊢
    rw [if_neg h1, if_pos h]
theorem hear_form {c : Cl} {me : Int} {m : Ml} (h : orI (clE c me) (ml1E m) = 0) (h2 : m.1.1 = 1 ∨ m.1.2.1 ≠ me) : hearE c me m = 4 := by
  obtain ⟨h3, h4⟩ := Orangery.orI_zero h
  unfold hearE
  rw [if_neg (by simp [h3]), if_neg (by simp [h4]), if_pos h2]
theorem hear_deaf {c : Cl} {me : Int} {m : Ml} (h : orI (clE c me) (ml1E m) = 0) (h2 : ¬ (m.1.1 = 1 ∨ m.1.2.1 ≠ me)) (h5 : deaf c m = true) : hearE c me m = 0 ∧ hearC c me m = c := by
  obtain ⟨h3, h4⟩ := Orangery.orI_zero h
  have e : hearE c me m = 0 := by
    unfold hearE
    rw [if_neg (by simp [h3]), if_neg (by simp [h4]), if_neg h2, if_pos h5]
  refine ⟨e, ?_⟩
  unfold hearC
  rw [if_neg (by simp [e]), if_pos h5]
theorem hear_aft {c : Cl} {me : Int} {m : Ml} (h : orI (clE c me) (ml1E m) = 0) (h2 : ¬ (m.1.1 = 1 ∨ m.1.2.1 ≠ me)) (h5 : deaf c m = false) : hearE c me m = aftE c.2.2 m := by
  obtain ⟨h3, h4⟩ := Orangery.orI_zero h
  unfold hearE
  rw [if_neg (by simp [h3]), if_neg (by simp [h4]), if_neg h2, if_neg (by simp [h5])]
  rfl
theorem aft_view {c : Cl} {m : Ml} (h : aftE c.2.2 m = 0) : aftV c.2.2 m = hearV c m := by
  unfold aftV hearV
  unfold aftE at h
  by_cases hk : m.1.1 = 3
  · rw [if_pos hk] at h
    rw [if_pos hk, if_pos hk, h]
    rfl
  · rw [if_neg hk, if_neg hk]
theorem ml_kind {m : Ml} (h : ml1E m = 0) : 1 ≤ m.1.1 ∧ m.1.1 ≤ 3 := by
  unfold ml1E at h
  split at h
  · omega
  · rename_i h1
    omega

set_option maxHeartbeats 16000000 in
set_option maxRecDepth 100000 in
theorem chear_any (w : World) (x : Cm) (me : Int) (y : Mm) (hx : ClIn w x) (hy : MlIn w y) (hn : MlNil y) :
    Calls Tryz.prog 19 #[x.val, .int .i64 me, y.val] w (Hears w x.1 me y.1) := by
  have CC := Lib.hid (fun W h => ccheck_any W x me h)
  have CN := Lib.hid (fun W h1 h2 => cclone_any W x h1 h2)
  have CI := Lib.hid (fun W h => cisNews_any W x y h)
  obtain ⟨⟨⟨f, t, s, v⟩, P, R, K, V⟩, ⟨aP, cP⟩, ⟨aR, cR⟩, ⟨aK, cK⟩, ⟨aV, cV⟩⟩ := x
  obtain ⟨cy, hcy⟩ : ∃ c, c = mlC y := ⟨_, rfl⟩
  show Calls Tryz.prog _ #[.agg #[Value.int .i64 f, .int .i64 t, .int .i64 s, .slice aP P.length cP, .int .i64 v, .slice aR R.length cR, .slice aK K.length cK, .slice aV V.length cV], .int .i64 me, .agg (mlC y).toArray] w (Hears w ((f, t, s, v), P, R, K, V) me y.1)
  rw [← hcy]
  obtain ⟨W0, hW, hN, hM, hR, hB, hS⟩ := laid3 w [Value.int .i64 f, .int .i64 t, .int .i64 s, .slice aP P.length cP, .int .i64 v, .slice aR R.length cR, .slice aK K.length cK, .slice aV V.length cV] 28 cy 52 [Value.int .i64 0, .int .i64 0, .int .i64 0, .slice none 0 0, .int .i64 0, .slice none 0 0, .slice none 0 0, .slice none 0 0] 28
  rw [hcy] at hM
  have HCY := Lib.hid hcy
  clear hcy
  have HB := Lib.hid hB
  have HX0 := Lib.hid hx
  have HX := Lib.hid (hx.keep hB)
  have HY := Lib.hid (hy.keep hB)
  have HNIL := Lib.hid hn
  have HN := Lib.hid hN
  have HM := Lib.hid hM
  have HR := Lib.hid hR
  have HS0 : Hid (w.heap.size + 3 ≤ W0.heap.size) := by show _ ≤ _; omega
  have HMB : Hid (∀ E w', hearE ((f, t, s, v), P, R, K, V) me y.1 = E → E ≠ 0 → Below w.heap.size w w' → Hears w ((f, t, s, v), P, R, K, V) me y.1 (.returned (.tuple #[.agg (bareC 0 0).toArray, .int .i64 E])) w') := fun E w' h1 h2 h3 => Hears.bad h1 h2 h3
  have ERR : Hid (∀ (W : World), Blk W (w.heap.size + 1 + 1) [Value.int .i64 0, .int .i64 0, .int .i64 0, .slice none 0 0, .int .i64 0, .slice none 0 0, .slice none 0 0, .slice none 0 0] → Below w.heap.size w W →
      (Blk (W.setCells (w.heap.size + 1 + 1) 0 (bareC 0 0)) (w.heap.size + 1 + 1) (bareC 0 0) ∧ Below w.heap.size w (W.setCells (w.heap.size + 1 + 1) 0 (bareC 0 0)))) := by
    intro W h2 h3
    exact ⟨h2.sets (bareC 0 0) rfl, below_sets h3 (w.heap.size + 1 + 1) (by omega) _ 0⟩
  obtain ⟨E1, hE1⟩ : ∃ E, E = clE ((f, t, s, v), P, R, K, V) me := ⟨_, rfl⟩
  obtain ⟨E2, hE2⟩ : ∃ E, E = ml1E y.1 := ⟨_, rfl⟩
  have HE1 := Lib.hid hE1
  have HE2 := Lib.hid hE2
  have HWC : Hid (∀ (W : World) (N : Nat), Blk W N (mlC y) → MlIn W y → Calls Tryz.prog 45 #[.slice (some ⟨N, 0, none⟩) 1 1] W fun e w' => e = .returned (.int .i64 E2) ∧ Below W.heap.size W w') := by
    intro W N h1 h2
    have := wCheck_any W (some ⟨N, 0, none⟩) 1 [y] [y.1] rfl (by unfold maxLen; simp) (one_row h1 h2)
    rw [Orangery.mlE_one, ← hE2] at this
    exact this
  clear hB hx hy hn hN hM hR hS hE1 hE2
  go_enter Tryz.func19, Tryz.ntmps19
  go_upto_region 1 with fail
  clear hW
  go_cut [8] from 13 to 20 (fun u wc => u = .int .i64 (orI E1 E2) ∧ Below W0.heap.size W0 wc)
  case first =>
    refine wp_region_held_drew (S := fun w' => Below W0.heap.size W0 w') (by kernel_rfl) ((Below.refl _ W0).drew) (fun hHeld => ?_)
    refine take_load 0 13 28 w.heap.size [Value.int .i64 f, .int .i64 t, .int .i64 s, .slice aP P.length cP, .int .i64 v, .slice aR R.length cR, .slice aK K.length cK, .slice aV V.length cV] rfl rfl (by kernel_rfl) (by kernel_rfl) (by kernel_rfl) (fun _ _ _ h => h) (by rfl) (by rfl) (by rfl) (fun w hw => (HN.out.keep hw).range) Tryz.underlying28 rfl sizeClient hHeld ?_
    simp only [Act.put, List.setIfInBounds_toArray, List.set_cons_succ, List.set_cons_zero]
    refine take_yes 1 14 (v := ?_) rfl rfl (by kernel_rfl) (by kernel_rfl) (by kernel_rfl) (fun _ _ _ h => h) (by rfl) ?_ hHeld ?_
    rotate_left 1
    · (intro w hSw; go_simp; try with_reducible rfl)
    simp only [Act.put, List.setIfInBounds_toArray, List.set_cons_succ, List.set_cons_zero]
    refine take_load 3 16 52 (w.heap.size + 1) (mlC y) rfl rfl (by kernel_rfl) (by kernel_rfl) (by kernel_rfl) (fun _ _ _ h => h) (by rfl) (by rfl) (by rfl) (fun w hw => (HM.out.keep hw).range) Tryz.underlying52 rfl (sizeMailC y) hHeld ?_
    simp only [Act.put, List.setIfInBounds_toArray, List.set_cons_succ, List.set_cons_zero]
    refine wpAnyH_ready (rs := [2, 4]) (by kernel_rfl) (by simp) ?_
    refine AllReadyH.cons rfl (fun KK hKK => ?_) (AllReadyH.cons rfl (fun KK hKK => ?_) AllReadyH.nil)
    case refine_1 =>
      go_simp
      refine (CC.out _ (HX.out.keep hHeld)).mono ?_
      rintro e w1 ⟨rfl, hb1⟩
      simp only
      rw [← HE1.out]
      have hS1 : Below W0.heap.size W0 w1 := hHeld.trans (hb1.mono hHeld.size)
      go_wp2_with fail
      refine hKK.out _ _ (hS1) (fun hHeld => ?_)
      clear hKK KK
      refine wpAnyH_ready (rs := [4]) (by kernel_rfl) (by simp) ?_
      refine AllReadyH.cons rfl (fun KK hKK => ?_) AllReadyH.nil
      rw [if_pos (by rfl)]
      refine build_mlwp rfl (mlC y) rfl rfl ?_
      have hRow := Blk.new w1 (mlC y) 52
      have hS2 := hHeld.alloc hHeld.size (Obj.cells (mlC y).toArray 52)
      refine hKK.out _ _ (hS2) (fun hHeld => ?_)
      clear hKK KK
      refine wpAnyH_ready (rs := [5]) (by kernel_rfl) (by simp) ?_
      refine AllReadyH.cons rfl (fun KK hKK => ?_) AllReadyH.nil
      go_simp
      refine (HWC.out _ _ hRow (HY.out.keep hHeld)).mono ?_
      rintro e w5 ⟨rfl, hb5⟩
      have hS5 : Below W0.heap.size W0 w5 := hHeld.trans (hb5.mono hHeld.size)
      go_wp2_with fail
      refine hKK.out _ _ (hS5) (fun hHeld => ?_)
      clear hKK KK
      refine wpAnyH_ready (rs := [6]) (by kernel_rfl) (by simp) ?_
      refine AllReadyH.cons rfl (fun KK hKK => ?_) AllReadyH.nil
      go_simp
      have hN6 := Blk.new w5 [Value.int IntKind.i64 E1, Value.int IntKind.i64 E2] 33
      refine hKK.out _ _ (hHeld.alloc hHeld.size _) (fun hHeld => ?_)
      clear hKK KK
      refine wpAnyH_ready (rs := [7]) (by kernel_rfl) (by simp) ?_
      refine AllReadyH.cons rfl (fun KK hKK => ?_) AllReadyH.nil
      go_simp
      refine (orE_any _ w5.heap.size 2 E1 E2 (hN6.at 0 rfl) (hN6.at 1 rfl)).mono ?_
      rintro e _ ⟨rfl, rfl⟩
      go_wp2_with fail
      refine hKK.out _ _ (hHeld) (fun hHeld => ?_)
      clear hKK KK
      refine take_yes 8 8 (v := ?_) rfl rfl (by kernel_rfl) (by kernel_rfl) (by kernel_rfl) (fun _ _ _ h => h) (by rfl) ?_ hHeld ?_
      rotate_left 1
      · (intro w hSw; go_simp; try with_reducible rfl)
      simp only [Act.put, List.setIfInBounds_toArray, List.set_cons_succ, List.set_cons_zero]
      refine wpAnyH_done (by kernel_rfl) ?_ _
      have HH := Lib.hid hHeld
      clear hHeld
      go_wp2
      go_meet
      case rel => exact ⟨rfl, HH.out⟩
    case refine_2 =>
      rw [if_pos (by rfl)]
      refine build_mlwp rfl (mlC y) rfl rfl ?_
      have hRow := Blk.new W0.drew (mlC y) 52
      have hS2 := hHeld.alloc hHeld.size (Obj.cells (mlC y).toArray 52)
      refine hKK.out _ _ (hS2) (fun hHeld => ?_)
      clear hKK KK
      refine wpAnyH_ready (rs := [2]) (by kernel_rfl) (by simp) ?_
      refine AllReadyH.cons rfl (fun KK hKK => ?_) AllReadyH.nil
      have hRow0 := hRow
      go_simp
      refine (CC.out _ (HX.out.keep hHeld)).mono ?_
      rintro e w1 ⟨rfl, hb1⟩
      simp only
      rw [← HE1.out]
      have hS1 : Below W0.heap.size W0 w1 := hHeld.trans (hb1.mono hHeld.size)
      go_wp2_with fail
      refine hKK.out _ _ (hS1) (fun hHeld => ?_)
      clear hKK KK
      refine wpAnyH_ready (rs := [5]) (by kernel_rfl) (by simp) ?_
      refine AllReadyH.cons rfl (fun KK hKK => ?_) AllReadyH.nil
      go_simp
      refine (HWC.out _ _ (hRow0.keep hb1) (HY.out.keep hHeld)).mono ?_
      rintro e w5 ⟨rfl, hb5⟩
      have hS5 : Below W0.heap.size W0 w5 := hHeld.trans (hb5.mono hHeld.size)
      go_wp2_with fail
      refine hKK.out _ _ (hS5) (fun hHeld => ?_)
      clear hKK KK
      refine wpAnyH_ready (rs := [6]) (by kernel_rfl) (by simp) ?_
      refine AllReadyH.cons rfl (fun KK hKK => ?_) AllReadyH.nil
      go_simp
      have hN6 := Blk.new w5 [Value.int IntKind.i64 E1, Value.int IntKind.i64 E2] 33
      refine hKK.out _ _ (hHeld.alloc hHeld.size _) (fun hHeld => ?_)
      clear hKK KK
      refine wpAnyH_ready (rs := [7]) (by kernel_rfl) (by simp) ?_
      refine AllReadyH.cons rfl (fun KK hKK => ?_) AllReadyH.nil
      go_simp
      refine (orE_any _ w5.heap.size 2 E1 E2 (hN6.at 0 rfl) (hN6.at 1 rfl)).mono ?_
      rintro e _ ⟨rfl, rfl⟩
      go_wp2_with fail
      refine hKK.out _ _ (hHeld) (fun hHeld => ?_)
      clear hKK KK
      refine take_yes 8 8 (v := ?_) rfl rfl (by kernel_rfl) (by kernel_rfl) (by kernel_rfl) (fun _ _ _ h => h) (by rfl) ?_ hHeld ?_
      rotate_left 1
      · (intro w hSw; go_simp; try with_reducible rfl)
      simp only [Act.put, List.setIfInBounds_toArray, List.set_cons_succ, List.set_cons_zero]
      refine wpAnyH_done (by kernel_rfl) ?_ _
      have HH := Lib.hid hHeld
      clear hHeld
      go_wp2
      go_meet
      case rel => exact ⟨rfl, HH.out⟩
  case rest =>
  obtain ⟨rfl, hb3⟩ := hcut
  rename World => W1
  have HN1 := Lib.hid (HN.out.keep hb3)
  have HM1 := Lib.hid (HM.out.keep hb3)
  have HR1 := Lib.hid (HR.out.keep hb3)
  have HX1 := Lib.hid (HX.out.keep hb3)
  have HY1 := Lib.hid (HY.out.keep hb3)
  have HB1 := Lib.hid (HB.out.trans (hb3.mono HB.out.size))
  have HS1 : Hid (w.heap.size + 3 ≤ W1.heap.size) := by show _ ≤ _; have := hb3.size; have := HS0.out; omega
  clear hb3 HN HM HR HX HY HB HS0 CC HWC
  have HOR : Hid (orI E1 E2 = orI (clE ((f, t, s, v), P, R, K, V) me) (ml1E y.1)) := by show _ = _; rw [HE1.out, HE2.out]
  by_cases hz : orI E1 E2 = 0
  case neg =>
    have HE : Hid (hearE ((f, t, s, v), P, R, K, V) me y.1 = orI E1 E2) := by
      show _ = _
      rw [HOR.out]
      exact hear_first (by rw [← HOR.out]; exact hz)
    have hz' : (orI E1 E2 != 0) = true := by simpa using hz
    have HZ := Lib.hid hz
    clear hz HOR HE1 HE2 CN CI HX1 HN1 HM1 HY1 HX0 HNIL HCY
    generalize orI E1 E2 = E at *
    have h3 := Lib.hid (ERR.out W1 HR1.out HB1.out)
    have c0 := HR1.out.at 0 rfl
    have c1 := HR1.out.at 1 rfl
    have c2 := HR1.out.at 2 rfl
    have c3 := HR1.out.at 3 rfl
    have c4 := HR1.out.at 4 rfl
    have c5 := HR1.out.at 5 rfl
    have c6 := HR1.out.at 6 rfl
    have c7 := HR1.out.at 7 rfl
    have cf := HR1.out.frz
    go_wp2
    refine ret_cell_tmp Tryz.results19 rfl rfl (h3.out.1.load Tryz.underlying28 rfl sizeClient) ?_
    exact HMB.out E _ HE.out HZ.out h3.out.2
  have HO0 : Hid (orI (clE ((f, t, s, v), P, R, K, V) me) (ml1E y.1) = 0) := by show _ = _; rw [← HOR.out]; exact hz
  have HFEW := Lib.hid (cl_few (Orangery.orI_zero HO0.out).1)
  have HNUM := Lib.hid (cl_nums (Orangery.orI_zero HO0.out).1)
  have HMF := Lib.hid (ml1_few (Orangery.orI_zero HO0.out).2)
  have hkind := ml_kind (Orangery.orI_zero HO0.out).2
  have HCLE := Lib.hid (Orangery.orI_zero HO0.out).1
  rw [hz]
  clear hz HOR HE1 HE2
  have m0 := HM1.out.at 0 rfl
  have m1 := HM1.out.at 1 rfl
  by_cases hk : y.1.1.1 = 1 ∨ y.1.1.2.1 ≠ me
  · have HE : Hid (hearE ((f, t, s, v), P, R, K, V) me y.1 = 4) := hear_form HO0.out hk
    have h3 := Lib.hid (ERR.out W1 HR1.out HB1.out)
    have c0 := HR1.out.at 0 rfl
    have c1 := HR1.out.at 1 rfl
    have c2 := HR1.out.at 2 rfl
    have c3 := HR1.out.at 3 rfl
    have c4 := HR1.out.at 4 rfl
    have c5 := HR1.out.at 5 rfl
    have c6 := HR1.out.at 6 rfl
    have c7 := HR1.out.at 7 rfl
    have cf := HR1.out.frz
    by_cases hk1 : y.1.1.1 = 1
    · have d1 : (y.1.1.1 == 1) = true := by simpa using hk1
      clear hk hk1 hkind HO0 CN CI HX1 HN1 HM1 HY1 HX0 HNIL HCY HFEW HNUM HMF HCLE m1
      go_wp2
      refine ret_cell_tmp Tryz.results19 rfl rfl (h3.out.1.load Tryz.underlying28 rfl sizeClient) ?_
      exact HMB.out 4 _ HE.out (by decide) h3.out.2
    · have d1 : (y.1.1.1 == 1) = false := by simpa using hk1
      have d2 : (y.1.1.2.1 != me) = true := by
        rcases hk with h | h
        · exact absurd h hk1
        · simpa using h
      clear hk hk1 hkind HO0 CN CI HX1 HN1 HM1 HY1 HX0 HNIL HCY HFEW HNUM HMF HCLE
      go_wp2
      refine ret_cell_tmp Tryz.results19 rfl rfl (h3.out.1.load Tryz.underlying28 rfl sizeClient) ?_
      exact HMB.out 4 _ HE.out (by decide) h3.out.2
  have HK := Lib.hid hk
  have hk1 : ¬ y.1.1.1 = 1 := fun h => hk (Or.inl h)
  have hk2 : y.1.1.2.1 = me := Decidable.not_not.1 (fun h => hk (Or.inr h))
  have HKD : Hid (y.1.1.1 = 2 ∨ y.1.1.1 = 3) := by show _ ∨ _; omega
  have d1 : (y.1.1.1 == 1) = false := by simpa using hk1
  have d2 : (y.1.1.2.1 != me) = false := by simpa using hk2
  clear hk hk1 hk2 hkind
  have HRG := Lib.hid HN1.out.range
  go_wp2_with (first | (refine wpList_load_mid rfl 28 _ rfl w.heap.size 0 rfl [Value.int .i64 f, .int .i64 t, .int .i64 s, .slice aP P.length cP, .int .i64 v, .slice aR R.length cR, .slice aK K.length cK, .slice aV V.length cV] _ HRG.out Tryz.underlying28 rfl sizeClient ?_) | fail)
  refine (CN.out W1 HX1.out HFEW.out).mono ?_
  rintro e w4 ⟨⟨y1, ⟨a0, c0⟩, ⟨b0, d0⟩, ⟨b1, d3⟩, ⟨b2, d4⟩⟩, rfl, hy1, hcn, hb4⟩
  obtain rfl : y1 = ((f, t, s, v), P, R, K, V) := hy1
  obtain ⟨W5, hW5, hN5, hb5, hsz5⟩ := laid1 w4 [Value.int .i64 f, .int .i64 t, .int .i64 s, .slice a0 P.length c0, .int .i64 v, .slice b0 R.length d0, .slice b1 K.length d3, .slice b2 V.length d4] 28
  have hb15 : Below W1.heap.size W1 W5 := hb4.trans (hb5.mono hb4.size)
  have HBX := Lib.hid hN5
  have HCN := Lib.hid (hcn.keep hb5)
  have HOFF : Hid (∀ g, (Value.slice a0 P.length c0).ownBlock = some g → W1.heap.size ≤ g ∧ g < w4.heap.size) := fun g hg => hcn.own.row.lt g hg
  have HN5 := Lib.hid (HN1.out.keep hb15)
  have HM5 := Lib.hid (HM1.out.keep hb15)
  have HR5 := Lib.hid (HR1.out.keep hb15)
  have HX5 := Lib.hid (HX1.out.keep hb15)
  have HY5 := Lib.hid (HY1.out.keep hb15)
  have HB5 := Lib.hid (HB1.out.trans (hb15.mono HB1.out.size))
  have HS5 : Hid (W1.heap.size ≤ w4.heap.size ∧ w4.heap.size < W5.heap.size) := ⟨hb4.size, by omega⟩
  have HRG5 := Lib.hid HN5.out.range
  have HRM5 := Lib.hid HM5.out.range
  clear hcn hb4 hb5 hb15 hN5 hsz5 HN1 HM1 HR1 HX1 HY1 HB1 HRG CN m0 m1 d1 d2
  rw [show Cm.val (((f, t, s, v), P, R, K, V), (a0, c0), (b0, d0), (b1, d3), (b2, d4)) = Value.agg #[Value.int .i64 f, .int .i64 t, .int .i64 s, .slice a0 P.length c0, .int .i64 v, .slice b0 R.length d0, .slice b1 K.length d3, .slice b2 V.length d4] from rfl]
  go_wp2_with (first | (refine wpList_load_mid rfl 28 _ rfl w.heap.size 0 rfl [Value.int .i64 f, .int .i64 t, .int .i64 s, .slice aP P.length cP, .int .i64 v, .slice aR R.length cR, .slice aK K.length cK, .slice aV V.length cV] _ HRG5.out Tryz.underlying28 rfl sizeClient ?_) | (refine wpList_load_mid rfl 52 _ rfl (w.heap.size + 1) 0 rfl (mlC y) _ HRM5.out Tryz.underlying52 rfl (sizeMailC y) ?_) | fail)
  refine (CI.out W5 HKD.out).mono ?_
  rintro e w6 ⟨rfl, hb6⟩
  have HBX6 := Lib.hid (HBX.out.keep hb6)
  have HCN6 := Lib.hid (HCN.out.keep hb6)
  have HN6 := Lib.hid (HN5.out.keep hb6)
  have HM6 := Lib.hid (HM5.out.keep hb6)
  have HR6 := Lib.hid (HR5.out.keep hb6)
  have HX6 := Lib.hid (HX5.out.keep hb6)
  have HY6 := Lib.hid (HY5.out.keep hb6)
  have HB6 := Lib.hid (HB5.out.trans (hb6.mono HB5.out.size))
  have HS6 : Hid (W5.heap.size ≤ w6.heap.size) := hb6.size
  clear hb6 hW5 HBX HCN HN5 HM5 HR5 HX5 HY5 HB5 HRG5 HRM5 CI
  simp only
  cases hd : deaf ((f, t, s, v), P, R, K, V) y.1
  case true =>
    have HE := Lib.hid (hear_deaf HO0.out HK.out hd)
    obtain ⟨zc, hzc⟩ : ∃ z : Cm, z = (((f, t, s, v), P, R, K, V), (a0, c0), (b0, d0), (b1, d3), (b2, d4)) := ⟨_, rfl⟩
    have hN7 : Blk w6 w4.heap.size (clC zc) := by rw [hzc]; exact HBX6.out
    have hC7 : ClNew W1.heap.size zc w6 := by rw [hzc]; exact HCN6.out
    have HZ1 : Hid (zc.1 = ((f, t, s, v), P, R, K, V)) := by show _ = _; rw [hzc]
    have HRG := Lib.hid hN7.range
    have HC7 := Lib.hid hC7
    have HT : Hid (w6.there (w.heap.size + 1 + 1) 0 (clC zc).toArray.size) := HR6.out.there
    have HO : Hid ((clC zc).toArray.all (·.oneCell') = true) := all_oneCell_toArray (clC_one zc)
    have HS : Hid ((Tryz.prog.info? 28).map (·.size) = some (clC zc).toArray.size) := sizeClient
    have HRf := Lib.hid (HR6.out.sets (clC zc) rfl)
    have HBf := Lib.hid (below_sets HB6.out (w.heap.size + 1 + 1) (by omega) (clC zc) 0)
    have HCf := Lib.hid (hC7.sets (w.heap.size + 1 + 1) (by have := HS1.out; omega) (clC zc) 0)
    clear hd hzc hN7 hC7 HBX6 HCN6 HN6 HM6 HR6 HX6 HY6 HB6 HMB ERR HX0 HNIL HCY HNUM HMF
    go_wp2_with (first | (refine wpList_load_mid rfl 28 _ rfl w4.heap.size 0 rfl (clC zc) _ HRG.out Tryz.underlying28 rfl (sizeClientC zc) ?_) | (with_reducible refine at_store 28 ?_; refine wpList_store_mid rfl 28 _ _ rfl (w.heap.size + 1 + 1) 0 (clC zc).toArray rfl rfl HT.out HS.out HO.out ?_) | fail)
    refine ret_cell_tmp Tryz.results19 rfl rfl (HRf.out.load Tryz.underlying28 rfl (sizeClientC zc)) ?_
    exact ⟨zc, by rw [HE.out.1]; rfl, by rw [HE.out.2]; exact HZ1.out, HCf.out.inn (by rw [HZ1.out]; exact HFEW.out), HBf.out⟩
  have HAE := Lib.hid (hear_aft HO0.out HK.out hd)
  have HD := Lib.hid hd
  clear hd
  have x5 := HN6.out.at 5 rfl
  have x6 := HN6.out.at 6 rfl
  have x7 := HN6.out.at 7 rfl
  have HRM6 := Lib.hid HM6.out.range
  obtain ⟨⟨R', K', V'⟩, hV'⟩ : ∃ q : Vw, q = aftV (R, K, V) y.1 := ⟨_, rfl⟩
  obtain ⟨E, hEE⟩ : ∃ E, E = aftE (R, K, V) y.1 := ⟨_, rfl⟩
  have HCA := cviewAfter_any w6 (R, K, V) ((aR, cR), (aK, cK), (aV, cV)) y HX6.out.lr HX6.out.lk HX6.out.lv ⟨HFEW.out.2.1, HFEW.out.2.2.1, HFEW.out.2.2.2⟩ HX6.out.nils.2 HY6.out HNIL.out HMF.out
  rw [← hV', ← hEE] at HCA
  have HCA := Lib.hid HCA
  have HEE := Lib.hid hEE
  have HVV := Lib.hid hV'
  clear hV' hEE
  go_wp2_with (first | (refine wpList_load_mid rfl 52 _ rfl (w.heap.size + 1) 0 rfl (mlC y) _ HRM6.out Tryz.underlying52 rfl (sizeMailC y) ?_) | fail)
  refine HCA.out.mono ?_
  rintro e w7 ⟨⟨⟨r1, s1⟩, ⟨r2, s2⟩, ⟨r3, s3⟩⟩, rfl, hq, hb7⟩
  obtain ⟨W8, hW8, hV8, hb8, hsz8⟩ := laid1 w7 [Value.slice r1 R'.length s1, .slice r2 K'.length s2, .slice r3 V'.length s3] 26
  have hb68 : Below w6.heap.size w6 W8 := hb7.trans (hb8.mono hb7.size)
  have HV8 := Lib.hid hV8
  have HQ8 : Hid (SlI W8 r1 R' ∧ SlP W8 r2 K' ∧ SlP W8 r3 V') := ⟨hq.lr.below hb8, hq.lk.below hb8, hq.lv.below hb8⟩
  have HOF : Hid (∀ g, w.heap.size ≤ g → g < w6.heap.size → OffL g r1 R' ∧ OffL g r2 K' ∧ OffL g r3 V') := by
    intro g h1 h2
    refine ⟨?_, hq.ik.off (fun b hb => by omega), hq.iv.off (fun b hb => by omega)⟩
    rcases hq.ir with ⟨h3, h4⟩ | h3
    · simp only at h3 h4
      subst h3
      rcases h4 with h4 | h4
      · rw [h4]; exact HX0.out.lr.off h1
      · exact Or.inl h4
    · exact h3.off (fun b hb => by omega)
  have HNQ : Hid ((r2 = none → s2 = 0) ∧ (r3 = none → s3 = 0)) := ⟨hq.nk, hq.nv⟩
  have HBX8 := Lib.hid (HBX6.out.keep hb68)
  have HOW8 := Lib.hid (HCN6.out.own.keep hb68)
  have HN8 := Lib.hid (HN6.out.keep hb68)
  have HM8 := Lib.hid (HM6.out.keep hb68)
  have HR8 := Lib.hid (HR6.out.keep hb68)
  have HB8 := Lib.hid (HB6.out.trans (hb68.mono HB6.out.size))
  have HS8 : Hid (w6.heap.size ≤ w7.heap.size ∧ w7.heap.size < W8.heap.size) := ⟨hb7.size, by omega⟩
  clear hq hb7 hb8 hb68 hV8 hsz8 HBX6 HCN6 HN6 HM6 HR6 HX6 HY6 HB6 HRM6 HCA x5 x6 x7 HX0 HNIL HCY HKD HMF
  by_cases hE0 : E = 0
  case neg =>
    have hE0' : (E != 0) = true := by simpa using hE0
    have HE : Hid (hearE ((f, t, s, v), P, R, K, V) me y.1 = E) := by show _ = _; rw [HAE.out, HEE.out]
    have HZ := Lib.hid hE0
    clear hE0 HAE HEE HV8 HQ8 HOF HNQ HBX8 HOW8 HN8 HM8 HVV
    have h3 := Lib.hid (ERR.out W8 HR8.out HB8.out)
    have c0 := HR8.out.at 0 rfl
    have c1 := HR8.out.at 1 rfl
    have c2 := HR8.out.at 2 rfl
    have c3 := HR8.out.at 3 rfl
    have c4 := HR8.out.at 4 rfl
    have c5 := HR8.out.at 5 rfl
    have c6 := HR8.out.at 6 rfl
    have c7 := HR8.out.at 7 rfl
    have cf := HR8.out.frz
    simp only
    go_wp2
    refine ret_cell_tmp Tryz.results19 rfl rfl (h3.out.1.load Tryz.underlying28 rfl sizeClient) ?_
    exact HMB.out E _ HE.out HZ.out h3.out.2
  have HE : Hid (hearE ((f, t, s, v), P, R, K, V) me y.1 = 0) := by show _ = _; rw [HAE.out, ← HEE.out]; exact hE0
  have HVW : Hid ((R', K', V') = hearV ((f, t, s, v), P, R, K, V) y.1) := by
    show _ = _
    rw [HVV.out]
    exact aft_view (c := ((f, t, s, v), P, R, K, V)) (by rw [← HEE.out]; exact hE0)
  rw [hE0]
  clear hE0 HAE HEE HVV ERR HMB
  obtain ⟨nv, hnv⟩ : ∃ z, z = y.1.1.2.2.2.2.2.1 := ⟨_, rfl⟩
  obtain ⟨nt, hnt⟩ : ∃ z, z = y.1.1.2.2.2.2.1 := ⟨_, rfl⟩
  have HNVT := Lib.hid (And.intro hnv hnt)
  have m5 : ∀ W, Blk W (w.heap.size + 1) (mlC y) → W.cell? ⟨w.heap.size + 1, 5, none⟩ = some (.int .i64 nv) := fun W h => by rw [hnv]; exact h.at 5 rfl
  have m4 : ∀ W, Blk W (w.heap.size + 1) (mlC y) → W.cell? ⟨w.heap.size + 1, 4, none⟩ = some (.int .i64 nt) := fun W h => by rw [hnt]; exact h.at 4 rfl
  have HM5 := Lib.hid m5
  have HM4 := Lib.hid m4
  clear hnv hnt m5 m4
  obtain ⟨mx, hmx⟩ : ∃ z : Int, z = max t nt := ⟨_, rfl⟩
  have HMX := Lib.hid hmx.symm
  clear hmx
  simp only
  go_upto_region 12 with fail
  clear hW8
  refine wp_region_held_drew (S := fun w' => Blk w' w7.heap.size [Value.slice r1 R'.length s1, .slice r2 K'.length s2, .slice r3 V'.length s3] ∧ Blk w' (w.heap.size + 1) (mlC y) ∧ Blk w' w.heap.size [Value.int .i64 f, .int .i64 t, .int .i64 s, .slice aP P.length cP, .int .i64 v, .slice aR R.length cR, .slice aK K.length cK, .slice aV V.length cV]) (by kernel_rfl) ⟨HV8.out, HM8.out, HN8.out⟩ (fun hHeld => ?_)
  refine take_load 0 53 26 w7.heap.size [Value.slice r1 R'.length s1, .slice r2 K'.length s2, .slice r3 V'.length s3] rfl rfl (by kernel_rfl) (by kernel_rfl) (by kernel_rfl) (fun _ _ _ h => h) (by rfl) (by rfl) (by rfl) (fun w hw => hw.1.range) Tryz.underlying26 rfl sizeView hHeld ?_
  simp only [Act.put, List.setIfInBounds_toArray, List.set_cons_succ, List.set_cons_zero]
  refine take_yes 1 54 (v := ?_) rfl rfl (by kernel_rfl) (by kernel_rfl) (by kernel_rfl) (fun _ _ _ h => h) (by rfl) ?_ hHeld ?_
  rotate_left 1
  · (intro w9 hSw; skip; go_simp; try with_reducible rfl)
  simp only [Act.put, List.setIfInBounds_toArray, List.set_cons_succ, List.set_cons_zero]
  refine take_yes 2 55 (v := ?_) rfl rfl (by kernel_rfl) (by kernel_rfl) (by kernel_rfl) (fun _ _ _ h => h) (by rfl) ?_ hHeld ?_
  rotate_left 1
  · (intro w9 hSw; have q5 := HM5.out _ hSw.2.1; go_simp; try with_reducible rfl)
  simp only [Act.put, List.setIfInBounds_toArray, List.set_cons_succ, List.set_cons_zero]
  refine take_yes 3 56 (v := ?_) rfl rfl (by kernel_rfl) (by kernel_rfl) (by kernel_rfl) (fun _ _ _ h => h) (by rfl) ?_ hHeld ?_
  rotate_left 1
  · (intro w9 hSw; skip; go_simp; try with_reducible rfl)
  simp only [Act.put, List.setIfInBounds_toArray, List.set_cons_succ, List.set_cons_zero]
  refine take_yes 4 57 (v := ?_) rfl rfl (by kernel_rfl) (by kernel_rfl) (by kernel_rfl) (fun _ _ _ h => h) (by rfl) ?_ hHeld ?_
  rotate_left 1
  · (intro w9 hSw; have q1 := hSw.2.2.at 1 rfl; go_simp; try with_reducible rfl)
  simp only [Act.put, List.setIfInBounds_toArray, List.set_cons_succ, List.set_cons_zero]
  refine take_yes 5 58 (v := ?_) rfl rfl (by kernel_rfl) (by kernel_rfl) (by kernel_rfl) (fun _ _ _ h => h) (by rfl) ?_ hHeld ?_
  rotate_left 1
  · (intro w9 hSw; skip; go_simp; try with_reducible rfl)
  simp only [Act.put, List.setIfInBounds_toArray, List.set_cons_succ, List.set_cons_zero]
  refine take_yes 6 59 (v := ?_) rfl rfl (by kernel_rfl) (by kernel_rfl) (by kernel_rfl) (fun _ _ _ h => h) (by rfl) ?_ hHeld ?_
  rotate_left 1
  · (intro w9 hSw; have q4 := HM4.out _ hSw.2.1; go_simp; try with_reducible rfl)
  simp only [Act.put, List.setIfInBounds_toArray, List.set_cons_succ, List.set_cons_zero]
  refine take_yes 7 60 (v := .int .i64 mx) rfl rfl (by kernel_rfl) (by kernel_rfl) (by kernel_rfl) (fun _ _ _ h => h) (by rfl) ?_ hHeld ?_
  · intro w9 hSw
    go_simp
    exact HMX.out
  simp only [Act.put, List.setIfInBounds_toArray, List.set_cons_succ, List.set_cons_zero]
  refine take_yes 8 61 (v := ?_) rfl rfl (by kernel_rfl) (by kernel_rfl) (by kernel_rfl) (fun _ _ _ h => h) (by rfl) ?_ hHeld ?_
  rotate_left 1
  · (intro w9 hSw; skip; go_simp; try with_reducible rfl)
  simp only [Act.put, List.setIfInBounds_toArray, List.set_cons_succ, List.set_cons_zero]
  have hs1 := HS1.out
  have hs5 := HS5.out
  have hs6 := HS6.out
  have hs8 := HS8.out
  have hne : (Value.slice a0 P.length c0).ownBlock ≠ some w4.heap.size := fun e => by have := (HOFF.out _ e).2; omega
  have HNE := Lib.hid hne
  have HO9 := Lib.hid (HOF.out w4.heap.size (by omega) (by omega))
  have hHeld9 : Blk (W8.drew.setCells w4.heap.size 5 [Value.slice r1 R'.length s1, .slice r2 K'.length s2, .slice r3 V'.length s3]) w7.heap.size [Value.slice r1 R'.length s1, .slice r2 K'.length s2, .slice r3 V'.length s3] ∧ Blk (W8.drew.setCells w4.heap.size 5 [Value.slice r1 R'.length s1, .slice r2 K'.length s2, .slice r3 V'.length s3]) (w.heap.size + 1) (mlC y) ∧ Blk (W8.drew.setCells w4.heap.size 5 [Value.slice r1 R'.length s1, .slice r2 K'.length s2, .slice r3 V'.length s3]) w.heap.size [Value.int .i64 f, .int .i64 t, .int .i64 s, .slice aP P.length cP, .int .i64 v, .slice aR R.length cR, .slice aK K.length cK, .slice aV V.length cV] := ⟨hHeld.1.others (by omega) _ _, hHeld.2.1.others (by omega) _ _, hHeld.2.2.others (by omega) _ _⟩
  refine step_store_at 9 26 w4.heap.size 5 [Value.slice r1 R'.length s1, .slice r2 K'.length s2, .slice r3 V'.length s3] (by kernel_rfl) rfl rfl (by rfl) (by rfl) (by rfl) (by rfl) (HBX8.out.drew.part (us := [Value.slice r1 R'.length s1, .slice r2 K'.length s2, .slice r3 V'.length s3]) (by show 5 + 3 ≤ 8; decide)) sizeView (by intro u hu; simp at hu; rcases hu with rfl | rfl | rfl <;> rfl) hHeld9 ?_
  have hBX9 : Blk (W8.drew.setCells w4.heap.size 5 [Value.slice r1 R'.length s1, .slice r2 K'.length s2, .slice r3 V'.length s3]) w4.heap.size [Value.int .i64 f, .int .i64 t, .int .i64 s, .slice a0 P.length c0, .int .i64 v, .slice r1 R'.length s1, .slice r2 K'.length s2, .slice r3 V'.length s3] := ((HBX8.out.drew.set 5 (by show 5 < 8; decide) (.slice r1 R'.length s1)).set 6 (by show 6 < 8; decide) (.slice r2 K'.length s2)).set 7 (by show 7 < 8; decide) (.slice r3 V'.length s3)
  have hOW9 := HOW8.out.drew.off w4.heap.size HNE.out [Value.slice r1 R'.length s1, .slice r2 K'.length s2, .slice r3 V'.length s3] 5
  have hq1 : SlI W8.drew r1 R' := HQ8.out.1
  have hq2 : SlP W8.drew r2 K' := HQ8.out.2.1
  have hq3 : SlP W8.drew r3 V' := HQ8.out.2.2
  have hQ9 := And.intro (hq1.setsO HO9.out.1 [Value.slice r1 R'.length s1, .slice r2 K'.length s2, .slice r3 V'.length s3] 5) (And.intro (hq2.sets HO9.out.2.1 [Value.slice r1 R'.length s1, .slice r2 K'.length s2, .slice r3 V'.length s3] 5) (hq3.sets HO9.out.2.2 [Value.slice r1 R'.length s1, .slice r2 K'.length s2, .slice r3 V'.length s3] 5))
  have hR9 := HR8.out.drew.others (g := w4.heap.size) (by omega) [Value.slice r1 R'.length s1, .slice r2 K'.length s2, .slice r3 V'.length s3] 5
  have hB9 := below_sets HB8.out.drew w4.heap.size (by omega) [Value.slice r1 R'.length s1, .slice r2 K'.length s2, .slice r3 V'.length s3] 5
  clear hHeld hq1 hq2 hq3 HBX8 HOW8 HQ8 HR8 HB8 HV8 HN8 HM8 hne
  generalize W8.drew.setCells w4.heap.size 5 [Value.slice r1 R'.length s1, .slice r2 K'.length s2, .slice r3 V'.length s3] = W9 at *
  have hHeld := hHeld9
  refine take_yes 10 62 (v := ?_) rfl rfl (by kernel_rfl) (by kernel_rfl) (by kernel_rfl) (fun _ _ _ h => h) (by rfl) ?_ hHeld ?_
  rotate_left 1
  · (intro w9 hSw; skip; go_simp; try with_reducible rfl)
  simp only [Act.put, List.setIfInBounds_toArray, List.set_cons_succ, List.set_cons_zero]
  have z4 := hBX9.at 4 rfl
  have zf := hBX9.frz
  refine wpAnyH_ready (rs := [11]) (by kernel_rfl) (by simp) ?_
  refine AllReadyH.cons rfl (fun KK hKK => ?_) AllReadyH.nil
  go_simp
  go_wp2_with fail
  have hHeld10 : Blk (W9.setCell ⟨w4.heap.size, 4, none⟩ (.int .i64 nv)) w7.heap.size [Value.slice r1 R'.length s1, .slice r2 K'.length s2, .slice r3 V'.length s3] ∧ Blk (W9.setCell ⟨w4.heap.size, 4, none⟩ (.int .i64 nv)) (w.heap.size + 1) (mlC y) ∧ Blk (W9.setCell ⟨w4.heap.size, 4, none⟩ (.int .i64 nv)) w.heap.size [Value.int .i64 f, .int .i64 t, .int .i64 s, .slice aP P.length cP, .int .i64 v, .slice aR R.length cR, .slice aK K.length cK, .slice aV V.length cV] := ⟨hHeld9.1.other (by omega) _ _, hHeld9.2.1.other (by omega) _ _, hHeld9.2.2.other (by omega) _ _⟩
  refine hKK.out _ _ hHeld10 (fun hHeld => ?_)
  clear hKK KK
  refine take_yes 12 63 (v := ?_) rfl rfl (by kernel_rfl) (by kernel_rfl) (by kernel_rfl) (fun _ _ _ h => h) (by rfl) ?_ hHeld ?_
  rotate_left 1
  · (intro w9 hSw; skip; go_simp; try with_reducible rfl)
  simp only [Act.put, List.setIfInBounds_toArray, List.set_cons_succ, List.set_cons_zero]
  have hBX10 := hBX9.set 4 (by show 4 < 8; decide) (.int .i64 nv)
  have z1 := hBX10.at 1 rfl
  have zg := hBX10.frz
  refine wpAnyH_ready (rs := [13]) (by kernel_rfl) (by simp) ?_
  refine AllReadyH.cons rfl (fun KK hKK => ?_) AllReadyH.nil
  go_simp
  go_wp2_with fail
  have hHeld11 : Blk ((W9.setCell ⟨w4.heap.size, 4, none⟩ (.int .i64 nv)).setCell ⟨w4.heap.size, 1, none⟩ (.int .i64 mx)) w7.heap.size [Value.slice r1 R'.length s1, .slice r2 K'.length s2, .slice r3 V'.length s3] ∧ Blk ((W9.setCell ⟨w4.heap.size, 4, none⟩ (.int .i64 nv)).setCell ⟨w4.heap.size, 1, none⟩ (.int .i64 mx)) (w.heap.size + 1) (mlC y) ∧ Blk ((W9.setCell ⟨w4.heap.size, 4, none⟩ (.int .i64 nv)).setCell ⟨w4.heap.size, 1, none⟩ (.int .i64 mx)) w.heap.size [Value.int .i64 f, .int .i64 t, .int .i64 s, .slice aP P.length cP, .int .i64 v, .slice aR R.length cR, .slice aK K.length cK, .slice aV V.length cV] := ⟨hHeld10.1.other (by omega) _ _, hHeld10.2.1.other (by omega) _ _, hHeld10.2.2.other (by omega) _ _⟩
  refine hKK.out _ _ hHeld11 (fun hHeld => ?_)
  clear hKK KK
  refine wpAnyH_done (by kernel_rfl) ?_ _
  have HBX11 : Hid (Blk ((W9.setCell ⟨w4.heap.size, 4, none⟩ (.int .i64 nv)).setCell ⟨w4.heap.size, 1, none⟩ (.int .i64 mx)) w4.heap.size [Value.int .i64 f, .int .i64 mx, .int .i64 s, .slice a0 P.length c0, .int .i64 nv, .slice r1 R'.length s1, .slice r2 K'.length s2, .slice r3 V'.length s3]) := hBX10.set 1 (by show 1 < 8; decide) (.int .i64 mx)
  have HOW11 : Hid (OwnE opC 7 32 ((W9.setCell ⟨w4.heap.size, 4, none⟩ (.int .i64 nv)).setCell ⟨w4.heap.size, 1, none⟩ (.int .i64 mx)) W1.heap.size (.slice a0 P.length c0) P) := (hOW9.off w4.heap.size HNE.out [.int .i64 nv] 4).off w4.heap.size HNE.out [.int .i64 mx] 1
  have HQ11 : Hid (SlI ((W9.setCell ⟨w4.heap.size, 4, none⟩ (.int .i64 nv)).setCell ⟨w4.heap.size, 1, none⟩ (.int .i64 mx)) r1 R' ∧ SlP ((W9.setCell ⟨w4.heap.size, 4, none⟩ (.int .i64 nv)).setCell ⟨w4.heap.size, 1, none⟩ (.int .i64 mx)) r2 K' ∧ SlP ((W9.setCell ⟨w4.heap.size, 4, none⟩ (.int .i64 nv)).setCell ⟨w4.heap.size, 1, none⟩ (.int .i64 mx)) r3 V') :=
    ⟨(hQ9.1.setsO HO9.out.1 [.int .i64 nv] 4).setsO HO9.out.1 [.int .i64 mx] 1, (hQ9.2.1.sets HO9.out.2.1 [.int .i64 nv] 4).sets HO9.out.2.1 [.int .i64 mx] 1, (hQ9.2.2.sets HO9.out.2.2 [.int .i64 nv] 4).sets HO9.out.2.2 [.int .i64 mx] 1⟩
  have HM11 := Lib.hid hHeld11.2.1
  have HR11 := Lib.hid ((hR9.other (g := w4.heap.size) (by omega) 4 (.int .i64 nv)).other (g := w4.heap.size) (by omega) 1 (.int .i64 mx))
  have HB11 : Hid (Below w.heap.size w ((W9.setCell ⟨w4.heap.size, 4, none⟩ (.int .i64 nv)).setCell ⟨w4.heap.size, 1, none⟩ (.int .i64 mx))) := below_sets (below_sets hB9 w4.heap.size (by omega) [.int .i64 nv] 4) w4.heap.size (by omega) [.int .i64 mx] 1
  have HZ11 : Hid (W1.heap.size ≤ ((W9.setCell ⟨w4.heap.size, 4, none⟩ (.int .i64 nv)).setCell ⟨w4.heap.size, 1, none⟩ (.int .i64 mx)).heap.size) := by
    show _ ≤ _
    have := hBX10.lt
    simp at this ⊢
    omega
  clear hHeld hHeld9 hHeld10 hHeld11 hBX9 hBX10 hOW9 hQ9 hR9 hB9 z4 zf z1 zg
  generalize (W9.setCell ⟨w4.heap.size, 4, none⟩ (.int .i64 nv)).setCell ⟨w4.heap.size, 1, none⟩ (.int .i64 mx) = W11 at *
  obtain ⟨sq, hsq⟩ : ∃ z, z = y.1.1.2.2.2.1 := ⟨_, rfl⟩
  have HSQ := Lib.hid hsq
  have HM3 : Hid (∀ W, Blk W (w.heap.size + 1) (mlC y) → W.cell? ⟨w.heap.size + 1, 3, none⟩ = some (.int .i64 sq)) := fun W h => by rw [hsq]; exact h.at 3 rfl
  clear hsq
  have n3 := HBX11.out.at 3 rfl
  have HDEL := Lib.hid (deleteOps_any W11 W1.heap.size (.slice a0 P.length c0) P 48 (.pointer (some ⟨w.heap.size + 1, 0, none⟩)) (fun o => decide (o.2.2.2.2 ≤ sq)) (by have := HFEW.out.1; simp only at this; omega) HOW11.out HZ11.out (Go.Proofs.enters_of Tryz.func48 (by kernel_rfl) rfl)
    (fun W p hb => chear1_any W p (w.heap.size + 1) sq (HM11.out.below hb (by omega)).lt (HM3.out W (HM11.out.below hb (by omega)))))
  clear hs1 hs5 hs6 hs8 HM5 HM4
  go_wp2_with fail
  refine HDEL.out.mono ?_
  rintro e w12 ⟨rv, rfl, hO12, hb12, hg12, hrv⟩
  obtain ⟨Q, hQ⟩ : ∃ Q, Q = P.filter (fun o => decide (y.1.1.2.2.2.1 < o.2.2.2.2)) := ⟨_, rfl⟩
  have hfe : (P.filter fun o => !decide (o.2.2.2.2 ≤ sq)) = Q := by
    rw [hQ, HSQ.out]
    congr 1
    funext o
    rw [Bool.eq_iff_iff]
    simp
  rw [hfe] at hO12
  have HQL : Hid (Q.length ≤ P.length) := by show _ ≤ _; rw [hQ]; exact List.length_filter_le _ _
  have HQ := Lib.hid hQ
  clear hfe hQ
  obtain ⟨a5, c5, rfl, -, -⟩ := hO12.val
  have hs1 := HS1.out
  have hs5 := HS5.out
  have hs6 := HS6.out
  have hs8 := HS8.out
  have hnb : ∀ g, (Value.slice a0 P.length c0).ownBlock = some g → W1.heap.size ≤ g ∧ g < w4.heap.size := HOFF.out
  have hBX12 := HBX11.out.grown hg12 (fun e => by have := (hnb _ e.symm).2; omega)
  have hR12 := HR11.out.below hb12 (by omega)
  have hB12 : Below w.heap.size w w12 := HB11.out.trans (hb12.mono (by omega))
  have hoff : ∀ g, (Value.slice a0 P.length c0).ownBlock = some g → OffL g r1 R' ∧ OffL g r2 K' ∧ OffL g r3 V' := fun g hg => HOF.out g (by have := (hnb g hg).1; omega) (by have := (hnb g hg).2; omega)
  have hl1 := HQ11.out.1.rowed hg12 (fun g hg => (hoff g hg).1)
  have hl2 := HQ11.out.2.1.rowed hg12 (fun g hg => (hoff g hg).2.1)
  have hl3 := HQ11.out.2.2.rowed hg12 (fun g hg => (hoff g hg).2.2)
  have hoq : InL (fun b => b ≠ w4.heap.size ∧ w.heap.size + 2 < b) a5 Q := row_block hO12.row (fun g hg => by
    rw [hrv] at hg
    have := hnb g hg
    omega)
  have hlq := hO12.read
  obtain ⟨zc, hzc⟩ : ∃ z : Cm, z = (((f, mx, s, nv), Q, R', K', V'), (a5, c5), (r1, s1), (r2, s2), (r3, s3)) := ⟨_, rfl⟩
  obtain ⟨W13, hW13⟩ : ∃ W, w12.setCell ⟨w4.heap.size, 3, none⟩ (.slice a5 Q.length c5) = W := ⟨_, rfl⟩
  have hN13 : Blk W13 w4.heap.size (clC zc) := by rw [← hW13, hzc]; exact hBX12.set 3 (by show 3 < 8; decide) (.slice a5 Q.length c5)
  have hR13 : Blk W13 (w.heap.size + 1 + 1) [Value.int .i64 0, .int .i64 0, .int .i64 0, .slice none 0 0, .int .i64 0, .slice none 0 0, .slice none 0 0, .slice none 0 0] := by rw [← hW13]; exact hR12.other (by omega) 3 _
  have hB13 : Below w.heap.size w W13 := by rw [← hW13]; exact below_sets hB12 w4.heap.size (by omega) [.slice a5 Q.length c5] 3
  have hQ13 : SlE opC W13 a5 Q := by rw [← hW13]; exact hlq.sets (hoq.off (fun b hb => hb.1)) [.slice a5 Q.length c5] 3
  have h13a : SlI W13 r1 R' := by rw [← hW13]; exact hl1.setsO HO9.out.1 [.slice a5 Q.length c5] 3
  have h13b : SlP W13 r2 K' := by rw [← hW13]; exact hl2.sets HO9.out.2.1 [.slice a5 Q.length c5] 3
  have h13c : SlP W13 r3 V' := by rw [← hW13]; exact hl3.sets HO9.out.2.2 [.slice a5 Q.length c5] 3
  have hO2 := HOF.out (w.heap.size + 1 + 1) (by omega) (by omega)
  have HQf := Lib.hid (hQ13.sets (hoq.off (fun b hb => by omega)) (clC zc) 0 (g := w.heap.size + 1 + 1))
  have HLf := Lib.hid (And.intro (h13a.setsO hO2.1 (clC zc) 0) (And.intro (h13b.sets hO2.2.1 (clC zc) 0) (h13c.sets hO2.2.2 (clC zc) 0)))
  have HRf := Lib.hid (hR13.sets (clC zc) rfl)
  have HBf := Lib.hid (below_sets hB13 (w.heap.size + 1 + 1) (by omega) (clC zc) 0)
  have HRG := Lib.hid hN13.range
  have HT : Hid (W13.there (w.heap.size + 1 + 1) 0 (clC zc).toArray.size) := hR13.there
  have HO : Hid ((clC zc).toArray.all (·.oneCell') = true) := all_oneCell_toArray (clC_one zc)
  have HSZ : Hid ((Tryz.prog.info? 28).map (·.size) = some (clC zc).toArray.size) := sizeClient
  have z3 := hBX12.at 3 rfl
  have zf := hBX12.frz
  have HZC := Lib.hid hzc
  clear hO12 hb12 hg12 hrv hs1 hs5 hs6 hs8 hnb hBX12 hR12 hB12 hoff hl1 hl2 hl3 hoq hlq hzc hN13 hR13 hB13 hQ13 h13a h13b h13c hO2 HBX11 HOW11 HQ11 HM11 HR11 HB11 HZ11 HDEL n3 HM3 HOF HO9 HNE HOFF
  go_wp2_with (first | (refine wpList_load_mid rfl 28 _ rfl w4.heap.size 0 rfl (clC zc) _ HRG.out Tryz.underlying28 rfl (sizeClientC zc) ?_) | (with_reducible refine at_store 28 ?_; refine wpList_store_mid rfl 28 _ _ rfl (w.heap.size + 1 + 1) 0 (clC zc).toArray rfl rfl HT.out HSZ.out HO.out ?_) | fail)
  refine ret_cell_tmp Tryz.results19 rfl rfl (HRf.out.load Tryz.underlying28 rfl (sizeClientC zc)) ?_
  have hC : hearC ((f, t, s, v), P, R, K, V) me y.1 = heard ((f, t, s, v), P, R, K, V) y.1 := by
    unfold hearC
    rw [if_neg (by rw [HE.out]; simp), if_neg (by rw [HD.out]; simp)]
  have hfew := cl_few (Orangery.heard_ok HE.out HD.out)
  have hh : heard ((f, t, s, v), P, R, K, V) y.1 = ((f, mx, s, nv), Q, R', K', V') := by
    show ((f, max t y.1.1.2.2.2.2.1, s, y.1.1.2.2.2.2.2.1), _, _) = _
    rw [← HNVT.out.1, ← HNVT.out.2, HMX.out, HQ.out, HVW.out]
  rw [hh] at hfew
  simp only [ClFew] at hfew
  refine ⟨zc, by rw [HE.out]; rfl, by rw [hC, hh, HZC.out], ?_, HBf.out⟩
  rw [HZC.out] at HQf HLf ⊢
  exact ⟨HQf.out, HLf.out.1, HLf.out.2.1, HLf.out.2.2, ⟨by show Q.length ≤ _; omega, by show R'.length ≤ _; omega, by show K'.length ≤ _; omega, by show V'.length ≤ _; omega⟩, HNQ.out⟩
end Go.Proofs.YtijjiccgpobjmaeGreat

