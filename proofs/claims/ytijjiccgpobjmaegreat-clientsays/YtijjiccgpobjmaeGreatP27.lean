/- 2 texts of the proof: orangeryref.Moved. orangerylaw.at: a number brought within bounds. -/
import Derived.Laws.AppendOwnNone
import Derived.Test.YtijjiccgpobjmaeGreatP19
import Derived.Test.YtijjiccgpobjmaeGreatP15
import Derived.Test.YtijjiccgpobjmaeGreatP04
import Derived.Test.YtijjiccgpobjmaeGreatP01
/- orangeryref.Moved. -/
namespace Go.Proofs.YtijjiccgpobjmaeGreat
open Go.ChangeShapes Go.WideShapes Go.ChangeAt Go.RowKit
open Orangery (Pl Mv Vw Cl noCl noOp clE movE movC movP movO checkOp orI viewE)

/-- append of operations, whatever memory they lie in, to an own row -/
theorem append_ops_wp {Q : Exit → Act → World → Prop} {K : Act → World → Prop} {o : Oper} {s x : Operand} {a : Act} {w : World} (ho : o.op = .call { callee := .builtin .append, args := #[s, x], argTypes := #[22, 22] })
    (base : Nat) (v : Value) (n : Nat) (xs : List Value) (hs : a.eval s = v) (hown : w.ownsRow base 32 7 v n xs) (ap : Option Addr) (cp : Nat) (L : List Mv) (hx : a.eval x = .slice ap L.length cp) (hL : SlE opC w ap L) (hn : ap = none → cp = 0)
    (h1 : n + L.length ≤ 1000) (hbase : base ≤ w.heap.size)
    (h : ∀ v' w', w'.ownsRow base 32 7 v' (n + L.length) (xs ++ L.flatMap opC) → w.grownBy w' v.ownBlock → K (a.put o.dst v') w') : o.wp Tryz.prog a w K Q := by
  obtain ⟨i0, hi, hz0, hz1, hz2⟩ := info_parts infoOp
  cases ap with
  | none =>
    have hl : L = [] := by
      rcases hL with h | ⟨b, off, h, _⟩
      · exact h
      · simp at h
    subst hl
    obtain rfl := hn rfl
    have hrun := run_append_owned_none (P := Tryz.prog) (w := w) base 22 o.type 32 i0 7 Tryz.underlying22 hi v n xs hown
    unfold Oper.wp
    have hx' : a.eval x = .slice none 0 0 := hx
    simp [execOp, ho, resolve, invoke, builtin, hs, hx', hrun, Result.andThen]
    exact h v w (by simpa using hown) ⟨rfl, rfl, rfl, Nat.le_refl _, fun _ _ _ => rfl⟩
  | some ad =>
    refine wp_append_own w s x 22 ho base 32 i0 _ 7 56 Tryz.underlying22 hi hz0 hz1 hz2 rfl (by decide) v n xs hs hown ad L.length cp (L.flatMap opC) hx (flatE_len opC_len L) (by
      rcases hL with hL | ⟨b, off, ha, _, hp⟩
      · intro j u hj; subst hL; simp at hj
      · simp at ha
        subst ha
        intro j u hj
        rw [Addr.add_mid]
        exact hp j u hj) (flat_oneE opC_one L) (by unfold maxLen; omega) (by omega) hbase (fun v' w' h2 h3 _ => h v' w' h2 h3)

set_option maxHeartbeats 16000000 in
set_option maxRecDepth 100000 in
theorem rmoved_any (w : World) (x : Cm) (me n p nm : Int) (hx : ClIn w x) (hnp : x.2.1.1 = none → x.2.1.2 = 0) :
    Calls Tryz.prog 10 #[x.val, .int .i64 me, .int .i64 n, .int .i64 p, .int .i64 nm] w (Moves w x.1 me n p nm) := by
  have CC := Lib.hid (fun W h => rcheckClient_any W x me h)
  have HOR := Lib.hid (movE_or x.1 me n p nm)
  obtain ⟨⟨⟨f, t, s, v⟩, P, R, K, V⟩, ⟨aP, cP⟩, ⟨aR, cR⟩, ⟨aK, cK⟩, ⟨aV, cV⟩⟩ := x
  show Calls Tryz.prog _ #[.agg #[Value.int .i64 f, .int .i64 t, .int .i64 s, .slice aP P.length cP, .int .i64 v, .slice aR R.length cR, .slice aK K.length cK, .slice aV V.length cV], .int .i64 me, .int .i64 n, .int .i64 p, .int .i64 nm] w (Moves w ((f, t, s, v), P, R, K, V) me n p nm)
  obtain ⟨W0, hW, hN, hRC, hRO, hB, hS⟩ := laid3 w [Value.int .i64 f, .int .i64 t, .int .i64 s, .slice aP P.length cP, .int .i64 v, .slice aR R.length cR, .slice aK K.length cK, .slice aV V.length cV] 28 [Value.int .i64 0, .int .i64 0, .int .i64 0, .slice none 0 0, .int .i64 0, .slice none 0 0, .slice none 0 0, .slice none 0 0] 28 [Value.int IntKind.i64 0, Value.int IntKind.i64 0, Value.int IntKind.i64 0, Value.int IntKind.i64 0, Value.int IntKind.i64 0, Value.int IntKind.i64 0, Value.int IntKind.i64 0] 32
  have HNP := Lib.hid hnp
  have HX0 := Lib.hid hx
  have HB := Lib.hid hB
  have HX := Lib.hid (hx.keep hB)
  have HN := Lib.hid hN
  have HRC := Lib.hid hRC
  have HRO := Lib.hid hRO
  have HS0 : Hid (w.heap.size + 3 ≤ W0.heap.size) := by show _ ≤ _; omega
  have HMB : Hid (∀ E w', movE ((f, t, s, v), P, R, K, V) me n p nm = E → E ≠ 0 → Below w.heap.size w w' → Moves w ((f, t, s, v), P, R, K, V) me n p nm (.returned (.tuple #[.agg (bareC 0 0).toArray, .agg (opC noOp).toArray, .int .i64 E])) w') := fun E w' h1 h2 h3 => Moves.bad h1 h2 h3
  have ERR : Hid (∀ (W : World), Blk W (w.heap.size + 1) [Value.int .i64 0, .int .i64 0, .int .i64 0, .slice none 0 0, .int .i64 0, .slice none 0 0, .slice none 0 0, .slice none 0 0] → Blk W (w.heap.size + 1 + 1) [Value.int IntKind.i64 0, Value.int IntKind.i64 0, Value.int IntKind.i64 0, Value.int IntKind.i64 0, Value.int IntKind.i64 0, Value.int IntKind.i64 0, Value.int IntKind.i64 0] → Below w.heap.size w W →
      (Blk ((W.setCells (w.heap.size + 1) 0 (bareC 0 0)).setCells (w.heap.size + 1 + 1) 0 (opC noOp)) (w.heap.size + 1) (bareC 0 0) ∧ Blk ((W.setCells (w.heap.size + 1) 0 (bareC 0 0)).setCells (w.heap.size + 1 + 1) 0 (opC noOp)) (w.heap.size + 1 + 1) (opC noOp) ∧ Below w.heap.size w ((W.setCells (w.heap.size + 1) 0 (bareC 0 0)).setCells (w.heap.size + 1 + 1) 0 (opC noOp)))) := by
    intro W h1 h2 h3
    exact ⟨(h1.sets (bareC 0 0) rfl).others (by omega) _ _, (h2.others (by omega) (bareC 0 0) 0).sets (opC noOp) rfl, below_sets (below_sets h3 (w.heap.size + 1) (by omega) _ 0) (w.heap.size + 1 + 1) (by omega) _ 0⟩
  obtain ⟨E1, hE1⟩ : ∃ E, E = clE ((f, t, s, v), P, R, K, V) me := ⟨_, rfl⟩
  obtain ⟨E2, hE2⟩ : ∃ E, E = roomE ((f, t, s, v), P, R, K, V) := ⟨_, rfl⟩
  have HE1 := Lib.hid hE1
  have HE2 := Lib.hid hE2
  have HRG := Lib.hid hN.range
  clear hnp hB hx hN hRC hRO hS hE1 hE2
  go_enter Tryz.func10, Tryz.ntmps10
  go_wp2_with (first | (refine wpList_load_mid rfl 28 _ rfl w.heap.size 0 rfl [Value.int .i64 f, .int .i64 t, .int .i64 s, .slice aP P.length cP, .int .i64 v, .slice aR R.length cR, .slice aK K.length cK, .slice aV V.length cV] _ HRG.out Tryz.underlying28 rfl sizeClient ?_) | fail)
  clear hW
  refine (CC.out W0 HX.out).mono ?_
  rintro e w3 ⟨rfl, hb3⟩
  simp only
  rw [← HE1.out]
  have HN3 := Lib.hid (HN.out.keep hb3)
  have HRC3 := Lib.hid (HRC.out.keep hb3)
  have HRO3 := Lib.hid (HRO.out.keep hb3)
  have HX3 := Lib.hid (HX.out.keep hb3)
  have HB3 := Lib.hid (HB.out.trans (hb3.mono HB.out.size))
  have HS3 : Hid (w.heap.size + 3 ≤ w3.heap.size) := by show _ ≤ _; have := hb3.size; have := HS0.out; omega
  clear hb3 HN HRC HRO HX HB HS0 CC HRG
  by_cases h1 : E1 = 0
  case neg =>
    have HE : Hid (movE ((f, t, s, v), P, R, K, V) me n p nm = E1) := by
      show _ = _
      rw [HOR.out, ← HE1.out]
      unfold orI
      rw [if_pos h1, if_pos h1]
    have d1 : (E1 != 0) = true := by simpa using h1
    have HZ := Lib.hid h1
    clear h1 HOR HE1 HE2 HX3 HN3
    have h3 := Lib.hid (ERR.out w3 HRC3.out HRO3.out HB3.out)
    have c0 := HRC3.out.at 0 rfl
    have c1 := HRC3.out.at 1 rfl
    have c2 := HRC3.out.at 2 rfl
    have c3 := HRC3.out.at 3 rfl
    have c4 := HRC3.out.at 4 rfl
    have c5 := HRC3.out.at 5 rfl
    have c6 := HRC3.out.at 6 rfl
    have c7 := HRC3.out.at 7 rfl
    have cf := HRC3.out.frz
    have o0 := HRO3.out.at 0 rfl
    have o1 := HRO3.out.at 1 rfl
    have o2 := HRO3.out.at 2 rfl
    have o3 := HRO3.out.at 3 rfl
    have o4 := HRO3.out.at 4 rfl
    have o5 := HRO3.out.at 5 rfl
    have o6 := HRO3.out.at 6 rfl
    have of := HRO3.out.frz
    go_wp2
    refine ret_cell_cell_tmp Tryz.results10 rfl rfl rfl (h3.out.1.load Tryz.underlying28 rfl sizeClient) (h3.out.2.1.load Tryz.underlying32 rfl sizeOp) ?_
    exact HMB.out E1 _ HE.out HZ.out h3.out.2.2
  have d1 : (E1 != 0) = false := by simpa using h1
  have x0 := HN3.out.at 0 rfl
  have x1 := HN3.out.at 1 rfl
  have x2 := HN3.out.at 2 rfl
  have x3 := HN3.out.at 3 rfl
  by_cases g2 : f = 0
  case pos =>
    have d2 : (f == 0) = true := by simpa using g2
    have HE : Hid (movE ((f, t, s, v), P, R, K, V) me n p nm = 7) := by
      show _ = _
      rw [HOR.out, ← HE1.out, h1]
      unfold roomE orI
      simp [g2]
    have HZ : Hid ((7 : Int) ≠ 0) := by show _ ≠ _; decide
    clear h1 HOR HE1 HE2 HX3 HN3 g2
    have h3 := Lib.hid (ERR.out w3 HRC3.out HRO3.out HB3.out)
    have c0 := HRC3.out.at 0 rfl
    have c1 := HRC3.out.at 1 rfl
    have c2 := HRC3.out.at 2 rfl
    have c3 := HRC3.out.at 3 rfl
    have c4 := HRC3.out.at 4 rfl
    have c5 := HRC3.out.at 5 rfl
    have c6 := HRC3.out.at 6 rfl
    have c7 := HRC3.out.at 7 rfl
    have cf := HRC3.out.frz
    have o0 := HRO3.out.at 0 rfl
    have o1 := HRO3.out.at 1 rfl
    have o2 := HRO3.out.at 2 rfl
    have o3 := HRO3.out.at 3 rfl
    have o4 := HRO3.out.at 4 rfl
    have o5 := HRO3.out.at 5 rfl
    have o6 := HRO3.out.at 6 rfl
    have of := HRO3.out.frz
    go_wp2
    refine ret_cell_cell_tmp Tryz.results10 rfl rfl rfl (h3.out.1.load Tryz.underlying28 rfl sizeClient) (h3.out.2.1.load Tryz.underlying32 rfl sizeOp) ?_
    exact HMB.out 7 _ HE.out HZ.out h3.out.2.2
  have d2 : (f == 0) = false := by simpa using g2
  by_cases g3 : P.length = 8
  case pos =>
    have d3 : ((P.length : Int) == 8) = true := by simp; omega
    have HE : Hid (movE ((f, t, s, v), P, R, K, V) me n p nm = 2) := by
      show _ = _
      rw [HOR.out, ← HE1.out, h1]
      unfold roomE orI
      simp [g2, g3]
    have HZ : Hid ((2 : Int) ≠ 0) := by show _ ≠ _; decide
    clear h1 HOR HE1 HE2 HX3 HN3 g2 g3
    have h3 := Lib.hid (ERR.out w3 HRC3.out HRO3.out HB3.out)
    have c0 := HRC3.out.at 0 rfl
    have c1 := HRC3.out.at 1 rfl
    have c2 := HRC3.out.at 2 rfl
    have c3 := HRC3.out.at 3 rfl
    have c4 := HRC3.out.at 4 rfl
    have c5 := HRC3.out.at 5 rfl
    have c6 := HRC3.out.at 6 rfl
    have c7 := HRC3.out.at 7 rfl
    have cf := HRC3.out.frz
    have o0 := HRO3.out.at 0 rfl
    have o1 := HRO3.out.at 1 rfl
    have o2 := HRO3.out.at 2 rfl
    have o3 := HRO3.out.at 3 rfl
    have o4 := HRO3.out.at 4 rfl
    have o5 := HRO3.out.at 5 rfl
    have o6 := HRO3.out.at 6 rfl
    have of := HRO3.out.frz
    go_wp2
    refine ret_cell_cell_tmp Tryz.results10 rfl rfl rfl (h3.out.1.load Tryz.underlying28 rfl sizeClient) (h3.out.2.1.load Tryz.underlying32 rfl sizeOp) ?_
    exact HMB.out 2 _ HE.out HZ.out h3.out.2.2
  have d3 : ((P.length : Int) == 8) = false := by simp; omega
  by_cases g4 : t = 10000
  case pos =>
    have d4 : (t == 10000) = true := by simpa using g4
    have HE : Hid (movE ((f, t, s, v), P, R, K, V) me n p nm = 2) := by
      show _ = _
      rw [HOR.out, ← HE1.out, h1]
      unfold roomE orI
      simp [g2, g3, g4]
    have HZ : Hid ((2 : Int) ≠ 0) := by show _ ≠ _; decide
    clear h1 HOR HE1 HE2 HX3 HN3 g2 g3 g4
    have h3 := Lib.hid (ERR.out w3 HRC3.out HRO3.out HB3.out)
    have c0 := HRC3.out.at 0 rfl
    have c1 := HRC3.out.at 1 rfl
    have c2 := HRC3.out.at 2 rfl
    have c3 := HRC3.out.at 3 rfl
    have c4 := HRC3.out.at 4 rfl
    have c5 := HRC3.out.at 5 rfl
    have c6 := HRC3.out.at 6 rfl
    have c7 := HRC3.out.at 7 rfl
    have cf := HRC3.out.frz
    have o0 := HRO3.out.at 0 rfl
    have o1 := HRO3.out.at 1 rfl
    have o2 := HRO3.out.at 2 rfl
    have o3 := HRO3.out.at 3 rfl
    have o4 := HRO3.out.at 4 rfl
    have o5 := HRO3.out.at 5 rfl
    have o6 := HRO3.out.at 6 rfl
    have of := HRO3.out.frz
    go_wp2
    refine ret_cell_cell_tmp Tryz.results10 rfl rfl rfl (h3.out.1.load Tryz.underlying28 rfl sizeClient) (h3.out.2.1.load Tryz.underlying32 rfl sizeOp) ?_
    exact HMB.out 2 _ HE.out HZ.out h3.out.2.2
  have d4 : (t == 10000) = false := by simpa using g4
  by_cases g5 : s = 30
  case pos =>
    have d5 : (s == 30) = true := by simpa using g5
    have HE : Hid (movE ((f, t, s, v), P, R, K, V) me n p nm = 2) := by
      show _ = _
      rw [HOR.out, ← HE1.out, h1]
      unfold roomE orI
      simp [g2, g3, g4, g5]
    have HZ : Hid ((2 : Int) ≠ 0) := by show _ ≠ _; decide
    clear h1 HOR HE1 HE2 HX3 HN3 g2 g3 g4 g5
    have h3 := Lib.hid (ERR.out w3 HRC3.out HRO3.out HB3.out)
    have c0 := HRC3.out.at 0 rfl
    have c1 := HRC3.out.at 1 rfl
    have c2 := HRC3.out.at 2 rfl
    have c3 := HRC3.out.at 3 rfl
    have c4 := HRC3.out.at 4 rfl
    have c5 := HRC3.out.at 5 rfl
    have c6 := HRC3.out.at 6 rfl
    have c7 := HRC3.out.at 7 rfl
    have cf := HRC3.out.frz
    have o0 := HRO3.out.at 0 rfl
    have o1 := HRO3.out.at 1 rfl
    have o2 := HRO3.out.at 2 rfl
    have o3 := HRO3.out.at 3 rfl
    have o4 := HRO3.out.at 4 rfl
    have o5 := HRO3.out.at 5 rfl
    have o6 := HRO3.out.at 6 rfl
    have of := HRO3.out.frz
    go_wp2
    refine ret_cell_cell_tmp Tryz.results10 rfl rfl rfl (h3.out.1.load Tryz.underlying28 rfl sizeClient) (h3.out.2.1.load Tryz.underlying32 rfl sizeOp) ?_
    exact HMB.out 2 _ HE.out HZ.out h3.out.2.2
  have d5 : (s == 30) = false := by simpa using g5
  have hcl : clE ((f, t, s, v), P, R, K, V) me = 0 := by rw [← HE1.out]; exact h1
  have hz2 : roomE ((f, t, s, v), P, R, K, V) = 0 := by
    unfold roomE
    simp only
    rw [if_neg g2, if_neg (by omega)]
  have HFEW := Lib.hid (cl_few hcl)
  obtain ⟨⟨ht0, ht1⟩, ⟨hs0, hs1⟩, hp8⟩ := cl_nums hcl
  simp only at ht0 ht1 hs0 hs1 hp8
  obtain ⟨t1, hT1⟩ : ∃ z : Int, z = t + 1 := ⟨_, rfl⟩
  obtain ⟨s1, hS1⟩ : ∃ z : Int, z = s + 1 := ⟨_, rfl⟩
  have pt : wrap64 (t + 1) = t1 := by rw [hT1]; unfold wrap64; omega
  have ps : wrap64 (s + 1) = s1 := by rw [hS1]; unfold wrap64; omega
  have HE : Hid (movE ((f, t, s, v), P, R, K, V) me n p nm = checkOp (t1, me, (n, p, nm), f, s1)) := by
    show _ = _
    rw [HOR.out, ← HE1.out, h1, hz2, hT1, hS1]
    rfl
  have HMV : Hid (movO ((f, t, s, v), P, R, K, V) me n p nm = (t1, me, (n, p, nm), f, s1)) := by
    show _ = _
    rw [hT1, hS1]
    rfl
  have HP8 := Lib.hid hp8
  have HT1 := Lib.hid hT1
  have HS1 := Lib.hid hS1
  have HPT := Lib.hid pt
  have HPS := Lib.hid ps
  clear h1 g2 g3 g4 g5 hz2 hcl ht0 ht1 hs0 hs1 hp8 hT1 hS1 HE1 HE2 HOR
  obtain ⟨W5, hW5, hOp, hb5, hsz5⟩ := laid1 w3 [Value.int IntKind.i64 t1, Value.int IntKind.i64 me, Value.int IntKind.i64 n, Value.int IntKind.i64 p, Value.int IntKind.i64 nm, Value.int IntKind.i64 f, Value.int IntKind.i64 s1] 32
  have q0 := hOp.at 0 rfl
  have q1 := hOp.at 1 rfl
  have q2 := hOp.at 2 rfl
  have q3 := hOp.at 3 rfl
  have q4 := hOp.at 4 rfl
  have q5 := hOp.at 5 rfl
  have q6 := hOp.at 6 rfl
  have HOP5 := Lib.hid hOp
  have HN5 := Lib.hid (HN3.out.keep hb5)
  have HRC5 := Lib.hid (HRC3.out.keep hb5)
  have HRO5 := Lib.hid (HRO3.out.keep hb5)
  have HX5 := Lib.hid (HX3.out.keep hb5)
  have HB5 := Lib.hid (HB3.out.trans (hb5.mono HB3.out.size))
  have HW3 : Hid (w.heap.size + 3 ≤ w3.heap.size ∧ w3.heap.size < W5.heap.size) := by show _ ∧ _; have := HS3.out; omega
  clear hOp hb5 hsz5 HN3 HRC3 HRO3 HX3 HB3 HS3
  go_wp2_with fail
  refine (refCheckOp_any W5 (t1, me, (n, p, nm), f, s1)).mono ?_
  rintro e w6 ⟨rfl, hb6⟩
  have HOP6 := Lib.hid (HOP5.out.keep hb6)
  have HN6 := Lib.hid (HN5.out.keep hb6)
  have HRC6 := Lib.hid (HRC5.out.keep hb6)
  have HRO6 := Lib.hid (HRO5.out.keep hb6)
  have HX6 := Lib.hid (HX5.out.keep hb6)
  have HB6 := Lib.hid (HB5.out.trans (hb6.mono HB5.out.size))
  have HS6 : Hid (W5.heap.size ≤ w6.heap.size) := hb6.size
  clear hb6 HOP5 HN5 HRC5 HRO5 HX5 HB5 x0 x1 x2 x3 q0 q1 q2 q3 q4 q5 q6 hW5 d1 d2 d3 d4 d5 pt ps
  by_cases hc : checkOp (t1, me, (n, p, nm), f, s1) = 0
  case neg =>
    have hc' : (checkOp (t1, me, (n, p, nm), f, s1) != 0) = true := by simpa using hc
    have HZ := Lib.hid hc
    clear hc HX6 HN6 HOP6
    generalize checkOp (t1, me, (n, p, nm), f, s1) = E at *
    have h3 := Lib.hid (ERR.out w6 HRC6.out HRO6.out HB6.out)
    have c0 := HRC6.out.at 0 rfl
    have c1 := HRC6.out.at 1 rfl
    have c2 := HRC6.out.at 2 rfl
    have c3 := HRC6.out.at 3 rfl
    have c4 := HRC6.out.at 4 rfl
    have c5 := HRC6.out.at 5 rfl
    have c6 := HRC6.out.at 6 rfl
    have c7 := HRC6.out.at 7 rfl
    have cf := HRC6.out.frz
    have o0 := HRO6.out.at 0 rfl
    have o1 := HRO6.out.at 1 rfl
    have o2 := HRO6.out.at 2 rfl
    have o3 := HRO6.out.at 3 rfl
    have o4 := HRO6.out.at 4 rfl
    have o5 := HRO6.out.at 5 rfl
    have o6 := HRO6.out.at 6 rfl
    have of := HRO6.out.frz
    go_wp2
    refine ret_cell_cell_tmp Tryz.results10 rfl rfl rfl (h3.out.1.load Tryz.underlying28 rfl sizeClient) (h3.out.2.1.load Tryz.underlying32 rfl sizeOp) ?_
    exact HMB.out E _ HE.out HZ.out h3.out.2.2
  rw [hc]
  have HE0 : Hid (movE ((f, t, s, v), P, R, K, V) me n p nm = 0) := by show _ = _; rw [HE.out]; exact hc
  clear hc HE ERR HMB
  go_upto_region 13 with fail
  go_cut [5] from 67 to 74 (fun pp wc => pp = .pointer (some ⟨w.heap.size, 0, none⟩) ∧ ∃ a4 c4, Blk wc w.heap.size [Value.int .i64 f, .int .i64 t, .int .i64 s, .slice a4 (P.length + 1) c4, .int .i64 v, .slice aR R.length cR, .slice aK K.length cK, .slice aV V.length cV] ∧ SlE opC wc a4 (P ++ [(t1, me, (n, p, nm), f, s1)]) ∧ InL (w6.heap.size ≤ ·) a4 (P ++ [(t1, me, (n, p, nm), f, s1)]) ∧ Blk wc w3.heap.size [Value.int IntKind.i64 t1, Value.int IntKind.i64 me, Value.int IntKind.i64 n, Value.int IntKind.i64 p, Value.int IntKind.i64 nm, Value.int IntKind.i64 f, Value.int IntKind.i64 s1] ∧ Blk wc (w.heap.size + 1) [Value.int .i64 0, .int .i64 0, .int .i64 0, .slice none 0 0, .int .i64 0, .slice none 0 0, .slice none 0 0, .slice none 0 0] ∧ Blk wc (w.heap.size + 1 + 1) [Value.int IntKind.i64 0, Value.int IntKind.i64 0, Value.int IntKind.i64 0, Value.int IntKind.i64 0, Value.int IntKind.i64 0, Value.int IntKind.i64 0, Value.int IntKind.i64 0] ∧ Below w.heap.size w wc ∧ w6.heap.size ≤ wc.heap.size)
  case first =>
    have hw3 := HW3.out
    have hs6 := HS6.out
    have hp8 := HP8.out
    refine wp_region_until 8 (S := fun w' => Blk w' w.heap.size [Value.int .i64 f, .int .i64 t, .int .i64 s, .slice aP P.length cP, .int .i64 v, .slice aR R.length cR, .slice aK K.length cK, .slice aV V.length cV] ∧ Blk w' w3.heap.size [Value.int IntKind.i64 t1, Value.int IntKind.i64 me, Value.int IntKind.i64 n, Value.int IntKind.i64 p, Value.int IntKind.i64 nm, Value.int IntKind.i64 f, Value.int IntKind.i64 s1] ∧ Below w6.heap.size w6 w') (by kernel_rfl) ⟨HN6.out, HOP6.out, (Below.refl _ w6).drew⟩ (fun hHeld => ?_)
    refine takeU_yes 6 1 68 (v := ?_) rfl rfl (by kernel_rfl) (by kernel_rfl) (by kernel_rfl) (by kernel_rfl) (by decide) (by kernel_rfl) (fun _ _ _ h => h) (by rfl) ?_ hHeld ?_
    rotate_left 1
    · (intro w9 hSw; skip; go_simp; try with_reducible rfl)
    simp only [Act.put, List.setIfInBounds_toArray, List.set_cons_succ, List.set_cons_zero]
    refine takeU_yes 6 2 69 (v := ?_) rfl rfl (by kernel_rfl) (by kernel_rfl) (by kernel_rfl) (by kernel_rfl) (by decide) (by kernel_rfl) (fun _ _ _ h => h) (by rfl) ?_ hHeld ?_
    rotate_left 1
    · (intro w9 hSw; have q3 := hSw.1.at 3 rfl; go_simp; try with_reducible rfl)
    simp only [Act.put, List.setIfInBounds_toArray, List.set_cons_succ, List.set_cons_zero]
    refine takeU_yes 6 4 71 (v := ?_) rfl rfl (by kernel_rfl) (by kernel_rfl) (by kernel_rfl) (by kernel_rfl) (by decide) (by kernel_rfl) (fun _ _ _ h => h) (by rfl) ?_ hHeld ?_
    rotate_left 1
    · (intro w9 hSw; have q0 := hSw.2.1.at 0 rfl; have q1 := hSw.2.1.at 1 rfl; have q2 := hSw.2.1.at 2 rfl; have q3 := hSw.2.1.at 3 rfl; have q4 := hSw.2.1.at 4 rfl; have q5 := hSw.2.1.at 5 rfl; have q6 := hSw.2.1.at 6 rfl; go_simp; try with_reducible rfl)
    simp only [Act.put, List.setIfInBounds_toArray, List.set_cons_succ, List.set_cons_zero]
    generalize w6.drew = W7 at *
    refine wpAnyU_ready (rs := [0, 5]) (by kernel_rfl) (by simp) ?_
    refine AllReadyU.cons rfl (fun KK hKK => ?_) (AllReadyU.cons rfl (fun KK hKK => ?_) AllReadyU.nil)

    · go_simp
      have hsz1 : w6.heap.size ≤ W7.heap.size := hHeld.2.2.size
      have hown1 : (W7.alloc (Obj.cells #[] 32)).ownsRow w6.heap.size 32 7 (.slice (some ⟨W7.heap.size, 0, none⟩) 0 0) 0 [] := ⟨rfl, Or.inr ⟨W7.heap.size, 0, #[], rfl, hsz1, blk_new rfl, Nat.le_refl _, by unfold maxLen; omega, rfl, rfl⟩⟩
      have hlt1 : W7.heap.size < (W7.alloc (Obj.cells #[] 32)).heap.size := by simp
      have hSn := And.intro (hHeld.1.alloc (Obj.cells #[] 32)) (And.intro (hHeld.2.1.alloc (Obj.cells #[] 32)) (hHeld.2.2.alloc hHeld.2.2.size (Obj.cells #[] 32)))
      clear hHeld
      generalize W7.alloc (Obj.cells #[] 32) = V0 at *
      refine hKK.out _ _ hSn (fun hHeld => ?_)
      clear hKK KK hSn
      refine wpAnyU_ready (rs := [3, 5]) (by kernel_rfl) (by simp) ?_
      refine AllReadyU.cons rfl (fun KK hKK => ?_) (AllReadyU.cons rfl (fun KK hKK => ?_) AllReadyU.nil)
      · rw [if_pos (by rfl)]
        refine append_ops_wp rfl w6.heap.size _ 0 [] rfl hown1 aP cP P rfl (HX6.out.lp.below hHeld.2.2) HNP.out (by omega) hHeld.2.2.size ?_
        intro v3 Y3 hown3 hg3
        have hbk := below_grown hown1 hHeld.2.2.size hg3
        have hS3 : Blk Y3 w.heap.size [Value.int .i64 f, .int .i64 t, .int .i64 s, .slice aP P.length cP, .int .i64 v, .slice aR R.length cR, .slice aK K.length cK, .slice aV V.length cV] ∧ Blk Y3 w3.heap.size [Value.int IntKind.i64 t1, Value.int IntKind.i64 me, Value.int IntKind.i64 n, Value.int IntKind.i64 p, Value.int IntKind.i64 nm, Value.int IntKind.i64 f, Value.int IntKind.i64 s1] ∧ Below w6.heap.size w6 Y3 := ⟨hHeld.1.below hbk (by omega), hHeld.2.1.below hbk (by omega), hHeld.2.2.trans hbk⟩
        refine hKK.out _ _ hS3 (fun hHeld => ?_)
        clear hKK KK hbk hS3
        refine wpAnyU_ready (rs := [5]) (by kernel_rfl) (by simp) ?_
        refine AllReadyU.cons rfl (fun KK hKK => ?_) AllReadyU.nil
        go_simp
        have hrow5 : Blk (Y3.alloc (Obj.cells #[Value.int IntKind.i64 t1, Value.int IntKind.i64 me, Value.int IntKind.i64 n, Value.int IntKind.i64 p, Value.int IntKind.i64 nm, Value.int IntKind.i64 f, Value.int IntKind.i64 s1] 32)) Y3.heap.size [Value.int IntKind.i64 t1, Value.int IntKind.i64 me, Value.int IntKind.i64 n, Value.int IntKind.i64 p, Value.int IntKind.i64 nm, Value.int IntKind.i64 f, Value.int IntKind.i64 s1] := Blk.new Y3 [Value.int IntKind.i64 t1, Value.int IntKind.i64 me, Value.int IntKind.i64 n, Value.int IntKind.i64 p, Value.int IntKind.i64 nm, Value.int IntKind.i64 f, Value.int IntKind.i64 s1] 32
        have hlt5 : Y3.heap.size < (Y3.alloc (Obj.cells #[Value.int IntKind.i64 t1, Value.int IntKind.i64 me, Value.int IntKind.i64 n, Value.int IntKind.i64 p, Value.int IntKind.i64 nm, Value.int IntKind.i64 f, Value.int IntKind.i64 s1] 32)).heap.size := by simp
        have hown3 := own_below hown3 (Go.Joins.below_alloc1 Y3 (Obj.cells #[Value.int IntKind.i64 t1, Value.int IntKind.i64 me, Value.int IntKind.i64 n, Value.int IntKind.i64 p, Value.int IntKind.i64 nm, Value.int IntKind.i64 f, Value.int IntKind.i64 s1] 32))
        have hSn := And.intro (hHeld.1.alloc (Obj.cells #[Value.int IntKind.i64 t1, Value.int IntKind.i64 me, Value.int IntKind.i64 n, Value.int IntKind.i64 p, Value.int IntKind.i64 nm, Value.int IntKind.i64 f, Value.int IntKind.i64 s1] 32)) (And.intro (hHeld.2.1.alloc (Obj.cells #[Value.int IntKind.i64 t1, Value.int IntKind.i64 me, Value.int IntKind.i64 n, Value.int IntKind.i64 p, Value.int IntKind.i64 nm, Value.int IntKind.i64 f, Value.int IntKind.i64 s1] 32)) (hHeld.2.2.alloc hHeld.2.2.size (Obj.cells #[Value.int IntKind.i64 t1, Value.int IntKind.i64 me, Value.int IntKind.i64 n, Value.int IntKind.i64 p, Value.int IntKind.i64 nm, Value.int IntKind.i64 f, Value.int IntKind.i64 s1] 32)))
        clear hHeld
        generalize Y3.alloc (Obj.cells #[Value.int IntKind.i64 t1, Value.int IntKind.i64 me, Value.int IntKind.i64 n, Value.int IntKind.i64 p, Value.int IntKind.i64 nm, Value.int IntKind.i64 f, Value.int IntKind.i64 s1] 32) = V5 at *
        refine hKK.out _ _ hSn (fun hHeld => ?_)
        clear hKK KK hSn
        refine wpAnyU_ready (rs := [6]) (by kernel_rfl) (by simp) ?_
        refine AllReadyU.cons rfl (fun KK hKK => ?_) AllReadyU.nil
        rw [if_pos (by rfl)]
        refine append_ops_wp rfl w6.heap.size _ _ _ rfl hown3 (some ⟨Y3.heap.size, 0, none⟩) 1 [(t1, me, (n, p, nm), f, s1)] rfl (Or.inr ⟨Y3.heap.size, 0, rfl, hrow5.lt, by simpa [opC] using hrow5.range⟩) (by simp) (by simp; omega) hHeld.2.2.size ?_
        intro v6 Z6 hown6 hg6
        have hbk := below_grown hown3 hHeld.2.2.size hg6
        have hS6 : Blk Z6 w.heap.size [Value.int .i64 f, .int .i64 t, .int .i64 s, .slice aP P.length cP, .int .i64 v, .slice aR R.length cR, .slice aK K.length cK, .slice aV V.length cV] ∧ Blk Z6 w3.heap.size [Value.int IntKind.i64 t1, Value.int IntKind.i64 me, Value.int IntKind.i64 n, Value.int IntKind.i64 p, Value.int IntKind.i64 nm, Value.int IntKind.i64 f, Value.int IntKind.i64 s1] ∧ Below w6.heap.size w6 Z6 := ⟨hHeld.1.below hbk (by omega), hHeld.2.1.below hbk (by omega), hHeld.2.2.trans hbk⟩
        have hOf : OwnE opC 7 32 Z6 w6.heap.size v6 (P ++ [(t1, me, (n, p, nm), f, s1)]) := by
          show World.ownsRow _ _ _ _ _ _ _
          simpa [opC] using hown6
        obtain ⟨a4, c4, hv4, -, -⟩ := hOf.val
        rw [show (P ++ [(t1, me, (n, p, nm), f, s1)]).length = P.length + 1 by simp] at hv4
        subst hv4
        refine hKK.out _ _ hS6 (fun hHeld => ?_)
        clear hKK KK hbk hS6
        refine takeU_yes 6 7 74 (v := ?_) rfl rfl (by kernel_rfl) (by kernel_rfl) (by kernel_rfl) (by kernel_rfl) (by decide) (by kernel_rfl) (fun _ _ _ h => h) (by rfl) ?_ hHeld ?_
        rotate_left 1
        · (intro w9 hSw; go_simp; try with_reducible rfl)
        simp only [Act.put, List.setIfInBounds_toArray]
        have z3 := hHeld.1.at 3 rfl
        have zf := hHeld.1.frz
        have hbz := hHeld.2.2
        have hin : InL (w6.heap.size ≤ ·) a4 (P ++ [(t1, me, (n, p, nm), f, s1)]) := by
          have hown7 := hown6
          rw [show 0 + P.length + [(t1, me, (n, p, nm), f, s1)].length = P.length + 1 by simp] at hown7
          exact row_block hown7 (fun g hg => (hown7.lt g hg).1)
        have HREL : Hid (Blk (Z6.setCell ⟨w.heap.size, 3, none⟩ (.slice a4 (P.length + 1) c4)) w.heap.size [Value.int .i64 f, .int .i64 t, .int .i64 s, .slice a4 (P.length + 1) c4, .int .i64 v, .slice aR R.length cR, .slice aK K.length cK, .slice aV V.length cV] ∧ SlE opC (Z6.setCell ⟨w.heap.size, 3, none⟩ (.slice a4 (P.length + 1) c4)) a4 (P ++ [(t1, me, (n, p, nm), f, s1)]) ∧ InL (w6.heap.size ≤ ·) a4 (P ++ [(t1, me, (n, p, nm), f, s1)]) ∧ Blk (Z6.setCell ⟨w.heap.size, 3, none⟩ (.slice a4 (P.length + 1) c4)) w3.heap.size [Value.int IntKind.i64 t1, Value.int IntKind.i64 me, Value.int IntKind.i64 n, Value.int IntKind.i64 p, Value.int IntKind.i64 nm, Value.int IntKind.i64 f, Value.int IntKind.i64 s1] ∧ Blk (Z6.setCell ⟨w.heap.size, 3, none⟩ (.slice a4 (P.length + 1) c4)) (w.heap.size + 1) [Value.int .i64 0, .int .i64 0, .int .i64 0, .slice none 0 0, .int .i64 0, .slice none 0 0, .slice none 0 0, .slice none 0 0] ∧ Blk (Z6.setCell ⟨w.heap.size, 3, none⟩ (.slice a4 (P.length + 1) c4)) (w.heap.size + 1 + 1) [Value.int IntKind.i64 0, Value.int IntKind.i64 0, Value.int IntKind.i64 0, Value.int IntKind.i64 0, Value.int IntKind.i64 0, Value.int IntKind.i64 0, Value.int IntKind.i64 0] ∧ Below w.heap.size w (Z6.setCell ⟨w.heap.size, 3, none⟩ (.slice a4 (P.length + 1) c4)) ∧ w6.heap.size ≤ (Z6.setCell ⟨w.heap.size, 3, none⟩ (.slice a4 (P.length + 1) c4)).heap.size) :=
          ⟨hHeld.1.set 3 (by show 3 < 8; decide) _, hOf.read.sets (hin.off (fun b hb => by omega)) [.slice a4 (P.length + 1) c4] 3, hin, hHeld.2.1.other (by omega) 3 _, (HRC6.out.keep hbz).other (by omega) 3 _, (HRO6.out.keep hbz).other (by omega) 3 _, below_sets (HB6.out.trans (hbz.mono (by omega))) w.heap.size (Nat.le_refl _) [.slice a4 (P.length + 1) c4] 3, by have := hbz.size; simpa using this⟩
        clear hHeld hin hbz hOf hown6 hg6
        refine wpAnyU_last (by kernel_rfl) rfl (fun KK hKK => ?_)
        go_simp
        go_wp2_with fail
        refine hKK.out _ _ ?_
        clear hKK KK z3 zf
        refine wpAnyU_done (by kernel_rfl) ?_ _
        go_wp2
        go_meet
        case rel => exact ⟨rfl, a4, c4, HREL.out⟩
      · go_simp
        have hrow5 : Blk (V0.alloc (Obj.cells #[Value.int IntKind.i64 t1, Value.int IntKind.i64 me, Value.int IntKind.i64 n, Value.int IntKind.i64 p, Value.int IntKind.i64 nm, Value.int IntKind.i64 f, Value.int IntKind.i64 s1] 32)) V0.heap.size [Value.int IntKind.i64 t1, Value.int IntKind.i64 me, Value.int IntKind.i64 n, Value.int IntKind.i64 p, Value.int IntKind.i64 nm, Value.int IntKind.i64 f, Value.int IntKind.i64 s1] := Blk.new V0 [Value.int IntKind.i64 t1, Value.int IntKind.i64 me, Value.int IntKind.i64 n, Value.int IntKind.i64 p, Value.int IntKind.i64 nm, Value.int IntKind.i64 f, Value.int IntKind.i64 s1] 32
        have hlt5 : V0.heap.size < (V0.alloc (Obj.cells #[Value.int IntKind.i64 t1, Value.int IntKind.i64 me, Value.int IntKind.i64 n, Value.int IntKind.i64 p, Value.int IntKind.i64 nm, Value.int IntKind.i64 f, Value.int IntKind.i64 s1] 32)).heap.size := by simp
        have hown1 := own_below hown1 (Go.Joins.below_alloc1 V0 (Obj.cells #[Value.int IntKind.i64 t1, Value.int IntKind.i64 me, Value.int IntKind.i64 n, Value.int IntKind.i64 p, Value.int IntKind.i64 nm, Value.int IntKind.i64 f, Value.int IntKind.i64 s1] 32))
        have hSn := And.intro (hHeld.1.alloc (Obj.cells #[Value.int IntKind.i64 t1, Value.int IntKind.i64 me, Value.int IntKind.i64 n, Value.int IntKind.i64 p, Value.int IntKind.i64 nm, Value.int IntKind.i64 f, Value.int IntKind.i64 s1] 32)) (And.intro (hHeld.2.1.alloc (Obj.cells #[Value.int IntKind.i64 t1, Value.int IntKind.i64 me, Value.int IntKind.i64 n, Value.int IntKind.i64 p, Value.int IntKind.i64 nm, Value.int IntKind.i64 f, Value.int IntKind.i64 s1] 32)) (hHeld.2.2.alloc hHeld.2.2.size (Obj.cells #[Value.int IntKind.i64 t1, Value.int IntKind.i64 me, Value.int IntKind.i64 n, Value.int IntKind.i64 p, Value.int IntKind.i64 nm, Value.int IntKind.i64 f, Value.int IntKind.i64 s1] 32)))
        clear hHeld
        generalize V0.alloc (Obj.cells #[Value.int IntKind.i64 t1, Value.int IntKind.i64 me, Value.int IntKind.i64 n, Value.int IntKind.i64 p, Value.int IntKind.i64 nm, Value.int IntKind.i64 f, Value.int IntKind.i64 s1] 32) = V5 at *
        refine hKK.out _ _ hSn (fun hHeld => ?_)
        clear hKK KK hSn
        refine wpAnyU_ready (rs := [3]) (by kernel_rfl) (by simp) ?_
        refine AllReadyU.cons rfl (fun KK hKK => ?_) AllReadyU.nil
        rw [if_pos (by rfl)]
        refine append_ops_wp rfl w6.heap.size _ 0 [] rfl hown1 aP cP P rfl (HX6.out.lp.below hHeld.2.2) HNP.out (by omega) hHeld.2.2.size ?_
        intro v3 Y3 hown3 hg3
        have hbk := below_grown hown1 hHeld.2.2.size hg3
        have hS3 : Blk Y3 w.heap.size [Value.int .i64 f, .int .i64 t, .int .i64 s, .slice aP P.length cP, .int .i64 v, .slice aR R.length cR, .slice aK K.length cK, .slice aV V.length cV] ∧ Blk Y3 w3.heap.size [Value.int IntKind.i64 t1, Value.int IntKind.i64 me, Value.int IntKind.i64 n, Value.int IntKind.i64 p, Value.int IntKind.i64 nm, Value.int IntKind.i64 f, Value.int IntKind.i64 s1] ∧ Below w6.heap.size w6 Y3 := ⟨hHeld.1.below hbk (by omega), hHeld.2.1.below hbk (by omega), hHeld.2.2.trans hbk⟩
        have hrow5 := hrow5.grown hg3 (fun e => by have h9 : V0.heap.size = W7.heap.size := Option.some.inj e; omega)
        refine hKK.out _ _ hS3 (fun hHeld => ?_)
        clear hKK KK hbk hS3
        refine wpAnyU_ready (rs := [6]) (by kernel_rfl) (by simp) ?_
        refine AllReadyU.cons rfl (fun KK hKK => ?_) AllReadyU.nil
        rw [if_pos (by rfl)]
        refine append_ops_wp rfl w6.heap.size _ _ _ rfl hown3 (some ⟨V0.heap.size, 0, none⟩) 1 [(t1, me, (n, p, nm), f, s1)] rfl (Or.inr ⟨V0.heap.size, 0, rfl, hrow5.lt, by simpa [opC] using hrow5.range⟩) (by simp) (by simp; omega) hHeld.2.2.size ?_
        intro v6 Z6 hown6 hg6
        have hbk := below_grown hown3 hHeld.2.2.size hg6
        have hS6 : Blk Z6 w.heap.size [Value.int .i64 f, .int .i64 t, .int .i64 s, .slice aP P.length cP, .int .i64 v, .slice aR R.length cR, .slice aK K.length cK, .slice aV V.length cV] ∧ Blk Z6 w3.heap.size [Value.int IntKind.i64 t1, Value.int IntKind.i64 me, Value.int IntKind.i64 n, Value.int IntKind.i64 p, Value.int IntKind.i64 nm, Value.int IntKind.i64 f, Value.int IntKind.i64 s1] ∧ Below w6.heap.size w6 Z6 := ⟨hHeld.1.below hbk (by omega), hHeld.2.1.below hbk (by omega), hHeld.2.2.trans hbk⟩
        have hOf : OwnE opC 7 32 Z6 w6.heap.size v6 (P ++ [(t1, me, (n, p, nm), f, s1)]) := by
          show World.ownsRow _ _ _ _ _ _ _
          simpa [opC] using hown6
        obtain ⟨a4, c4, hv4, -, -⟩ := hOf.val
        rw [show (P ++ [(t1, me, (n, p, nm), f, s1)]).length = P.length + 1 by simp] at hv4
        subst hv4
        refine hKK.out _ _ hS6 (fun hHeld => ?_)
        clear hKK KK hbk hS6
        refine takeU_yes 6 7 74 (v := ?_) rfl rfl (by kernel_rfl) (by kernel_rfl) (by kernel_rfl) (by kernel_rfl) (by decide) (by kernel_rfl) (fun _ _ _ h => h) (by rfl) ?_ hHeld ?_
        rotate_left 1
        · (intro w9 hSw; go_simp; try with_reducible rfl)
        simp only [Act.put, List.setIfInBounds_toArray]
        have z3 := hHeld.1.at 3 rfl
        have zf := hHeld.1.frz
        have hbz := hHeld.2.2
        have hin : InL (w6.heap.size ≤ ·) a4 (P ++ [(t1, me, (n, p, nm), f, s1)]) := by
          have hown7 := hown6
          rw [show 0 + P.length + [(t1, me, (n, p, nm), f, s1)].length = P.length + 1 by simp] at hown7
          exact row_block hown7 (fun g hg => (hown7.lt g hg).1)
        have HREL : Hid (Blk (Z6.setCell ⟨w.heap.size, 3, none⟩ (.slice a4 (P.length + 1) c4)) w.heap.size [Value.int .i64 f, .int .i64 t, .int .i64 s, .slice a4 (P.length + 1) c4, .int .i64 v, .slice aR R.length cR, .slice aK K.length cK, .slice aV V.length cV] ∧ SlE opC (Z6.setCell ⟨w.heap.size, 3, none⟩ (.slice a4 (P.length + 1) c4)) a4 (P ++ [(t1, me, (n, p, nm), f, s1)]) ∧ InL (w6.heap.size ≤ ·) a4 (P ++ [(t1, me, (n, p, nm), f, s1)]) ∧ Blk (Z6.setCell ⟨w.heap.size, 3, none⟩ (.slice a4 (P.length + 1) c4)) w3.heap.size [Value.int IntKind.i64 t1, Value.int IntKind.i64 me, Value.int IntKind.i64 n, Value.int IntKind.i64 p, Value.int IntKind.i64 nm, Value.int IntKind.i64 f, Value.int IntKind.i64 s1] ∧ Blk (Z6.setCell ⟨w.heap.size, 3, none⟩ (.slice a4 (P.length + 1) c4)) (w.heap.size + 1) [Value.int .i64 0, .int .i64 0, .int .i64 0, .slice none 0 0, .int .i64 0, .slice none 0 0, .slice none 0 0, .slice none 0 0] ∧ Blk (Z6.setCell ⟨w.heap.size, 3, none⟩ (.slice a4 (P.length + 1) c4)) (w.heap.size + 1 + 1) [Value.int IntKind.i64 0, Value.int IntKind.i64 0, Value.int IntKind.i64 0, Value.int IntKind.i64 0, Value.int IntKind.i64 0, Value.int IntKind.i64 0, Value.int IntKind.i64 0] ∧ Below w.heap.size w (Z6.setCell ⟨w.heap.size, 3, none⟩ (.slice a4 (P.length + 1) c4)) ∧ w6.heap.size ≤ (Z6.setCell ⟨w.heap.size, 3, none⟩ (.slice a4 (P.length + 1) c4)).heap.size) :=
          ⟨hHeld.1.set 3 (by show 3 < 8; decide) _, hOf.read.sets (hin.off (fun b hb => by omega)) [.slice a4 (P.length + 1) c4] 3, hin, hHeld.2.1.other (by omega) 3 _, (HRC6.out.keep hbz).other (by omega) 3 _, (HRO6.out.keep hbz).other (by omega) 3 _, below_sets (HB6.out.trans (hbz.mono (by omega))) w.heap.size (Nat.le_refl _) [.slice a4 (P.length + 1) c4] 3, by have := hbz.size; simpa using this⟩
        clear hHeld hin hbz hOf hown6 hg6
        refine wpAnyU_last (by kernel_rfl) rfl (fun KK hKK => ?_)
        go_simp
        go_wp2_with fail
        refine hKK.out _ _ ?_
        clear hKK KK z3 zf
        refine wpAnyU_done (by kernel_rfl) ?_ _
        go_wp2
        go_meet
        case rel => exact ⟨rfl, a4, c4, HREL.out⟩
    · go_simp
      have hrow5 : Blk (W7.alloc (Obj.cells #[Value.int IntKind.i64 t1, Value.int IntKind.i64 me, Value.int IntKind.i64 n, Value.int IntKind.i64 p, Value.int IntKind.i64 nm, Value.int IntKind.i64 f, Value.int IntKind.i64 s1] 32)) W7.heap.size [Value.int IntKind.i64 t1, Value.int IntKind.i64 me, Value.int IntKind.i64 n, Value.int IntKind.i64 p, Value.int IntKind.i64 nm, Value.int IntKind.i64 f, Value.int IntKind.i64 s1] := Blk.new W7 [Value.int IntKind.i64 t1, Value.int IntKind.i64 me, Value.int IntKind.i64 n, Value.int IntKind.i64 p, Value.int IntKind.i64 nm, Value.int IntKind.i64 f, Value.int IntKind.i64 s1] 32
      have hlt5 : W7.heap.size < (W7.alloc (Obj.cells #[Value.int IntKind.i64 t1, Value.int IntKind.i64 me, Value.int IntKind.i64 n, Value.int IntKind.i64 p, Value.int IntKind.i64 nm, Value.int IntKind.i64 f, Value.int IntKind.i64 s1] 32)).heap.size := by simp
      have hSn := And.intro (hHeld.1.alloc (Obj.cells #[Value.int IntKind.i64 t1, Value.int IntKind.i64 me, Value.int IntKind.i64 n, Value.int IntKind.i64 p, Value.int IntKind.i64 nm, Value.int IntKind.i64 f, Value.int IntKind.i64 s1] 32)) (And.intro (hHeld.2.1.alloc (Obj.cells #[Value.int IntKind.i64 t1, Value.int IntKind.i64 me, Value.int IntKind.i64 n, Value.int IntKind.i64 p, Value.int IntKind.i64 nm, Value.int IntKind.i64 f, Value.int IntKind.i64 s1] 32)) (hHeld.2.2.alloc hHeld.2.2.size (Obj.cells #[Value.int IntKind.i64 t1, Value.int IntKind.i64 me, Value.int IntKind.i64 n, Value.int IntKind.i64 p, Value.int IntKind.i64 nm, Value.int IntKind.i64 f, Value.int IntKind.i64 s1] 32)))
      clear hHeld
      generalize W7.alloc (Obj.cells #[Value.int IntKind.i64 t1, Value.int IntKind.i64 me, Value.int IntKind.i64 n, Value.int IntKind.i64 p, Value.int IntKind.i64 nm, Value.int IntKind.i64 f, Value.int IntKind.i64 s1] 32) = V5 at *
      refine hKK.out _ _ hSn (fun hHeld => ?_)
      clear hKK KK hSn
      refine wpAnyU_ready (rs := [0]) (by kernel_rfl) (by simp) ?_
      refine AllReadyU.cons rfl (fun KK hKK => ?_) AllReadyU.nil
      go_simp
      have hsz1 : w6.heap.size ≤ V5.heap.size := hHeld.2.2.size
      have hown1 : (V5.alloc (Obj.cells #[] 32)).ownsRow w6.heap.size 32 7 (.slice (some ⟨V5.heap.size, 0, none⟩) 0 0) 0 [] := ⟨rfl, Or.inr ⟨V5.heap.size, 0, #[], rfl, hsz1, blk_new rfl, Nat.le_refl _, by unfold maxLen; omega, rfl, rfl⟩⟩
      have hrow5 := hrow5.alloc (Obj.cells #[] 32)
      have hlt1 : V5.heap.size < (V5.alloc (Obj.cells #[] 32)).heap.size := by simp
      have hSn := And.intro (hHeld.1.alloc (Obj.cells #[] 32)) (And.intro (hHeld.2.1.alloc (Obj.cells #[] 32)) (hHeld.2.2.alloc hHeld.2.2.size (Obj.cells #[] 32)))
      clear hHeld
      generalize V5.alloc (Obj.cells #[] 32) = V0 at *
      refine hKK.out _ _ hSn (fun hHeld => ?_)
      clear hKK KK hSn
      refine wpAnyU_ready (rs := [3]) (by kernel_rfl) (by simp) ?_
      refine AllReadyU.cons rfl (fun KK hKK => ?_) AllReadyU.nil
      rw [if_pos (by rfl)]
      refine append_ops_wp rfl w6.heap.size _ 0 [] rfl hown1 aP cP P rfl (HX6.out.lp.below hHeld.2.2) HNP.out (by omega) hHeld.2.2.size ?_
      intro v3 Y3 hown3 hg3
      have hbk := below_grown hown1 hHeld.2.2.size hg3
      have hS3 : Blk Y3 w.heap.size [Value.int .i64 f, .int .i64 t, .int .i64 s, .slice aP P.length cP, .int .i64 v, .slice aR R.length cR, .slice aK K.length cK, .slice aV V.length cV] ∧ Blk Y3 w3.heap.size [Value.int IntKind.i64 t1, Value.int IntKind.i64 me, Value.int IntKind.i64 n, Value.int IntKind.i64 p, Value.int IntKind.i64 nm, Value.int IntKind.i64 f, Value.int IntKind.i64 s1] ∧ Below w6.heap.size w6 Y3 := ⟨hHeld.1.below hbk (by omega), hHeld.2.1.below hbk (by omega), hHeld.2.2.trans hbk⟩
      have hrow5 := hrow5.grown hg3 (fun e => by have h9 : W7.heap.size = V5.heap.size := Option.some.inj e; omega)
      refine hKK.out _ _ hS3 (fun hHeld => ?_)
      clear hKK KK hbk hS3
      refine wpAnyU_ready (rs := [6]) (by kernel_rfl) (by simp) ?_
      refine AllReadyU.cons rfl (fun KK hKK => ?_) AllReadyU.nil
      rw [if_pos (by rfl)]
      refine append_ops_wp rfl w6.heap.size _ _ _ rfl hown3 (some ⟨W7.heap.size, 0, none⟩) 1 [(t1, me, (n, p, nm), f, s1)] rfl (Or.inr ⟨W7.heap.size, 0, rfl, hrow5.lt, by simpa [opC] using hrow5.range⟩) (by simp) (by simp; omega) hHeld.2.2.size ?_
      intro v6 Z6 hown6 hg6
      have hbk := below_grown hown3 hHeld.2.2.size hg6
      have hS6 : Blk Z6 w.heap.size [Value.int .i64 f, .int .i64 t, .int .i64 s, .slice aP P.length cP, .int .i64 v, .slice aR R.length cR, .slice aK K.length cK, .slice aV V.length cV] ∧ Blk Z6 w3.heap.size [Value.int IntKind.i64 t1, Value.int IntKind.i64 me, Value.int IntKind.i64 n, Value.int IntKind.i64 p, Value.int IntKind.i64 nm, Value.int IntKind.i64 f, Value.int IntKind.i64 s1] ∧ Below w6.heap.size w6 Z6 := ⟨hHeld.1.below hbk (by omega), hHeld.2.1.below hbk (by omega), hHeld.2.2.trans hbk⟩
      have hOf : OwnE opC 7 32 Z6 w6.heap.size v6 (P ++ [(t1, me, (n, p, nm), f, s1)]) := by
        show World.ownsRow _ _ _ _ _ _ _
        simpa [opC] using hown6
      obtain ⟨a4, c4, hv4, -, -⟩ := hOf.val
      rw [show (P ++ [(t1, me, (n, p, nm), f, s1)]).length = P.length + 1 by simp] at hv4
      subst hv4
      refine hKK.out _ _ hS6 (fun hHeld => ?_)
      clear hKK KK hbk hS6
      refine takeU_yes 6 7 74 (v := ?_) rfl rfl (by kernel_rfl) (by kernel_rfl) (by kernel_rfl) (by kernel_rfl) (by decide) (by kernel_rfl) (fun _ _ _ h => h) (by rfl) ?_ hHeld ?_
      rotate_left 1
      · (intro w9 hSw; go_simp; try with_reducible rfl)
      simp only [Act.put, List.setIfInBounds_toArray]
      have z3 := hHeld.1.at 3 rfl
      have zf := hHeld.1.frz
      have hbz := hHeld.2.2
      have hin : InL (w6.heap.size ≤ ·) a4 (P ++ [(t1, me, (n, p, nm), f, s1)]) := by
        have hown7 := hown6
        rw [show 0 + P.length + [(t1, me, (n, p, nm), f, s1)].length = P.length + 1 by simp] at hown7
        exact row_block hown7 (fun g hg => (hown7.lt g hg).1)
      have HREL : Hid (Blk (Z6.setCell ⟨w.heap.size, 3, none⟩ (.slice a4 (P.length + 1) c4)) w.heap.size [Value.int .i64 f, .int .i64 t, .int .i64 s, .slice a4 (P.length + 1) c4, .int .i64 v, .slice aR R.length cR, .slice aK K.length cK, .slice aV V.length cV] ∧ SlE opC (Z6.setCell ⟨w.heap.size, 3, none⟩ (.slice a4 (P.length + 1) c4)) a4 (P ++ [(t1, me, (n, p, nm), f, s1)]) ∧ InL (w6.heap.size ≤ ·) a4 (P ++ [(t1, me, (n, p, nm), f, s1)]) ∧ Blk (Z6.setCell ⟨w.heap.size, 3, none⟩ (.slice a4 (P.length + 1) c4)) w3.heap.size [Value.int IntKind.i64 t1, Value.int IntKind.i64 me, Value.int IntKind.i64 n, Value.int IntKind.i64 p, Value.int IntKind.i64 nm, Value.int IntKind.i64 f, Value.int IntKind.i64 s1] ∧ Blk (Z6.setCell ⟨w.heap.size, 3, none⟩ (.slice a4 (P.length + 1) c4)) (w.heap.size + 1) [Value.int .i64 0, .int .i64 0, .int .i64 0, .slice none 0 0, .int .i64 0, .slice none 0 0, .slice none 0 0, .slice none 0 0] ∧ Blk (Z6.setCell ⟨w.heap.size, 3, none⟩ (.slice a4 (P.length + 1) c4)) (w.heap.size + 1 + 1) [Value.int IntKind.i64 0, Value.int IntKind.i64 0, Value.int IntKind.i64 0, Value.int IntKind.i64 0, Value.int IntKind.i64 0, Value.int IntKind.i64 0, Value.int IntKind.i64 0] ∧ Below w.heap.size w (Z6.setCell ⟨w.heap.size, 3, none⟩ (.slice a4 (P.length + 1) c4)) ∧ w6.heap.size ≤ (Z6.setCell ⟨w.heap.size, 3, none⟩ (.slice a4 (P.length + 1) c4)).heap.size) :=
        ⟨hHeld.1.set 3 (by show 3 < 8; decide) _, hOf.read.sets (hin.off (fun b hb => by omega)) [.slice a4 (P.length + 1) c4] 3, hin, hHeld.2.1.other (by omega) 3 _, (HRC6.out.keep hbz).other (by omega) 3 _, (HRO6.out.keep hbz).other (by omega) 3 _, below_sets (HB6.out.trans (hbz.mono (by omega))) w.heap.size (Nat.le_refl _) [.slice a4 (P.length + 1) c4] 3, by have := hbz.size; simpa using this⟩
      clear hHeld hin hbz hOf hown6 hg6
      refine wpAnyU_last (by kernel_rfl) rfl (fun KK hKK => ?_)
      go_simp
      go_wp2_with fail
      refine hKK.out _ _ ?_
      clear hKK KK z3 zf
      refine wpAnyU_done (by kernel_rfl) ?_ _
      go_wp2
      go_meet
      case rel => exact ⟨rfl, a4, c4, HREL.out⟩

  case rest =>
  obtain ⟨rfl, a4, c4, hN7, hP7, hin, hOP7, hRC7, hRO7, hB7, hs7⟩ := hcut
  rename World => W7
  have hw3 := HW3.out
  have hs6 := HS6.out
  have pt := HPT.out
  have ps := HPS.out
  obtain ⟨W8, hW8⟩ : ∃ W8, (W7.setCell ⟨w.heap.size, 1, none⟩ (.int .i64 t1)).setCell ⟨w.heap.size, 2, none⟩ (.int .i64 s1) = W8 := ⟨_, rfl⟩
  have hN8 : Blk W8 w.heap.size [Value.int .i64 f, .int .i64 t1, .int .i64 s1, .slice a4 (P.length + 1) c4, .int .i64 v, .slice aR R.length cR, .slice aK K.length cK, .slice aV V.length cV] := by rw [← hW8]; exact (hN7.set 1 (by show 1 < 8; decide) (.int .i64 t1)).set 2 (by show 2 < 8; decide) (.int .i64 s1)
  have hOP8 : Blk W8 w3.heap.size [Value.int IntKind.i64 t1, Value.int IntKind.i64 me, Value.int IntKind.i64 n, Value.int IntKind.i64 p, Value.int IntKind.i64 nm, Value.int IntKind.i64 f, Value.int IntKind.i64 s1] := by rw [← hW8]; exact (hOP7.other (by omega) 1 _).other (by omega) 2 _
  have hRC8 : Blk W8 (w.heap.size + 1) [Value.int .i64 0, .int .i64 0, .int .i64 0, .slice none 0 0, .int .i64 0, .slice none 0 0, .slice none 0 0, .slice none 0 0] := by rw [← hW8]; exact (hRC7.other (by omega) 1 _).other (by omega) 2 _
  have hRO8 : Blk W8 (w.heap.size + 1 + 1) [Value.int IntKind.i64 0, Value.int IntKind.i64 0, Value.int IntKind.i64 0, Value.int IntKind.i64 0, Value.int IntKind.i64 0, Value.int IntKind.i64 0, Value.int IntKind.i64 0] := by rw [← hW8]; exact (hRO7.other (by omega) 1 _).other (by omega) 2 _
  have hB8 : Below w.heap.size w W8 := by rw [← hW8]; exact below_sets (below_sets hB7 w.heap.size (Nat.le_refl _) [.int .i64 t1] 1) w.heap.size (Nat.le_refl _) [.int .i64 s1] 2
  have hP8' : SlE opC W8 a4 (P ++ [(t1, me, (n, p, nm), f, s1)]) := by rw [← hW8]; exact (hP7.sets (hin.off (fun b hb => by omega)) [.int .i64 t1] 1).sets (hin.off (fun b hb => by omega)) [.int .i64 s1] 2
  have x1 := hN7.at 1 rfl
  have x2 := hN7.at 2 rfl
  have xf := hN7.frz
  have HN13 := Lib.hid hN8
  have HOP13 := Lib.hid hOP8
  have HRC13 := Lib.hid hRC8
  have HRO13 := Lib.hid hRO8
  have HB13 := Lib.hid hB8
  have HP13 := Lib.hid hP8'
  have HIN := Lib.hid hin
  clear hN7 hP7 hin hOP7 hRC7 hRO7 hB7 hs7 hN8 hOP8 hRC8 hRO8 hB8 hP8' HN6 HRC6 HRO6 HB6 HX6 HOP6 hw3 hs6
  go_upto_region 16 with fail
  clear hW8 x1 x2 xf pt ps
  refine wp_region_held_drew (S := fun w' => Blk w' w.heap.size [Value.int .i64 f, .int .i64 t1, .int .i64 s1, .slice a4 (P.length + 1) c4, .int .i64 v, .slice aR R.length cR, .slice aK K.length cK, .slice aV V.length cV] ∧ Blk w' w3.heap.size [Value.int IntKind.i64 t1, Value.int IntKind.i64 me, Value.int IntKind.i64 n, Value.int IntKind.i64 p, Value.int IntKind.i64 nm, Value.int IntKind.i64 f, Value.int IntKind.i64 s1]) (by kernel_rfl) ⟨HN13.out, HOP13.out⟩ (fun hHeld => ?_)
  refine take_load 0 83 28 w.heap.size [Value.int .i64 f, .int .i64 t1, .int .i64 s1, .slice a4 (P.length + 1) c4, .int .i64 v, .slice aR R.length cR, .slice aK K.length cK, .slice aV V.length cV] rfl rfl (by kernel_rfl) (by kernel_rfl) (by kernel_rfl) (fun _ _ _ h => h) (by rfl) (by rfl) (by rfl) (fun w hw => hw.1.range) Tryz.underlying28 rfl sizeClient hHeld ?_
  simp only [Act.put, List.setIfInBounds_toArray, List.set_cons_succ, List.set_cons_zero]
  refine take_load 1 84 32 w3.heap.size [Value.int IntKind.i64 t1, Value.int IntKind.i64 me, Value.int IntKind.i64 n, Value.int IntKind.i64 p, Value.int IntKind.i64 nm, Value.int IntKind.i64 f, Value.int IntKind.i64 s1] rfl rfl (by kernel_rfl) (by kernel_rfl) (by kernel_rfl) (fun _ _ _ h => h) (by rfl) (by rfl) (by rfl) (fun w hw => hw.2.range) Tryz.underlying32 rfl sizeOp hHeld ?_
  simp only [Act.put, List.setIfInBounds_toArray, List.set_cons_succ, List.set_cons_zero]
  have hw3 := HW3.out
  have hs6 := HS6.out
  have hHeld2 : Blk (W8.drew.setCells (w.heap.size + 1) 0 [Value.int .i64 f, .int .i64 t1, .int .i64 s1, .slice a4 (P.length + 1) c4, .int .i64 v, .slice aR R.length cR, .slice aK K.length cK, .slice aV V.length cV]) w.heap.size [Value.int .i64 f, .int .i64 t1, .int .i64 s1, .slice a4 (P.length + 1) c4, .int .i64 v, .slice aR R.length cR, .slice aK K.length cK, .slice aV V.length cV] ∧ Blk (W8.drew.setCells (w.heap.size + 1) 0 [Value.int .i64 f, .int .i64 t1, .int .i64 s1, .slice a4 (P.length + 1) c4, .int .i64 v, .slice aR R.length cR, .slice aK K.length cK, .slice aV V.length cV]) w3.heap.size [Value.int IntKind.i64 t1, Value.int IntKind.i64 me, Value.int IntKind.i64 n, Value.int IntKind.i64 p, Value.int IntKind.i64 nm, Value.int IntKind.i64 f, Value.int IntKind.i64 s1] := ⟨hHeld.1.others (by omega) _ _, hHeld.2.others (by omega) _ _⟩
  refine step_store 2 28 (w.heap.size + 1) [Value.int .i64 f, .int .i64 t1, .int .i64 s1, .slice a4 (P.length + 1) c4, .int .i64 v, .slice aR R.length cR, .slice aK K.length cK, .slice aV V.length cV] (by kernel_rfl) rfl rfl (by rfl) (by rfl) (by rfl) (by rfl) HRC13.out.drew.there sizeClient (by intro u hu; simp at hu; rcases hu with rfl | rfl | rfl | rfl | rfl | rfl | rfl | rfl <;> rfl) hHeld2 ?_
  have hRO14 : Blk (W8.drew.setCells (w.heap.size + 1) 0 [Value.int .i64 f, .int .i64 t1, .int .i64 s1, .slice a4 (P.length + 1) c4, .int .i64 v, .slice aR R.length cR, .slice aK K.length cK, .slice aV V.length cV]) (w.heap.size + 1 + 1) [Value.int IntKind.i64 0, Value.int IntKind.i64 0, Value.int IntKind.i64 0, Value.int IntKind.i64 0, Value.int IntKind.i64 0, Value.int IntKind.i64 0, Value.int IntKind.i64 0] := HRO13.out.drew.others (by omega) _ _
  have hHeld3 : Blk ((W8.drew.setCells (w.heap.size + 1) 0 [Value.int .i64 f, .int .i64 t1, .int .i64 s1, .slice a4 (P.length + 1) c4, .int .i64 v, .slice aR R.length cR, .slice aK K.length cK, .slice aV V.length cV]).setCells (w.heap.size + 1 + 1) 0 [Value.int IntKind.i64 t1, Value.int IntKind.i64 me, Value.int IntKind.i64 n, Value.int IntKind.i64 p, Value.int IntKind.i64 nm, Value.int IntKind.i64 f, Value.int IntKind.i64 s1]) w.heap.size [Value.int .i64 f, .int .i64 t1, .int .i64 s1, .slice a4 (P.length + 1) c4, .int .i64 v, .slice aR R.length cR, .slice aK K.length cK, .slice aV V.length cV] ∧ Blk ((W8.drew.setCells (w.heap.size + 1) 0 [Value.int .i64 f, .int .i64 t1, .int .i64 s1, .slice a4 (P.length + 1) c4, .int .i64 v, .slice aR R.length cR, .slice aK K.length cK, .slice aV V.length cV]).setCells (w.heap.size + 1 + 1) 0 [Value.int IntKind.i64 t1, Value.int IntKind.i64 me, Value.int IntKind.i64 n, Value.int IntKind.i64 p, Value.int IntKind.i64 nm, Value.int IntKind.i64 f, Value.int IntKind.i64 s1]) w3.heap.size [Value.int IntKind.i64 t1, Value.int IntKind.i64 me, Value.int IntKind.i64 n, Value.int IntKind.i64 p, Value.int IntKind.i64 nm, Value.int IntKind.i64 f, Value.int IntKind.i64 s1] := ⟨hHeld2.1.others (by omega) _ _, hHeld2.2.others (by omega) _ _⟩
  refine step_store 3 32 (w.heap.size + 1 + 1) [Value.int IntKind.i64 t1, Value.int IntKind.i64 me, Value.int IntKind.i64 n, Value.int IntKind.i64 p, Value.int IntKind.i64 nm, Value.int IntKind.i64 f, Value.int IntKind.i64 s1] (by kernel_rfl) rfl rfl (by rfl) (by rfl) (by rfl) (by rfl) hRO14.there sizeOp (opC_one (t1, me, (n, p, nm), f, s1)) hHeld3 ?_
  clear hHeld
  have hHeld := hHeld3
  refine take_yes 4 12 (v := ?_) rfl rfl (by kernel_rfl) (by kernel_rfl) (by kernel_rfl) (fun _ _ _ h => h) (by rfl) ?_ hHeld ?_
  rotate_left 1
  · (intro w9 hSw; go_simp; try with_reducible rfl)
  simp only [Act.put, List.setIfInBounds_toArray, List.set_cons_succ, List.set_cons_zero]
  refine wpAnyH_done (by kernel_rfl) ?_ _
  have HRCf : Hid (Blk ((W8.drew.setCells (w.heap.size + 1) 0 [Value.int .i64 f, .int .i64 t1, .int .i64 s1, .slice a4 (P.length + 1) c4, .int .i64 v, .slice aR R.length cR, .slice aK K.length cK, .slice aV V.length cV]).setCells (w.heap.size + 1 + 1) 0 [Value.int IntKind.i64 t1, Value.int IntKind.i64 me, Value.int IntKind.i64 n, Value.int IntKind.i64 p, Value.int IntKind.i64 nm, Value.int IntKind.i64 f, Value.int IntKind.i64 s1]) (w.heap.size + 1) [Value.int .i64 f, .int .i64 t1, .int .i64 s1, .slice a4 (P.length + 1) c4, .int .i64 v, .slice aR R.length cR, .slice aK K.length cK, .slice aV V.length cV]) := (HRC13.out.drew.sets [Value.int .i64 f, .int .i64 t1, .int .i64 s1, .slice a4 (P.length + 1) c4, .int .i64 v, .slice aR R.length cR, .slice aK K.length cK, .slice aV V.length cV] rfl).others (by omega) _ _
  have HROf : Hid (Blk ((W8.drew.setCells (w.heap.size + 1) 0 [Value.int .i64 f, .int .i64 t1, .int .i64 s1, .slice a4 (P.length + 1) c4, .int .i64 v, .slice aR R.length cR, .slice aK K.length cK, .slice aV V.length cV]).setCells (w.heap.size + 1 + 1) 0 [Value.int IntKind.i64 t1, Value.int IntKind.i64 me, Value.int IntKind.i64 n, Value.int IntKind.i64 p, Value.int IntKind.i64 nm, Value.int IntKind.i64 f, Value.int IntKind.i64 s1]) (w.heap.size + 1 + 1) [Value.int IntKind.i64 t1, Value.int IntKind.i64 me, Value.int IntKind.i64 n, Value.int IntKind.i64 p, Value.int IntKind.i64 nm, Value.int IntKind.i64 f, Value.int IntKind.i64 s1]) := hRO14.sets [Value.int IntKind.i64 t1, Value.int IntKind.i64 me, Value.int IntKind.i64 n, Value.int IntKind.i64 p, Value.int IntKind.i64 nm, Value.int IntKind.i64 f, Value.int IntKind.i64 s1] rfl
  have HBf : Hid (Below w.heap.size w ((W8.drew.setCells (w.heap.size + 1) 0 [Value.int .i64 f, .int .i64 t1, .int .i64 s1, .slice a4 (P.length + 1) c4, .int .i64 v, .slice aR R.length cR, .slice aK K.length cK, .slice aV V.length cV]).setCells (w.heap.size + 1 + 1) 0 [Value.int IntKind.i64 t1, Value.int IntKind.i64 me, Value.int IntKind.i64 n, Value.int IntKind.i64 p, Value.int IntKind.i64 nm, Value.int IntKind.i64 f, Value.int IntKind.i64 s1])) := below_sets (below_sets HB13.out.drew (w.heap.size + 1) (by omega) _ 0) (w.heap.size + 1 + 1) (by omega) _ 0
  have HPf : Hid (SlE opC ((W8.drew.setCells (w.heap.size + 1) 0 [Value.int .i64 f, .int .i64 t1, .int .i64 s1, .slice a4 (P.length + 1) c4, .int .i64 v, .slice aR R.length cR, .slice aK K.length cK, .slice aV V.length cV]).setCells (w.heap.size + 1 + 1) 0 [Value.int IntKind.i64 t1, Value.int IntKind.i64 me, Value.int IntKind.i64 n, Value.int IntKind.i64 p, Value.int IntKind.i64 nm, Value.int IntKind.i64 f, Value.int IntKind.i64 s1]) a4 (P ++ [(t1, me, (n, p, nm), f, s1)])) := (HP13.out.drew.sets (HIN.out.off (fun b hb => by omega)) [Value.int .i64 f, .int .i64 t1, .int .i64 s1, .slice a4 (P.length + 1) c4, .int .i64 v, .slice aR R.length cR, .slice aK K.length cK, .slice aV V.length cV] 0).sets (HIN.out.off (fun b hb => by omega)) [Value.int IntKind.i64 t1, Value.int IntKind.i64 me, Value.int IntKind.i64 n, Value.int IntKind.i64 p, Value.int IntKind.i64 nm, Value.int IntKind.i64 f, Value.int IntKind.i64 s1] 0
  clear hHeld hHeld2 hHeld3 hRO14 HN13 HOP13 HRC13 HRO13 HB13 HP13 hw3 hs6
  generalize (W8.drew.setCells (w.heap.size + 1) 0 [Value.int .i64 f, .int .i64 t1, .int .i64 s1, .slice a4 (P.length + 1) c4, .int .i64 v, .slice aR R.length cR, .slice aK K.length cK, .slice aV V.length cV]).setCells (w.heap.size + 1 + 1) 0 [Value.int IntKind.i64 t1, Value.int IntKind.i64 me, Value.int IntKind.i64 n, Value.int IntKind.i64 p, Value.int IntKind.i64 nm, Value.int IntKind.i64 f, Value.int IntKind.i64 s1] = W15 at *
  go_wp2
  refine ret_cell_cell_tmp Tryz.results10 rfl rfl rfl (HRCf.out.load Tryz.underlying28 rfl sizeClient) (HROf.out.load Tryz.underlying32 rfl sizeOp) ?_
  have hne : ¬ (movE ((f, t, s, v), P, R, K, V) me n p nm ≠ 0) := by rw [HE0.out]; simp
  refine ⟨(((f, t1, s1, v), P ++ [(t1, me, (n, p, nm), f, s1)], R, K, V), (a4, c4), (aR, cR), (aK, cK), (aV, cV)), ?_, ?_, ?_, HIN.out.imp (fun b hb => by have h1 := HW3.out; have h2 := HS6.out; omega), HBf.out⟩
  · rw [HE0.out, show movP ((f, t, s, v), P, R, K, V) me n p nm = (t1, me, (n, p, nm), f, s1) from (if_neg hne).trans HMV.out]
    simp [clC]
  · have e : movC ((f, t, s, v), P, R, K, V) me n p nm = ((f, t + 1, s + 1, v), P ++ [movO ((f, t, s, v), P, R, K, V) me n p nm], R, K, V) := if_neg hne
    rw [e, HMV.out, HT1.out, HS1.out]
  · have hf := HFEW.out
    have h8 := HP8.out
    simp only [ClFew] at hf
    refine ⟨HPf.out, HX0.out.lr.below HBf.out, HX0.out.lk.below HBf.out, HX0.out.lv.below HBf.out, ⟨?_, ?_, ?_, ?_⟩, HX0.out.nils⟩
    · simp only [List.length_append, List.length_cons, List.length_nil]
      omega
    · show R.length ≤ _
      omega
    · show K.length ≤ _
      omega
    · show V.length ≤ _
      omega
end Go.Proofs.YtijjiccgpobjmaeGreat

/- orangerylaw.at: a number brought within bounds. -/
namespace Go.Proofs.YtijjiccgpobjmaeGreat
open Go.ChangeShapes Go.WideShapes Go.ChangeAt Go.RowKit
open Orangery (atI)

set_option maxHeartbeats 400000 in
theorem at_any (w : World) (k n : Int) (hn : 0 < n) (hn2 : n ≤ 4611686018427387904) :
    Calls Tryz.prog 22 #[.int .i64 k, .int .i64 n] w fun e w' => e = .returned (.int .i64 (atI k n)) ∧ w' = w := by
  obtain ⟨⟨h1, h2⟩, hat⟩ := Orangery.tmod_at k n hn
  have HA : Hid (atI k n = if k.tmod n < 0 then k.tmod n + n else k.tmod n) := hat
  have hnz : (n == 0) = false := by simp; omega
  clear hat
  by_cases hneg : k.tmod n < 0
  · go_enter Tryz.func22, Tryz.ntmps22
    go_wp2
    go_ret
    exact ⟨ret_int (by rw [HA.out, if_pos hneg]), rfl⟩
  · go_enter Tryz.func22, Tryz.ntmps22
    go_wp2
    go_ret
    exact ⟨ret_int (by rw [HA.out, if_neg (by omega)]), rfl⟩

end Go.Proofs.YtijjiccgpobjmaeGreat

