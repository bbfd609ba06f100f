/- 2 texts of the proof: The program's client: both parts of a view together; Shows. orangerylaw.lives: a closed fact. -/
import Derived.Test.YtijjiccgpobjmaeGreatP14
import Derived.Test.YtijjiccgpobjmaeGreatP24
import Derived.Test.YtijjiccgpobjmaeGreatP06
import Derived.Test.YtijjiccgpobjmaeGreatP07
import Derived.Test.YtijjiccgpobjmaeGreatP15
import Derived.Test.YtijjiccgpobjmaeGreatP20
/- The program's client: both parts of a view together; Shows. -/
namespace Go.Proofs.YtijjiccgpobjmaeGreat
open Go.ChangeShapes Go.WideShapes Go.ChangeAt Go.RowKit
open Orangery (Pl Mv Vw Cl clE viewME viewE check scan togL doT doE doS shown showT checkOp cmpI inPl)

set_option maxHeartbeats 1000000 in
theorem ctog1_any (w : World) (p q : Pl) :
    Calls Tryz.prog 62 #[plV p, plV q] w fun e w' => e = .returned (.int .i64 (cmpI p.1 q.1)) ∧ ∃ n os, w' = Go.Sort.grow (w.drewN n) os := by
  obtain ⟨a0, a1, a2⟩ := p
  obtain ⟨b0, b1, b2⟩ := q
  go_enter Tryz.func62, Tryz.ntmps62
  go_wp2_with fail
  refine (compare_any _ a0 b0).mono ?_
  rintro e w1 ⟨rfl, rfl⟩
  go_wp2
  go_ret
  exact ⟨rfl, 0, _, by rw [Go.Sort.alloc_eq_grow, Go.Sort.alloc_eq_grow, Go.Sort.grow_grow]; rfl⟩
theorem sort_ctog (w : World) (base : Nat) (sv : Value) (l : List Pl) (hl : l.length ≤ 1000) (hbase : base ≤ w.heap.size) (h : OwnS w base sv l) :
    Calls Tryz.prog 61 #[sv, .func (.func 62) #[] #[]] w
      fun e w' => e = .returned (.tuple #[]) ∧ ∃ l', l'.Perm l ∧ (l'.Pairwise fun p q => p.1 ≤ q.1) ∧ OwnS w' base sv l' ∧ Below base w w' ∧ w.grownBy w' sv.ownBlock := by
  refine (sort_gen 62 cmpN swoNode (Go.Proofs.enters_of Tryz.func62 (by kernel_rfl) rfl) (fun w p q => ctog1_any w p q) w base sv l hl hbase h).mono ?_
  rintro e w' ⟨he, l', h1, h2, h3, h4, h5⟩
  exact ⟨he, l', h1, h2.imp (fun {p q} hh => by rw [cmpN_lt] at hh; omega), h3, h4, h5⟩

set_option maxHeartbeats 2000000 in
set_option maxRecDepth 100000 in
theorem ctogether_any (w : World) (aK aV : Option Addr) (cK cV : Nat) (R : List Int) (K V : List Pl) (r : Value) (hv : viewE R K V = 0) (hc1 : aK = none → cK = 0) (hc2 : aV = none → cV = 0) (h1 : SlP w aK K) (h2 : SlP w aV V) :
    Calls Tryz.prog 30 #[viV r (.slice aK K.length cK) (.slice aV V.length cV)] w
      fun e w' => ∃ v, e = .returned (.agg #[v]) ∧ OwnS w' w.heap.size v (togL K V) ∧ Below w.heap.size w w' := by
  obtain ⟨hK, hV⟩ := view_scans hv
  have hKl : K.length ≤ 15 := by have := Orangery.scan_len K 0 hK (by omega); omega
  have hVl : V.length ≤ 15 := by have := Orangery.scan_len V 0 hV (by omega); omega
  have HU : Hid (∀ l', l'.Perm (K ++ V) → (l'.Pairwise fun p q => p.1 ≤ q.1) → l' = togL K V) := fun l' g1 g2 => Orangery.tog_unique K V l' hK hV (by rw [Orangery.view_free hv hK hV]; exact g1) g2
  obtain ⟨W0, hW0, hX, hR, hQ, hB, hS⟩ := laid3 w [r, Value.slice aK K.length cK, Value.slice aV V.length cV] 26 [Value.slice none 0 0] 37 [Value.slice aK K.length cK, Value.slice aV V.length cV] 24
  have hP1 := h1.below hB
  have hP2 := h2.below hB
  have HB := Lib.hid hB
  clear h1 h2 hK hV hB hX hv
  go_enter Tryz.func30, Tryz.ntmps30
  go_wp2_with fail
  clear hW0
  refine (concatPls_any W0 (w.heap.size + 1 + 1) aK aV cK cV K V (by omega) (by omega) hc1 hc2 (hQ.at 0 rfl) (hQ.at 1 rfl) hP1 hP2).mono ?_
  rintro e w1 ⟨v1, rfl, hO1, hb1⟩
  have hJl : (K ++ V).length ≤ 1000 := by simp; omega
  have hO2 : OwnS w1 W0.heap.size v1 (K ++ V) := own_pls hO1.row
  have hR1 := Lib.hid (hR.keep hb1)
  have HB1 := Lib.hid (HB.out.trans (hb1.mono HB.out.size))
  have hsz : W0.heap.size ≤ w1.heap.size := hb1.size
  have hlo : w.heap.size + 3 ≤ W0.heap.size := by omega
  clear hP1 hP2 hR hQ hO1 hb1 HB
  go_wp2_with fail
  refine (sort_ctog w1 W0.heap.size v1 (K ++ V) hJl hsz hO2).mono ?_
  rintro e w2 ⟨rfl, l', hp, hs, hO3, hb2, -⟩
  obtain rfl := HU.out l' hp hs
  have hO4 := hO3.mono (base' := w.heap.size + 2) (by omega)
  obtain ⟨a3, c3, rfl⟩ := hO4.val
  have hR2 := hR1.out.below hb2 (by omega)
  have HB2 := Lib.hid (HB1.out.trans (hb2.mono (by omega)))
  have HO := Lib.hid hO4
  have r0 := hR2.at 0 rfl
  have rf := hR2.frz
  have HR2 := Lib.hid (hR2.set 0 (by simp) (.slice a3 (togL K V).length c3))
  have HO5 := Lib.hid ((hO4.other (w.heap.size + 1) (by omega) 0 (.slice a3 (togL K V).length c3)).mono (base' := w.heap.size) (by omega))
  have HB3 := Lib.hid (below_sets HB2.out (w.heap.size + 1) (by omega) [.slice a3 (togL K V).length c3] 0)
  clear hp hs hO3 hb2 HU hO2 hR1 HB1 hO4 hR2 HO HB2 hJl
  go_wp2
  exact ret_cell Tryz.results30 rfl HR2.out.tree ⟨_, rfl, HO5.out, HB3.out⟩

set_option maxHeartbeats 8000000 in
set_option maxRecDepth 100000 in
theorem cshown_any (w : World) (x : Cm) (me : Int) (hx : ClIn w x) :
    Calls Tryz.prog 8 #[x.val, .int .i64 me] w fun e w' => ∃ a c, e = .returned (.tuple #[.agg #[.slice a (showT x.1 me).length c], .int .i64 (clE x.1 me)]) ∧ SlP w' a (showT x.1 me) ∧ Below w.heap.size w w' := by
  have CC := Lib.hid (fun W h => ccheck_any W x me h)
  obtain ⟨⟨⟨f, t, s, v⟩, P, R, K, V⟩, ⟨aP, cP⟩, ⟨aR, cR⟩, ⟨aK, cK⟩, ⟨aV, cV⟩⟩ := x
  obtain ⟨E, hE⟩ : ∃ E, E = clE ((f, t, s, v), P, R, K, V) me := ⟨_, rfl⟩
  obtain ⟨S, hS⟩ : ∃ S, S = showT ((f, t, s, v), P, R, K, V) me := ⟨_, rfl⟩
  show Calls Tryz.prog _ #[.agg #[Value.int .i64 f, .int .i64 t, .int .i64 s, .slice aP P.length cP, .int .i64 v, .slice aR R.length cR, .slice aK K.length cK, .slice aV V.length cV], .int .i64 me] w fun e w' => ∃ a c, e = .returned (.tuple #[.agg #[.slice a (showT ((f, t, s, v), P, R, K, V) me).length c], .int .i64 (clE ((f, t, s, v), P, R, K, V) me)]) ∧ SlP w' a (showT ((f, t, s, v), P, R, K, V) me) ∧ _
  rw [← hE, ← hS]
  have HE := Lib.hid hE
  have HS := Lib.hid hS
  obtain ⟨W0, hW, hN, hR, hB, -⟩ := laid2 w [Value.int .i64 f, .int .i64 t, .int .i64 s, .slice aP P.length cP, .int .i64 v, .slice aR R.length cR, .slice aK K.length cK, .slice aV V.length cV] 28 [Value.slice none 0 0] 37
  have HB := Lib.hid hB
  have HX := Lib.hid (hx.keep hB)
  have HN := Lib.hid hN
  have HR := Lib.hid hR
  have HRG := Lib.hid hN.range
  clear hB hE hS hx hR hN
  go_enter Tryz.func8, Tryz.ntmps8
  go_wp2_with (first | (refine wpList_load_mid rfl 28 _ rfl w.heap.size 0 rfl [Value.int .i64 f, .int .i64 t, .int .i64 s, .slice aP P.length cP, .int .i64 v, .slice aR R.length cR, .slice aK K.length cK, .slice aV V.length cV] _ HRG.out Tryz.underlying28 rfl sizeClient ?_) | fail)
  clear hW
  refine (CC.out W0 HX.out).mono ?_
  rintro e w1 ⟨rfl, hb⟩
  simp only
  rw [← HE.out]
  have HB1 := Lib.hid (HB.out.trans (hb.mono HB.out.size))
  have HX1 := Lib.hid (HX.out.keep hb)
  have HN1 := Lib.hid (HN.out.keep hb)
  have HR1 := Lib.hid (HR.out.keep hb)
  clear hb HB HX HN HR HRG CC
  by_cases h0 : E = 0
  case neg =>
    have h0' : (E != 0) = true := by simpa using h0
    have HSE : Hid (S = []) := by show _ = _; rw [HS.out]; unfold showT; rw [if_pos (by rw [← HE.out]; exact h0)]
    have HR2 := Lib.hid (HR1.out.sets [Value.slice none 0 0] rfl)
    have HB2 := Lib.hid (below_sets HB1.out (w.heap.size + 1) (by omega) [Value.slice none 0 0] 0)
    have y0 := HR1.out.at 0 rfl
    have yf := HR1.out.frz
    clear h0 HE HS HX1 HN1
    go_wp2
    refine ret_cell_tmp Tryz.results8 rfl rfl (HR2.out.load Tryz.underlying37 rfl sizeTree1) ?_
    refine ⟨none, 0, ?_, ?_, HB2.out⟩
    · rw [HSE.out]; rfl
    · rw [HSE.out]; exact Or.inl rfl
  have HZ := Lib.hid h0
  have hz : clE ((f, t, s, v), P, R, K, V) me = 0 := by rw [← HE.out]; exact h0
  have hcl := Orangery.clE_zero hz
  have HV : Hid (viewE R K V = 0) := hcl.2.2.2.1
  have HT : Hid (check (togL K V) = 0) := Orangery.view_tog (v := (R, K, V)) HV.out
  have HO : Hid (∀ o ∈ P, checkOp o = 0) := fun o ho => (Orangery.pend_ops hcl.2.2.2.2.2 o ho).1
  have HSE : Hid (S = P.foldl doT (togL K V)) := by show _ = _; rw [HS.out]; unfold showT; rw [if_neg (by rw [hz]; simp)]; rfl
  have q8 : P.length ≤ 8 := hcl.2.2.1
  rw [h0]
  clear h0 hz hcl HE HS
  have x5 := HN1.out.at 5 rfl
  have x6 := HN1.out.at 6 rfl
  have x7 := HN1.out.at 7 rfl
  have hft := run_field_tree
  go_wp2_with fail
  clear x5 x6 x7
  refine (ctogether_any w1 aK aV cK cV R K V (.slice aR R.length cR) HV.out HX1.out.nils.1 HX1.out.nils.2 HX1.out.lk HX1.out.lv).mono ?_
  rintro e w2 ⟨vT, rfl, hO, hb⟩
  obtain ⟨a2, c2, rfl⟩ := hO.val
  obtain ⟨W3, hW3, hT3, hb3, hs3⟩ := laid1 w2 [Value.slice a2 (togL K V).length c2] 37
  have hN2 := (HN1.out.keep hb).keep hb3
  have hlo : w.heap.size + 1 < w1.heap.size := HR1.out.lt
  have hlo2 : w1.heap.size ≤ w2.heap.size := hb.size
  have HR3 := Lib.hid (HR1.out.keep hb)
  have HBa := Lib.hid (HB1.out.trans (hb.mono HB1.out.size))
  have HX2 := Lib.hid (HX1.out.keep hb)
  have HT3 := Lib.hid hT3
  have HP3 : Hid (SlP W3 a2 (togL K V) ∧ OffL w2.heap.size a2 (togL K V) ∧ OffL (w.heap.size + 1) a2 (togL K V)) := ⟨hO.read.below hb3, hO.read.off (Nat.le_refl _), row_off hO.row (by omega)⟩
  have HS3 : Hid (w.heap.size + 2 ≤ w2.heap.size) := by show _ ≤ _; omega
  have HB3 := Lib.hid hb3
  have x3 := hN2.at 3 rfl
  clear hb HB1 HX1 HN1 HR1 hO hlo hlo2 hN2 hT3 hb3
  rename World => W3
  go_wp2
  clear x3 hft hW3
  go_loopw [26] (fun i W => ∃ (k : Nat) (a : Option Addr) (c : Nat), k ≤ P.length ∧ i = .int .i64 k ∧ Blk W w2.heap.size [.slice a ((P.take k).foldl doT (togL K V)).length c] ∧ (SlP W a ((P.take k).foldl doT (togL K V)) ∧ OffL w2.heap.size a ((P.take k).foldl doT (togL K V)) ∧ OffL (w.heap.size + 1) a ((P.take k).foldl doT (togL K V))) ∧ Below w2.heap.size w2 W) (fun i _ => P.length - (intOf i).toNat)
  case atStart => exact ⟨0, a2, c2, Nat.zero_le _, rfl, HT3.out, HP3.out, HB3.out⟩
  case round =>
    obtain ⟨k, a3, c3, hk, rfl, hT, hO3, hb⟩ := hrel
    have HBW := Lib.hid hb
    have HTW := Lib.hid hT
    have t0 := hT.at 0 rfl
    by_cases hlt : k < P.length
    case neg =>
      have hk' : k = P.length := by omega
      subst hk'
      rw [List.take_length, ← HSE.out] at hO3 t0
      have hR4 := HR3.out.keep hb
      have HRf := Lib.hid (hR4.sets [Value.slice a3 S.length c3] rfl)
      have y0 := hR4.at 0 rfl
      have yf := hR4.frz
      have HO3 := Lib.hid hO3
      have HBf := Lib.hid (below_sets (HBa.out.trans (hb.mono (by have := HS3.out; omega))) (w.heap.size + 1) (by omega) [Value.slice a3 S.length c3] 0)
      clear hb hR4 hO3 hT HSE HT HO HTW HT3 HP3 HBW HB3
      go_wp2
      refine ret_cell_tmp Tryz.results8 rfl rfl (HRf.out.load Tryz.underlying37 rfl sizeTree1) ?_
      refine ⟨a3, c3, by rw [HZ.out]; rfl, ?_, HBf.out⟩
      exact HO3.out.1.sets HO3.out.2.2 [Value.slice a3 S.length c3] 0
    obtain ⟨b, off, rfl, hbl, hr⟩ := (HX2.out.keep hb).lp.at opC_len k hlt
    obtain ⟨g0, g1, g2, g3, g4, g5, g6⟩ := op_cells hr
    obtain ⟨s1, s2, s3⟩ := shows_take HT.out HO.out k hlt
    have HNX := Lib.hid s3
    have HDE := Lib.hid s2
    have HTL := Lib.hid (Orangery.check_len _ s1)
    have HLT := Lib.hid hlt
    clear hr s1 s2 s3
    have hlt' : (k : Int) < (P.length : Int) := by omega
    generalize P[k] = o at *
    generalize (P.take k).foldl doT (togL K V) = Tk at *
    obtain ⟨o1, o2, ⟨o3, o4, o5⟩, o6, o7⟩ := o
    simp only at g0 g1 g2 g3 g4 g5 g6
    obtain ⟨W4, hW4, hN4, hBn, -⟩ := laid1 wr [Value.int IntKind.i64 o1, Value.int IntKind.i64 o2, Value.int IntKind.i64 o3, Value.int IntKind.i64 o4, Value.int IntKind.i64 o5, Value.int IntKind.i64 o6, Value.int IntKind.i64 o7] 32
    have n0 := hN4.at 0 rfl
    have n1 := hN4.at 1 rfl
    have n2 := hN4.at 2 rfl
    have n3 := hN4.at 3 rfl
    have n4 := hN4.at 4 rfl
    have n5 := hN4.at 5 rfl
    have n6 := hN4.at 6 rfl
    have hT4 := hT.keep hBn
    have u0 := hT4.at 0 rfl
    have HP4 := Lib.hid (hO3.1.below hBn)
    have HT4 := Lib.hid hT4
    have HLO : Hid (w2.heap.size < wr.heap.size) := hT.lt
    have HB4 := Lib.hid (HBW.out.trans (hBn.mono (Nat.le_of_lt HLO.out)))
    have HSZ : Hid (wr.heap.size ≤ W4.heap.size) := hBn.size
    clear hb hBn hN4 hO3 hT hT4 t0 HTW HBW
    go_wp2_with fail
    refine (do_any W4 a3 c3 Tk (o1, o2, (o3, o4, o5), o6, o7) (by have := HTL.out; unfold maxLen; omega) HP4.out).mono ?_
    rintro e w5 ⟨vN, rfl, hO5, hb5⟩
    obtain ⟨a4, c4, rfl⟩ := hO5.val
    rw [HDE.out]
    generalize doS Tk (o1, o2, (o3, o4, o5), o6, o7) = st
    obtain ⟨⟨s1, s2, ⟨s3, s4, s5⟩, s6, s7⟩, s8, ⟨s9, s10, s11⟩⟩ := st
    obtain ⟨W6, hW6, hA6, hB6, hBn6, -⟩ := laid2 w5 [Value.slice a4 (doT Tk (o1, o2, (o3, o4, o5), o6, o7)).length c4] 37 [Value.int IntKind.i64 s1, Value.int IntKind.i64 s2, Value.int IntKind.i64 s3, Value.int IntKind.i64 s4, Value.int IntKind.i64 s5, Value.int IntKind.i64 s6, Value.int IntKind.i64 s7, Value.bool s8, Value.int IntKind.i64 s9, Value.int IntKind.i64 s10, Value.int IntKind.i64 s11] 68
    have v0 := hA6.at 0 rfl
    have hT6 := (HT4.out.keep hb5).keep hBn6
    have z0 := hT6.at 0 rfl
    have zf := hT6.frz
    have hlo : w2.heap.size ≤ W4.heap.size := by have := HLO.out; have := HSZ.out; omega
    have HTS := Lib.hid (hT6.set 0 (by simp) (.slice a4 (doT Tk (o1, o2, (o3, o4, o5), o6, o7)).length c4))
    have hoff : OffL w2.heap.size a4 (doT Tk (o1, o2, (o3, o4, o5), o6, o7)) := row_off hO5.row (by have := HLO.out; have := HSZ.out; omega)
    have hoff2 : OffL (w.heap.size + 1) a4 (doT Tk (o1, o2, (o3, o4, o5), o6, o7)) := row_off hO5.row (by have := HS3.out; omega)
    have HPS := Lib.hid (And.intro ((hO5.read.below hBn6).sets hoff [.slice a4 (doT Tk (o1, o2, (o3, o4, o5), o6, o7)).length c4] 0) (And.intro hoff hoff2))
    have HBS := Lib.hid (below_sets (HB4.out.trans ((hb5.trans (hBn6.mono hb5.size)).mono hlo)) w2.heap.size (Nat.le_refl _) [.slice a4 (doT Tk (o1, o2, (o3, o4, o5), o6, o7)).length c4] 0)
    clear hO5 hb5 hA6 hB6 hBn6 hT6 hlo hoff hoff2 hW4 n0 n1 n2 n3 n4 n5 n6 g0 g1 g2 g3 g4 g5 g6 u0
    go_wp2
    go_roundw
    case rel => exact ⟨k + 1, a4, c4, HLT.out, by go_num, by rw [HNX.out]; exact HTS.out, by rw [HNX.out]; exact HPS.out, HBS.out⟩
    case measure => have := HLT.out; simp [intOf]; omega
end Go.Proofs.YtijjiccgpobjmaeGreat

/- orangerylaw.lives: a closed fact. -/
namespace Go.Proofs.YtijjiccgpobjmaeGreat
open Go.ChangeShapes Go.WideShapes Go.ChangeAt Go.RowKit
open Orangery (Pl Mv Vw Ml Cl noCl noVw noDl noOp clE begE begC movE movC movP hearE hearC showT ofE ofR ofK ofW)

def lvO : Mv := (6, 1, (3, 0, 9), 2, 1)
def lv1 : Cl := ((2, 5, 0, 0), [], [], [], [])
def lv2 : Cl := ((2, 6, 1, 0), [lvO], [], [], [])
def lvm (k u f s t n p : Int) (v : Vw) : Ml := ((k, u, f, s, t, n, p), noOp, v, noDl)
def lv3 : Cl := ((2, 8, 1, 3), [], [0], [(4, 0, 0)], [])
theorem lw1 : begM 2 5 = bareM 2 5 ∧ begE 2 5 = 0 := ⟨by kernel_rfl, by kernel_rfl⟩
theorem lw2 : movC lv1 1 3 0 9 = lv2 ∧ movE lv1 1 3 0 9 = 0 ∧ movP lv1 1 3 0 9 = lvO := ⟨by kernel_rfl, by kernel_rfl, by kernel_rfl⟩
theorem lw3 : showT lv2 1 = [(3, 0, 9)] ∧ clE lv2 1 = 0 := ⟨by kernel_rfl, by kernel_rfl⟩
theorem lw4 : ofE [(4, 0, 0)] [0] = 0 ∧ ofR [(4, 0, 0)] [0] = [0] ∧ ofK [(4, 0, 0)] [0] = [(4, 0, 0)] ∧ ofW [(4, 0, 0)] [0] = [] := ⟨by kernel_rfl, by kernel_rfl, by kernel_rfl, by kernel_rfl⟩
theorem lw5 : hearE lv2 1 (lvm 2 1 2 1 8 3 0 ([0], [(4, 0, 0)], [])) = 0 ∧ hearC lv2 1 (lvm 2 1 2 1 8 3 0 ([0], [(4, 0, 0)], [])) = lv3 := ⟨by kernel_rfl, by kernel_rfl⟩
theorem lw6 : hearE lv3 1 (lvm 2 1 1 0 9 9 0 noVw) = 0 ∧ hearC lv3 1 (lvm 2 1 1 0 9 9 0 noVw) = lv3 := ⟨by kernel_rfl, by kernel_rfl⟩
theorem lw7 : clE lv3 1 = 0 := by kernel_rfl
theorem ints_one {w : World} {b : Nat} {x : Int} (h : Blk w b [.int .i64 x]) : SlI w (some ⟨b, 0, none⟩) [x] :=
  Or.inr ⟨b, 0, rfl, h.lt, fun i hi => by
    have : i = 0 := by simp at hi; exact hi
    subst this
    exact h.at 0 rfl⟩
theorem pls_one {w : World} {b : Nat} {x : Pl} (h : Blk w b (encPl x)) : SlP w (some ⟨b, 0, none⟩) [x] :=
  Or.inr ⟨b, 0, rfl, h.lt, fun i hi => by
    have : i = 0 := by simp at hi; exact hi
    subst this
    exact ⟨h.at 0 rfl, h.at 1 rfl, h.at 2 rfl⟩⟩

theorem at_loadU {ops : Array Oper} {Q : Exit → Act → World → Prop} {rest : List Oper} {x : Operand} {t : TypeId} {d : Option Tmp} {pos : String} {after : Array Edge} {a : Act} {w : World} (ty : TypeId)
    (h : wpList Tryz.prog ops Q (⟨d, .load ty x, t, pos, after, none⟩ :: rest) a w) : wpList Tryz.prog ops Q (⟨d, .load ty x, t, pos, after, none⟩ :: rest) a w := h

set_option maxHeartbeats 16000000 in
set_option maxRecDepth 100000 in
theorem lives_any (w : World) : Calls Tryz.prog 13 #[] w fun e w' => e = .returned (.bool true) ∧ Below w.heap.size w w' := by
  have HBG := Lib.hid (fun W => cbegin_any W 2 5)
  go_enter Tryz.func13, Tryz.ntmps13
  go_wp2_with fail
  refine (HBG.out w).mono ?_
  rintro e w1 ⟨rfl, hb1⟩
  rw [lw1.2]
  obtain ⟨x1, hx1⟩ : ∃ z : Cm, z = begM 2 5 := ⟨_, rfl⟩
  have hx1' : x1.1 = lv1 := by rw [hx1, lw1.1]; rfl
  have hi1 : ∀ W, ClIn W x1 := fun W => by rw [hx1]; exact begM_in W 2 5
  rw [← hx1]
  clear hx1
  obtain ⟨⟨⟨f1, t1, s1, v1⟩, P1, R1, K1, V1⟩, ⟨p1, q1⟩, ⟨r1, k1⟩, ⟨l1, m1⟩, ⟨n1, z1⟩⟩ := x1
  have HX1 := Lib.hid hx1'
  rw [show Cm.val (((f1, t1, s1, v1), P1, R1, K1, V1), (p1, q1), (r1, k1), (l1, m1), (n1, z1)) = Value.agg #[Value.int .i64 f1, .int .i64 t1, .int .i64 s1, .slice p1 P1.length q1, .int .i64 v1, .slice r1 R1.length k1, .slice l1 K1.length m1, .slice n1 V1.length z1] from rfl]
  obtain ⟨W2, hW2, hN2, hb2, -⟩ := laid1 w1 [Value.int .i64 f1, .int .i64 t1, .int .i64 s1, .slice p1 P1.length q1, .int .i64 v1, .slice r1 R1.length k1, .slice l1 K1.length m1, .slice n1 V1.length z1] 28
  have HB2 := Lib.hid (hb1.trans (hb2.mono hb1.size))
  have hb1s : w.heap.size ≤ w1.heap.size := hb1.size
  have HN2 := Lib.hid hN2
  have HRG := Lib.hid hN2.range
  have HM := cmove_any W2 (((f1, t1, s1, v1), P1, R1, K1, V1), (p1, q1), (r1, k1), (l1, m1), (n1, z1)) 1 3 0 9 (hi1 W2)
  rw [show ((((f1, t1, s1, v1), P1, R1, K1, V1), (p1, q1), (r1, k1), (l1, m1), (n1, z1)) : Cm).1 = lv1 from hx1'] at HM
  have HM := Lib.hid HM
  clear hb1 hb2 hN2 HBG hx1' hi1
  go_wp2_with (first | (refine wpList_load_mid rfl 28 _ rfl w1.heap.size 0 rfl [Value.int .i64 f1, .int .i64 t1, .int .i64 s1, .slice p1 P1.length q1, .int .i64 v1, .slice r1 R1.length k1, .slice l1 K1.length m1, .slice n1 V1.length z1] _ HRG.out Tryz.underlying28 rfl sizeClient ?_) | fail)
  clear hW2
  refine HM.out.mono ?_
  rintro e w3 ⟨⟨⟨⟨f2, t2, s2, v2⟩, P2, R2, K2, V2⟩, ⟨p2, q2⟩, ⟨r2, k2⟩, ⟨l2, m2⟩, ⟨n2, z2⟩⟩, rfl, hy2, hi2, hin2, hb3⟩
  rw [lw2.2.1, lw2.2.2]
  rw [lw2.1] at hy2
  obtain ⟨⟨o1, o2, ⟨o3, o4, o5⟩, o6, o7⟩, ho⟩ : ∃ o : Mv, o = lvO := ⟨_, rfl⟩
  rw [← ho]
  have HOP := Lib.hid ho
  have HY2 := Lib.hid hy2
  rw [show Cm.val (((f2, t2, s2, v2), P2, R2, K2, V2), (p2, q2), (r2, k2), (l2, m2), (n2, z2)) = Value.agg #[Value.int .i64 f2, .int .i64 t2, .int .i64 s2, .slice p2 P2.length q2, .int .i64 v2, .slice r2 R2.length k2, .slice l2 K2.length m2, .slice n2 V2.length z2] from rfl]
  have hN3 := HN2.out.keep hb3
  -- the client's box written over, the operation's box laid
  obtain ⟨V4, hV4, hA4, hb4, hs4⟩ := laid1 w3 [Value.int .i64 0, .int .i64 0, .int .i64 0, .int .i64 0, .int .i64 0, .int .i64 0, .int .i64 0] 32
  have hN4 := hN3.keep hb4
  have hlt3 : w1.heap.size < w3.heap.size := hN3.lt
  have hN5 : Blk ((V4.setCells w1.heap.size 0 (#[Value.int .i64 f2, .int .i64 t2, .int .i64 s2, .slice p2 P2.length q2, .int .i64 v2, .slice r2 R2.length k2, .slice l2 K2.length m2, .slice n2 V2.length z2] : Array Value).toList).setCells w3.heap.size 0 (#[Value.int .i64 o1, .int .i64 o2, .int .i64 o3, .int .i64 o4, .int .i64 o5, .int .i64 o6, .int .i64 o7] : Array Value).toList) w1.heap.size [Value.int .i64 f2, .int .i64 t2, .int .i64 s2, .slice p2 P2.length q2, .int .i64 v2, .slice r2 R2.length k2, .slice l2 K2.length m2, .slice n2 V2.length z2] := by exact (hN4.sets [Value.int .i64 f2, .int .i64 t2, .int .i64 s2, .slice p2 P2.length q2, .int .i64 v2, .slice r2 R2.length k2, .slice l2 K2.length m2, .slice n2 V2.length z2] rfl).others (by omega) [Value.int .i64 o1, .int .i64 o2, .int .i64 o3, .int .i64 o4, .int .i64 o5, .int .i64 o6, .int .i64 o7] 0
  have hA5 : Blk ((V4.setCells w1.heap.size 0 (#[Value.int .i64 f2, .int .i64 t2, .int .i64 s2, .slice p2 P2.length q2, .int .i64 v2, .slice r2 R2.length k2, .slice l2 K2.length m2, .slice n2 V2.length z2] : Array Value).toList).setCells w3.heap.size 0 (#[Value.int .i64 o1, .int .i64 o2, .int .i64 o3, .int .i64 o4, .int .i64 o5, .int .i64 o6, .int .i64 o7] : Array Value).toList) w3.heap.size [Value.int .i64 o1, .int .i64 o2, .int .i64 o3, .int .i64 o4, .int .i64 o5, .int .i64 o6, .int .i64 o7] := by exact (hA4.others (by omega) [Value.int .i64 f2, .int .i64 t2, .int .i64 s2, .slice p2 P2.length q2, .int .i64 v2, .slice r2 R2.length k2, .slice l2 K2.length m2, .slice n2 V2.length z2] 0).sets [Value.int .i64 o1, .int .i64 o2, .int .i64 o3, .int .i64 o4, .int .i64 o5, .int .i64 o6, .int .i64 o7] rfl
  have hB5 : Below w.heap.size w ((V4.setCells w1.heap.size 0 (#[Value.int .i64 f2, .int .i64 t2, .int .i64 s2, .slice p2 P2.length q2, .int .i64 v2, .slice r2 R2.length k2, .slice l2 K2.length m2, .slice n2 V2.length z2] : Array Value).toList).setCells w3.heap.size 0 (#[Value.int .i64 o1, .int .i64 o2, .int .i64 o3, .int .i64 o4, .int .i64 o5, .int .i64 o6, .int .i64 o7] : Array Value).toList) := by
    exact below_sets (below_sets ((HB2.out.trans (hb3.mono HB2.out.size)).trans (hb4.mono (HB2.out.trans (hb3.mono HB2.out.size)).size)) w1.heap.size hb1s [Value.int .i64 f2, .int .i64 t2, .int .i64 s2, .slice p2 P2.length q2, .int .i64 v2, .slice r2 R2.length k2, .slice l2 K2.length m2, .slice n2 V2.length z2] 0) w3.heap.size (by omega) [Value.int .i64 o1, .int .i64 o2, .int .i64 o3, .int .i64 o4, .int .i64 o5, .int .i64 o6, .int .i64 o7] 0
  have hx5 : ClIn ((V4.setCells w1.heap.size 0 (#[Value.int .i64 f2, .int .i64 t2, .int .i64 s2, .slice p2 P2.length q2, .int .i64 v2, .slice r2 R2.length k2, .slice l2 K2.length m2, .slice n2 V2.length z2] : Array Value).toList).setCells w3.heap.size 0 (#[Value.int .i64 o1, .int .i64 o2, .int .i64 o3, .int .i64 o4, .int .i64 o5, .int .i64 o6, .int .i64 o7] : Array Value).toList) (((f2, t2, s2, v2), P2, R2, K2, V2), (p2, q2), (r2, k2), (l2, m2), (n2, z2)) := by
    have h4 := hi2.keep hb4
    have hz : P2 = [lvO] ∧ R2 = [] ∧ K2 = [] ∧ V2 = [] := by
      have := hy2
      simp only [lv2, Prod.mk.injEq] at this
      exact ⟨this.2.1, this.2.2.1, this.2.2.2.1, this.2.2.2.2⟩
    have ho1 : OffL w1.heap.size p2 P2 := hin2.off (fun b hb => by have := HN2.out.lt; omega)
    have ho2 : OffL w3.heap.size p2 P2 := hi2.lp.off (Nat.le_refl _)
    refine ⟨(h4.lp.sets ho1 [Value.int .i64 f2, .int .i64 t2, .int .i64 s2, .slice p2 P2.length q2, .int .i64 v2, .slice r2 R2.length k2, .slice l2 K2.length m2, .slice n2 V2.length z2] 0).sets ho2 [Value.int .i64 o1, .int .i64 o2, .int .i64 o3, .int .i64 o4, .int .i64 o5, .int .i64 o6, .int .i64 o7] 0, Or.inl hz.2.1, Or.inl hz.2.2.1, Or.inl hz.2.2.2, h4.few, h4.nils⟩
  have hT1 := hN4.there
  have hT2 := (hA4.others (by omega) [Value.int .i64 f2, .int .i64 t2, .int .i64 s2, .slice p2 P2.length q2, .int .i64 v2, .slice r2 R2.length k2, .slice l2 K2.length m2, .slice n2 V2.length z2] 0 : Blk (V4.setCells w1.heap.size 0 [Value.int .i64 f2, .int .i64 t2, .int .i64 s2, .slice p2 P2.length q2, .int .i64 v2, .slice r2 R2.length k2, .slice l2 K2.length m2, .slice n2 V2.length z2]) w3.heap.size _).there
  have HT1 := Lib.hid hT1
  have HT2 := Lib.hid hT2
  clear hT1 hT2
  have hS5 : Calls Tryz.prog 8 #[Cm.val (((f2, t2, s2, v2), P2, R2, K2, V2), (p2, q2), (r2, k2), (l2, m2), (n2, z2)), .int .i64 1] ((V4.setCells w1.heap.size 0 (#[Value.int .i64 f2, .int .i64 t2, .int .i64 s2, .slice p2 P2.length q2, .int .i64 v2, .slice r2 R2.length k2, .slice l2 K2.length m2, .slice n2 V2.length z2] : Array Value).toList).setCells w3.heap.size 0 (#[Value.int .i64 o1, .int .i64 o2, .int .i64 o3, .int .i64 o4, .int .i64 o5, .int .i64 o6, .int .i64 o7] : Array Value).toList) fun e w' => ∃ a c, e = .returned (.tuple #[.agg #[.slice a 1 c], .int .i64 0]) ∧ SlP w' a [(3, 0, 9)] ∧ Below ((V4.setCells w1.heap.size 0 (#[Value.int .i64 f2, .int .i64 t2, .int .i64 s2, .slice p2 P2.length q2, .int .i64 v2, .slice r2 R2.length k2, .slice l2 K2.length m2, .slice n2 V2.length z2] : Array Value).toList).setCells w3.heap.size 0 (#[Value.int .i64 o1, .int .i64 o2, .int .i64 o3, .int .i64 o4, .int .i64 o5, .int .i64 o6, .int .i64 o7] : Array Value).toList).heap.size ((V4.setCells w1.heap.size 0 (#[Value.int .i64 f2, .int .i64 t2, .int .i64 s2, .slice p2 P2.length q2, .int .i64 v2, .slice r2 R2.length k2, .slice l2 K2.length m2, .slice n2 V2.length z2] : Array Value).toList).setCells w3.heap.size 0 (#[Value.int .i64 o1, .int .i64 o2, .int .i64 o3, .int .i64 o4, .int .i64 o5, .int .i64 o6, .int .i64 o7] : Array Value).toList) w' := by
    have := cshown_any ((V4.setCells w1.heap.size 0 (#[Value.int .i64 f2, .int .i64 t2, .int .i64 s2, .slice p2 P2.length q2, .int .i64 v2, .slice r2 R2.length k2, .slice l2 K2.length m2, .slice n2 V2.length z2] : Array Value).toList).setCells w3.heap.size 0 (#[Value.int .i64 o1, .int .i64 o2, .int .i64 o3, .int .i64 o4, .int .i64 o5, .int .i64 o6, .int .i64 o7] : Array Value).toList) (((f2, t2, s2, v2), P2, R2, K2, V2), (p2, q2), (r2, k2), (l2, m2), (n2, z2)) 1 hx5
    rw [show ((((f2, t2, s2, v2), P2, R2, K2, V2), (p2, q2), (r2, k2), (l2, m2), (n2, z2)) : Cm).1 = lv2 from hy2, lw3.1, lw3.2] at this
    exact this
  have HS5 := Lib.hid hS5
  have HRG5 := Lib.hid hN5.range
  have HN5 := Lib.hid hN5
  have HA5 := Lib.hid hA5
  have HB5 := Lib.hid hB5
  have HX5 := Lib.hid hx5
  clear hS5 hN5 hA5 hB5 hx5 hN3 hb3 hb4 hs4 hin2 hi2 ho hy2 HM HN2 HRG hN4 hA4 hlt3
  go_wp2_with (first | (with_reducible refine at_store 28 ?_; refine wpList_store_mid ?c1 28 (Operand.tmp 1) (Operand.tmp 20) ?c2 w1.heap.size 0 #[Value.int .i64 f2, .int .i64 t2, .int .i64 s2, .slice p2 P2.length q2, .int .i64 v2, .slice r2 R2.length k2, .slice l2 K2.length m2, .slice n2 V2.length z2] ?c3 ?c4 ?c5 ?c6 ?c7 ?_) | (with_reducible refine at_store 32 ?_; refine wpList_store_mid ?d1 32 (Operand.tmp 3) (Operand.tmp 21) ?d2 w3.heap.size 0 #[Value.int .i64 o1, .int .i64 o2, .int .i64 o3, .int .i64 o4, .int .i64 o5, .int .i64 o6, .int .i64 o7] ?d3 ?d4 ?d5 ?d6 ?d7 ?_) | (with_reducible refine at_loadU 28 ?_; refine Shut.out ?_) | fail)
  case c1 => rfl
  case c2 => rfl
  case c3 => rfl
  case c4 => rfl
  case c5 => exact HT1.out
  case c6 => exact sizeClient
  case c7 => exact all_oneCell_toArray (cs := [Value.int .i64 f2, .int .i64 t2, .int .i64 s2, .slice p2 P2.length q2, .int .i64 v2, .slice r2 R2.length k2, .slice l2 K2.length m2, .slice n2 V2.length z2]) (by intro u hu; simp at hu; rcases hu with rfl | rfl | rfl | rfl | rfl | rfl | rfl | rfl <;> rfl)
  case d1 => rfl
  case d2 => rfl
  case d5 => exact HT2.out
  case d6 => exact sizeOp
  case d7 => exact all_oneCell_toArray (opC_one (o1, o2, (o3, o4, o5), o6, o7))
  show wpList _ _ _ _ _ _
  generalize ((V4.setCells w1.heap.size 0 (#[Value.int .i64 f2, .int .i64 t2, .int .i64 s2, .slice p2 P2.length q2, .int .i64 v2, .slice r2 R2.length k2, .slice l2 K2.length m2, .slice n2 V2.length z2] : Array Value).toList).setCells w3.heap.size 0 (#[Value.int .i64 o1, .int .i64 o2, .int .i64 o3, .int .i64 o4, .int .i64 o5, .int .i64 o6, .int .i64 o7] : Array Value).toList) = W5 at *
  clear hV4 HT1 HT2
  go_wp2_with (first | (refine wpList_load_mid rfl 28 _ rfl w1.heap.size 0 rfl [Value.int .i64 f2, .int .i64 t2, .int .i64 s2, .slice p2 P2.length q2, .int .i64 v2, .slice r2 R2.length k2, .slice l2 K2.length m2, .slice n2 V2.length z2] _ HRG5.out Tryz.underlying28 rfl sizeClient ?_) | fail)
  refine HS5.out.mono ?_
  rintro e w6 ⟨aS, cS, rfl, hS6, hb6⟩
  -- the tree in its box, the place and the root of a view
  obtain ⟨W7, hW7, hT7, hb7, -⟩ := laid1 w6 [Value.slice aS 1 cS] 37
  obtain ⟨W8, hW8, hP8, hb8, -⟩ := laid1 W7 [Value.int .i64 4, .int .i64 0, .int .i64 0] 47
  obtain ⟨W9, hW9, hI9, hb9, -⟩ := laid1 W8 [Value.int .i64 0] 3
  have hb89 := hb8.trans (hb9.mono hb8.size)
  have hb79 := hb7.trans (hb89.mono hb7.size)
  have hb59 := hb6.trans (hb79.mono hb6.size)
  have HN9 := Lib.hid (HN5.out.keep hb59)
  have HA9 := Lib.hid (HA5.out.keep hb59)
  have HB9 := Lib.hid (HB5.out.trans (hb59.mono HB5.out.size))
  have HX9 := Lib.hid (HX5.out.keep hb59)
  have HT9 := Lib.hid (hT7.keep hb89)
  have HS9 := Lib.hid (hS6.below hb79)
  have hof := of_any W9 (some ⟨W7.heap.size, 0, none⟩) (some ⟨W8.heap.size, 0, none⟩) 1 1 [(4, 0, 0)] [0] (by unfold maxLen; decide) (by unfold maxLen; decide) (pls_one (hP8.keep hb9)) (ints_one hI9)
  rw [lw4.1, lw4.2.1, lw4.2.2.1, lw4.2.2.2] at hof
  have HOF := Lib.hid hof
  clear hb6 hb7 hb8 hb9 hb89 hb79 hb59 hT7 hP8 hI9 hS6 hof HN5 HA5 HB5 HX5 HS5 HRG5
  go_wp2_with fail
  clear hW7 hW8 hW9
  refine HOF.out.mono ?_
  rintro e w10 ⟨r5, l5, n5, k5, m5, z5, rfl, ⟨hn1, hn2⟩, -, hl1, hl2, hl3, hb10⟩
  simp only [List.length_cons, List.length_nil] at *
  obtain ⟨W11, hW11, hV11, hb11, -⟩ := laid1 w10 [Value.slice r5 1 k5, .slice l5 1 m5, .slice n5 0 z5] 26
  have hb911 := hb10.trans (hb11.mono hb10.size)
  have HN11 := Lib.hid (HN9.out.keep hb911)
  have HA11 := Lib.hid (HA9.out.keep hb911)
  have HB11 := Lib.hid (HB9.out.trans (hb911.mono HB9.out.size))
  have HX11 := Lib.hid (HX9.out.keep hb911)
  have HT11 := Lib.hid (HT9.out.keep hb911)
  have HS11 := Lib.hid (HS9.out.below hb911)
  have hml : MlIn W11 ((lvm 2 1 2 1 8 3 0 ([0], [(4, 0, 0)], []), ((r5, k5), (l5, m5), (n5, z5)), ((none, 0), (none, 0), (none, 0), (none, 0))) : Mm) := ⟨hl1.below hb11, hl2.below hb11, hl3.below hb11, Or.inl rfl, Or.inl rfl, Or.inl rfl, Or.inl rfl, by simp [lvm, noDl], ⟨hn1, hn2⟩⟩
  have hh : Calls Tryz.prog 19 #[Cm.val (((f2, t2, s2, v2), P2, R2, K2, V2), (p2, q2), (r2, k2), (l2, m2), (n2, z2)), .int .i64 1, .agg #[Value.int .i64 2, .int .i64 1, .int .i64 2, .int .i64 1, .int .i64 8, .int .i64 3, .int .i64 0, .int .i64 0, .int .i64 0, .int .i64 0, .int .i64 0, .int .i64 0, .int .i64 0, .int .i64 0, .slice r5 1 k5, .slice l5 1 m5, .slice n5 0 z5, .slice none 0 0, .slice none 0 0, .slice none 0 0, .slice none 0 0]] W11 (Hears W11 (((f2, t2, s2, v2), P2, R2, K2, V2), (p2, q2), (r2, k2), (l2, m2), (n2, z2)).1 1 ((lvm 2 1 2 1 8 3 0 ([0], [(4, 0, 0)], []), ((r5, k5), (l5, m5), (n5, z5)), ((none, 0), (none, 0), (none, 0), (none, 0))) : Mm).1) := chear_any W11 (((f2, t2, s2, v2), P2, R2, K2, V2), (p2, q2), (r2, k2), (l2, m2), (n2, z2)) 1 ((lvm 2 1 2 1 8 3 0 ([0], [(4, 0, 0)], []), ((r5, k5), (l5, m5), (n5, z5)), ((none, 0), (none, 0), (none, 0), (none, 0))) : Mm) HX11.out hml ⟨fun _ => rfl, fun _ => rfl⟩
  rw [show ((((f2, t2, s2, v2), P2, R2, K2, V2), (p2, q2), (r2, k2), (l2, m2), (n2, z2)) : Cm).1 = lv2 from HY2.out] at hh
  have HH := Lib.hid hh
  have u0 := hV11.at 0 rfl
  have u1 := hV11.at 1 rfl
  have u2 := hV11.at 2 rfl
  have y0 := HN11.out.at 0 rfl
  have y1 := HN11.out.at 1 rfl
  have y2 := HN11.out.at 2 rfl
  have y3 := HN11.out.at 3 rfl
  have y4 := HN11.out.at 4 rfl
  have y5 := HN11.out.at 5 rfl
  have y6 := HN11.out.at 6 rfl
  have y7 := HN11.out.at 7 rfl
  clear hb10 hb11 hb911 hV11 hl1 hl2 hl3 hn1 hn2 hml hh HN9 HA9 HB9 HX9 HT9 HS9 HOF
  go_wp2_with fail
  clear u0 u1 u2 y0 y1 y2 y3 y4 y5 y6 y7 hW11
  refine HH.out.mono ?_
  rintro e w12 ⟨⟨⟨⟨f3, t3, s3, v3⟩, P3, R3, K3, V3⟩, ⟨p3, q3⟩, ⟨r3, k3⟩, ⟨l3, m3⟩, ⟨n3, z3⟩⟩, rfl, hz3, hi3, hb12⟩
  have hz3' : ((f3, t3, s3, v3), P3, R3, K3, V3) = lv3 := hz3.trans lw5.2
  rw [show hearE lv2 1 ((lvm 2 1 2 1 8 3 0 ([0], [(4, 0, 0)], []), ((r5, k5), (l5, m5), (n5, z5)), ((none, 0), (none, 0), (none, 0), (none, 0))) : Mm).1 = 0 from lw5.1]
  rw [show Cm.val (((f3, t3, s3, v3), P3, R3, K3, V3), (p3, q3), (r3, k3), (l3, m3), (n3, z3)) = Value.agg #[Value.int .i64 f3, .int .i64 t3, .int .i64 s3, .slice p3 P3.length q3, .int .i64 v3, .slice r3 R3.length k3, .slice l3 K3.length m3, .slice n3 V3.length z3] from rfl]
  obtain ⟨W13, hW13, hN13, hb13, -⟩ := laid1 w12 [Value.int .i64 f3, .int .i64 t3, .int .i64 s3, .slice p3 P3.length q3, .int .i64 v3, .slice r3 R3.length k3, .slice l3 K3.length m3, .slice n3 V3.length z3] 28
  have hb1113 := hb12.trans (hb13.mono hb12.size)
  have HA13 := Lib.hid (HA11.out.keep hb1113)
  have HB13 := Lib.hid (HB11.out.trans (hb1113.mono HB11.out.size))
  have HT13 := Lib.hid (HT11.out.keep hb1113)
  have HS13 := Lib.hid (HS11.out.below hb1113)
  have HI13 := Lib.hid (hi3.keep hb13)
  have HE13 := Lib.hid hN13
  have hml : MlIn W13 ((lvm 2 1 1 0 9 9 0 noVw, ((none, 0), (none, 0), (none, 0)), ((none, 0), (none, 0), (none, 0), (none, 0))) : Mm) := ⟨Or.inl rfl, Or.inl rfl, Or.inl rfl, Or.inl rfl, Or.inl rfl, Or.inl rfl, Or.inl rfl, by simp [lvm, noVw, noDl], ⟨fun _ => rfl, fun _ => rfl⟩⟩
  have hh : Calls Tryz.prog 19 #[Cm.val (((f3, t3, s3, v3), P3, R3, K3, V3), (p3, q3), (r3, k3), (l3, m3), (n3, z3)), .int .i64 1, .agg #[Value.int .i64 2, .int .i64 1, .int .i64 1, .int .i64 0, .int .i64 9, .int .i64 9, .int .i64 0, .int .i64 0, .int .i64 0, .int .i64 0, .int .i64 0, .int .i64 0, .int .i64 0, .int .i64 0, .slice none 0 0, .slice none 0 0, .slice none 0 0, .slice none 0 0, .slice none 0 0, .slice none 0 0, .slice none 0 0]] W13 (Hears W13 (((f3, t3, s3, v3), P3, R3, K3, V3), (p3, q3), (r3, k3), (l3, m3), (n3, z3)).1 1 ((lvm 2 1 1 0 9 9 0 noVw, ((none, 0), (none, 0), (none, 0)), ((none, 0), (none, 0), (none, 0), (none, 0))) : Mm).1) := chear_any W13 (((f3, t3, s3, v3), P3, R3, K3, V3), (p3, q3), (r3, k3), (l3, m3), (n3, z3)) 1 ((lvm 2 1 1 0 9 9 0 noVw, ((none, 0), (none, 0), (none, 0)), ((none, 0), (none, 0), (none, 0), (none, 0))) : Mm) HI13.out hml ⟨fun _ => rfl, fun _ => rfl⟩
  rw [show ((((f3, t3, s3, v3), P3, R3, K3, V3), (p3, q3), (r3, k3), (l3, m3), (n3, z3)) : Cm).1 = lv3 from hz3'] at hh
  have HH := Lib.hid hh
  have HZ3 := Lib.hid hz3'
  have y0 := hN13.at 0 rfl
  have y1 := hN13.at 1 rfl
  have y2 := hN13.at 2 rfl
  have y3 := hN13.at 3 rfl
  have y4 := hN13.at 4 rfl
  have y5 := hN13.at 5 rfl
  have y6 := hN13.at 6 rfl
  have y7 := hN13.at 7 rfl
  clear hb12 hb13 hb1113 hN13 hz3 hz3' hi3 hml hh HA11 HB11 HX11 HT11 HS11 HN11
  go_wp2_with fail
  clear y0 y1 y2 y3 y4 y5 y6 y7 hW13
  refine HH.out.mono ?_
  rintro e w14 ⟨⟨⟨⟨f4, t4, s4, v4⟩, P4, R4, K4, V4⟩, ⟨p4, q4⟩, ⟨r4, k4⟩, ⟨l4, m4⟩, ⟨n4, z4⟩⟩, rfl, hz4, hi4, hb14⟩
  have hz4' : ((f4, t4, s4, v4), P4, R4, K4, V4) = lv3 := hz4.trans lw6.2
  rw [show hearE lv3 1 ((lvm 2 1 1 0 9 9 0 noVw, ((none, 0), (none, 0), (none, 0)), ((none, 0), (none, 0), (none, 0), (none, 0))) : Mm).1 = 0 from lw6.1]
  rw [show Cm.val (((f4, t4, s4, v4), P4, R4, K4, V4), (p4, q4), (r4, k4), (l4, m4), (n4, z4)) = Value.agg #[Value.int .i64 f4, .int .i64 t4, .int .i64 s4, .slice p4 P4.length q4, .int .i64 v4, .slice r4 R4.length k4, .slice l4 K4.length m4, .slice n4 V4.length z4] from rfl]
  obtain ⟨W15, hW15, hN15, hb15, -⟩ := laid1 w14 [Value.int .i64 f4, .int .i64 t4, .int .i64 s4, .slice p4 P4.length q4, .int .i64 v4, .slice r4 R4.length k4, .slice l4 K4.length m4, .slice n4 V4.length z4] 28
  obtain ⟨W16, hW16, hP16, hb16, -⟩ := laid1 W15 [Value.int .i64 3, .int .i64 0, .int .i64 9] 47
  have hb1315 := hb14.trans (hb15.mono hb14.size)
  have hA15 := HA13.out.keep hb1315
  have hT15 := HT13.out.keep hb1315
  have hb1316 := hb1315.trans (hb16.mono hb1315.size)
  have HB16 := Lib.hid (HB13.out.trans (hb1316.mono HB13.out.size))
  have HE16 := Lib.hid (HE13.out.keep hb1316)
  have HF16 := Lib.hid (hN15.keep hb16)
  have HI16 := Lib.hid (HI13.out.keep hb1316)
  have HJ16 := Lib.hid ((hi4.keep hb15).keep hb16)
  have heq := equal_pls W16 aS (some ⟨W15.heap.size, 0, none⟩) cS 1 [(3, 0, 9)] [(3, 0, 9)] (by unfold maxLen; decide) (HS13.out.below hb1316) (pls_one hP16)
  have HEQ := Lib.hid heq
  have HZ4 := Lib.hid hz4'
  have w_0 := hA15.at 0 rfl
  have w_1 := hA15.at 1 rfl
  have w_2 := hA15.at 2 rfl
  have w_3 := hA15.at 3 rfl
  have w_4 := hA15.at 4 rfl
  have w_5 := hA15.at 5 rfl
  have w_6 := hA15.at 6 rfl
  have tt := hT15.at 0 rfl
  have hop := HOP.out
  simp only [lvO, Prod.mk.injEq] at hop
  obtain ⟨rfl, rfl, ⟨rfl, rfl, rfl⟩, rfl, rfl⟩ := hop
  have hq := fun (w : World) => run_neq_ops 6 1 3 0 9 2 1 6 1 3 0 9 2 1 w
  clear hb14 hb15 hb16 hb1315 hb1316 hN15 hP16 hA15 hT15 heq hz4 hz4' hi4 HA13 HB13 HT13 HS13 HI13 HE13
  go_wp2_with fail
  clear hW15 hW16
  refine HEQ.out.mono ?_
  rintro e w17 ⟨rfl, n, rfl⟩
  rw [show eqPls [((3 : Int), (0 : Int), (9 : Int))] [(3, 0, 9)] = true by simp [eqPls]]
  have hb17 : Below W16.heap.size W16 (W16.drewN n) := ⟨rfl, rfl, rfl, Nat.le_refl _, fun _ _ => rfl⟩
  have HB17 := Lib.hid (HB16.out.trans (hb17.mono HB16.out.size))
  have hE17 := HE16.out.keep hb17
  have hF17 := HF16.out.keep hb17
  have hI17 := HI16.out.keep hb17
  have hJ17 := HJ16.out.keep hb17
  have h3 := HZ3.out
  have h4 := HZ4.out
  simp only [lv3, Prod.mk.injEq] at h3 h4
  obtain ⟨⟨rfl, rfl, rfl, rfl⟩, rfl, rfl, rfl, rfl⟩ := h3
  obtain ⟨⟨rfl, rfl, rfl, rfl⟩, rfl, rfl, rfl, rfl⟩ := h4
  have hE17' : Blk (W16.drewN n) w12.heap.size [Value.int .i64 2, .int .i64 8, .int .i64 1, .slice p3 0 q3, .int .i64 3, .slice r3 1 k3, .slice l3 1 m3, .slice n3 0 z3] := hE17
  have hF17' : Blk (W16.drewN n) w14.heap.size [Value.int .i64 2, .int .i64 8, .int .i64 1, .slice p4 0 q4, .int .i64 3, .slice r4 1 k4, .slice l4 1 m4, .slice n4 0 z4] := hF17
  have hs : Calls Tryz.prog 16 #[.agg #[Value.int .i64 2, .int .i64 8, .int .i64 1, .slice p4 0 q4, .int .i64 3, .slice r4 1 k4, .slice l4 1 m4, .slice n4 0 z4], .agg #[Value.int .i64 2, .int .i64 8, .int .i64 1, .slice p3 0 q3, .int .i64 3, .slice r3 1 k3, .slice l3 1 m3, .slice n3 0 z3]] (W16.drewN n) fun e w' => e = .returned (.bool true) ∧ Below (W16.drewN n).heap.size (W16.drewN n) w' := by
    have := csame_any (W16.drewN n) (((2, 8, 1, 3), [], [0], [(4, 0, 0)], []), (p4, q4), (r4, k4), (l4, m4), (n4, z4)) (((2, 8, 1, 3), [], [0], [(4, 0, 0)], []), (p3, q3), (r3, k3), (l3, m3), (n3, z3)) hJ17 hI17
    rw [(sameCl_iff _ _).2 rfl] at this
    exact this
  have HS := Lib.hid hs
  have HC : Hid (∀ W, ClIn W (((2, 8, 1, 3), [], [0], [(4, 0, 0)], []), (p3, q3), (r3, k3), (l3, m3), (n3, z3)) → Calls Tryz.prog 14 #[.agg #[Value.int .i64 2, .int .i64 8, .int .i64 1, .slice p3 0 q3, .int .i64 3, .slice r3 1 k3, .slice l3 1 m3, .slice n3 0 z3], .int .i64 1] W fun e w' => e = .returned (.int .i64 0) ∧ Below W.heap.size W w') := by
    intro W h
    have := ccheck_any W (((2, 8, 1, 3), [], [0], [(4, 0, 0)], []), (p3, q3), (r3, k3), (l3, m3), (n3, z3)) 1 h
    rw [show clE ((((2, 8, 1, 3), [], [0], [(4, 0, 0)], []), (p3, q3), (r3, k3), (l3, m3), (n3, z3)) : Cm).1 1 = 0 from lw7] at this
    exact this
  have HE17 := Lib.hid hE17'
  have HI17 := Lib.hid hI17
  clear hb17 HB16 HE16 HF16 HI16 HJ16 hs hE17 hF17 hI17 hJ17 HZ3 HZ4 HEQ
  generalize W16.drewN n = W17 at *
  have y0 := hE17'.at 0 rfl
  have y1 := hE17'.at 1 rfl
  have y2 := hE17'.at 2 rfl
  have y3 := hE17'.at 3 rfl
  have y4 := hE17'.at 4 rfl
  have y5 := hE17'.at 5 rfl
  have y6 := hE17'.at 6 rfl
  have y7 := hE17'.at 7 rfl
  have x0 := hF17'.at 0 rfl
  have x1 := hF17'.at 1 rfl
  have x2 := hF17'.at 2 rfl
  have x3 := hF17'.at 3 rfl
  have x4 := hF17'.at 4 rfl
  have x5 := hF17'.at 5 rfl
  have x6 := hF17'.at 6 rfl
  have x7 := hF17'.at 7 rfl
  clear hE17' hF17'
  go_wp2_with fail
  clear x0 x1 x2 x3 x4 x5 x6 x7
  refine HS.out.mono ?_
  rintro e w18 ⟨rfl, hb18⟩
  have HB18 := Lib.hid (HB17.out.trans (hb18.mono HB17.out.size))
  have hE18 := HE17.out.keep hb18
  have HK := Lib.hid (HC.out w18 (HI17.out.keep hb18))
  clear y0 y1 y2 y3 y4 y5 y6 y7 HB17 HE17 HI17 HS HC hb18
  have y0 := hE18.at 0 rfl
  have y1 := hE18.at 1 rfl
  have y2 := hE18.at 2 rfl
  have y3 := hE18.at 3 rfl
  have y4 := hE18.at 4 rfl
  have y5 := hE18.at 5 rfl
  have y6 := hE18.at 6 rfl
  have y7 := hE18.at 7 rfl
  clear hE18
  go_wp2_with fail
  refine HK.out.mono ?_
  rintro e w19 ⟨rfl, hb19⟩
  have HB19 := Lib.hid (HB18.out.trans (hb19.mono HB18.out.size))
  clear hb19 HB18 HK
  go_wp2
  go_ret
  exact ⟨rfl, HB19.out⟩
end Go.Proofs.YtijjiccgpobjmaeGreat

