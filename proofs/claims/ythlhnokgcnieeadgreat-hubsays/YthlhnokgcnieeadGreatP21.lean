/- 7 texts of the proof: orangerylaw.small; the fields of values that are no variables. view.together, view.Same, orangeryref.SameView. view.Check. orangeryref.table of places in whatever order: of one node the last one counts. slices.Contains at ints. orangeryref.AllOf. orangeryref.CheckTree. -/
import Derived.Laws.AppendOwnNone
import Derived.Deep.RegionHeld3
import Derived.Test.YthlhnokgcnieeadGreatP05
import Derived.Test.YthlhnokgcnieeadGreatP11
import Derived.Test.YthlhnokgcnieeadGreatP08
import Derived.Test.YthlhnokgcnieeadGreatP04
import Derived.Test.YthlhnokgcnieeadGreatP07
import Derived.Test.YthlhnokgcnieeadGreatP13
import Derived.Test.YthlhnokgcnieeadGreatP01
import Derived.Test.YthlhnokgcnieeadGreatP06
/- orangerylaw.small; the fields of values that are no variables. -/
namespace Go.Proofs.YthlhnokgcnieeadGreat
open Go.ChangeShapes Go.WideShapes Go.ChangeAt Go.RowKit
open Orangery (Pl smallL)

/-- the fields of a place that is no variable -/
theorem run_field_pl (x0 x1 x2 : Int) (w : World) :
    (Instr.field 64 (.agg #[.int .i64 x0, .int .i64 x1, .int .i64 x2]) 0).run Tryz.prog w = .ok (.int .i64 x0) w ∧
    (Instr.field 64 (.agg #[.int .i64 x0, .int .i64 x1, .int .i64 x2]) 1).run Tryz.prog w = .ok (.int .i64 x1) w ∧
    (Instr.field 64 (.agg #[.int .i64 x0, .int .i64 x1, .int .i64 x2]) 2).run Tryz.prog w = .ok (.int .i64 x2) w := by
  have h1 := Tryz.underlying64
  have h2 := Tryz.isAgg3
  have h3 := Tryz.sizeOf3
  refine ⟨?_, ?_, ?_⟩
  all_goals
    unfold Instr.field
    go_simp
    simp [asAgg]

/-- the places of a tree that is no variable -/
theorem run_field_tree (v : Value) (w : World) : (Instr.field 25 (.agg #[v]) 0).run Tryz.prog w = .ok v w := by
  have h1 := Tryz.underlying25
  have h2 := Tryz.isAgg23
  have h3 := Tryz.sizeOf23
  unfold Instr.field
  go_simp
  simp [asAgg]
end Go.Proofs.YthlhnokgcnieeadGreat

/- view.together, view.Same, orangeryref.SameView. -/
namespace Go.Proofs.YthlhnokgcnieeadGreat
open Go.ChangeShapes Go.WideShapes Go.ChangeAt Go.RowKit
open Orangery (Pl check scan find inPl togL sameV cmpI)

set_option maxHeartbeats 1000000 in
theorem vsame_any (w : World) (aR aK aV bR bK bV : Option Addr) (cR cK cV dR dK dV : Nat) (R R' : List Int) (K K' V V' : List Pl) (hR : R.length ≤ maxLen) (hK : K.length ≤ maxLen) (hV : V.length ≤ maxLen)
    (h1 : SlI w aR R) (h2 : SlP w aK K) (h3 : SlP w aV V) (h4 : SlI w bR R') (h5 : SlP w bK K') (h6 : SlP w bV V') :
    Calls Tryz.prog 24 #[viV (.slice aR R.length cR) (.slice aK K.length cK) (.slice aV V.length cV), viV (.slice bR R'.length dR) (.slice bK K'.length dK) (.slice bV V'.length dV)] w
      fun e w' => e = .returned (.bool (sameV R R' K K' V V')) ∧ Below w.heap.size w w' := by
  have HS : Hid (sameV R R' K K' V V' = (eqIs R R' && eqPls K K' && eqPls V V')) := rfl
  obtain ⟨W0, hW, hA, hC, hB, _⟩ := laid2 w [Value.slice aR R.length cR, Value.slice aK K.length cK, Value.slice aV V.length cV] 42 [Value.slice bR R'.length dR, Value.slice bK K'.length dK, Value.slice bV V'.length dV] 42
  have x0 := hA.at 0 rfl
  have y0 := hC.at 0 rfl
  have g1 := h1.below hB
  have g2 := h2.below hB
  have g3 := h3.below hB
  have g4 := h4.below hB
  have g5 := h5.below hB
  have g6 := h6.below hB
  have HB : Hid (Below w.heap.size w W0) := hB
  clear h1 h2 h3 h4 h5 h6 hB
  go_enter Tryz.func24, Tryz.ntmps24
  go_wp2_with fail
  clear hW
  refine (equal_is W0 aR bR cR dR R R' hR g1 g4).mono ?_
  rintro e w1 ⟨rfl, n, rfl⟩
  have hb1 : Below W0.heap.size W0 (W0.drewN n) := ⟨rfl, rfl, rfl, Nat.le_refl _, fun _ _ => rfl⟩
  have hA1 := hA.keep hb1
  have hC1 := hC.keep hb1
  have k2 := g2.below hb1
  have k3 := g3.below hb1
  have k5 := g5.below hb1
  have k6 := g6.below hb1
  have HB1 : Hid (Below w.heap.size w (W0.drewN n)) := HB.out.trans (hb1.mono HB.out.size)
  clear hA hC HB hb1 g1 g2 g3 g4 g5 g6 x0 y0
  generalize W0.drewN n = W1 at *
  have x1 := hA1.at 1 rfl
  have y1 := hC1.at 1 rfl
  cases hq : eqIs R R'
  · go_wp2
    go_ret
    exact ⟨ret_bool (by rw [HS.out, hq]; rfl), HB1.out⟩
  · go_wp2_with fail
    refine (equal_pls W1 aK bK cK dK K K' hK k2 k5).mono ?_
    rintro e w2 ⟨rfl, n2, rfl⟩
    have hb2 : Below W1.heap.size W1 (W1.drewN n2) := ⟨rfl, rfl, rfl, Nat.le_refl _, fun _ _ => rfl⟩
    have hA2 := hA1.keep hb2
    have hC2 := hC1.keep hb2
    have m3 := k3.below hb2
    have m6 := k6.below hb2
    have HB2 : Hid (Below w.heap.size w (W1.drewN n2)) := HB1.out.trans (hb2.mono HB1.out.size)
    clear hA1 hC1 HB1 hb2 k2 k3 k5 k6 x1 y1
    generalize W1.drewN n2 = W2 at *
    have x2 := hA2.at 2 rfl
    have y2 := hC2.at 2 rfl
    cases hq2 : eqPls K K'
    · go_wp2
      go_ret
      exact ⟨ret_bool (by rw [HS.out, hq, hq2]; rfl), HB2.out⟩
    · go_wp2_with fail
      refine (equal_pls W2 aV bV cV dV V V' hV m3 m6).mono ?_
      rintro e w3 ⟨rfl, n3, rfl⟩
      have HB3 : Hid (Below w.heap.size w (W2.drewN n3)) := HB2.out.trans ⟨rfl, rfl, rfl, Nat.le_refl _, fun _ _ => rfl⟩
      generalize W2.drewN n3 = W3 at *
      clear m3 m6 x2 y2
      go_wp2
      go_ret
      exact ⟨ret_bool (by rw [HS.out, hq, hq2]; rfl), HB3.out⟩

set_option maxHeartbeats 1000000 in
theorem rsameV_any (w : World) (aR aK aV bR bK bV : Option Addr) (cR cK cV dR dK dV : Nat) (R R' : List Int) (K K' V V' : List Pl) (hR : R.length ≤ maxLen) (hK : K.length ≤ maxLen) (hV : V.length ≤ maxLen)
    (h1 : SlI w aR R) (h2 : SlP w aK K) (h3 : SlP w aV V) (h4 : SlI w bR R') (h5 : SlP w bK K') (h6 : SlP w bV V') :
    Calls Tryz.prog 17 #[viV (.slice aR R.length cR) (.slice aK K.length cK) (.slice aV V.length cV), viV (.slice bR R'.length dR) (.slice bK K'.length dK) (.slice bV V'.length dV)] w
      fun e w' => e = .returned (.bool (sameV R R' K K' V V')) ∧ Below w.heap.size w w' := by
  have HS : Hid (sameV R R' K K' V V' = (eqIs R R' && eqPls K K' && eqPls V V')) := rfl
  obtain ⟨W0, hW, hA, hC, hB, _⟩ := laid2 w [Value.slice aR R.length cR, Value.slice aK K.length cK, Value.slice aV V.length cV] 42 [Value.slice bR R'.length dR, Value.slice bK K'.length dK, Value.slice bV V'.length dV] 42
  have x0 := hA.at 0 rfl
  have y0 := hC.at 0 rfl
  have g1 := h1.below hB
  have g2 := h2.below hB
  have g3 := h3.below hB
  have g4 := h4.below hB
  have g5 := h5.below hB
  have g6 := h6.below hB
  have HB : Hid (Below w.heap.size w W0) := hB
  clear h1 h2 h3 h4 h5 h6 hB
  go_enter Tryz.func17, Tryz.ntmps17
  go_wp2_with fail
  clear hW
  refine (equal_is W0 aR bR cR dR R R' hR g1 g4).mono ?_
  rintro e w1 ⟨rfl, n, rfl⟩
  have hb1 : Below W0.heap.size W0 (W0.drewN n) := ⟨rfl, rfl, rfl, Nat.le_refl _, fun _ _ => rfl⟩
  have hA1 := hA.keep hb1
  have hC1 := hC.keep hb1
  have k2 := g2.below hb1
  have k3 := g3.below hb1
  have k5 := g5.below hb1
  have k6 := g6.below hb1
  have HB1 : Hid (Below w.heap.size w (W0.drewN n)) := HB.out.trans (hb1.mono HB.out.size)
  clear hA hC HB hb1 g1 g2 g3 g4 g5 g6 x0 y0
  generalize W0.drewN n = W1 at *
  have x1 := hA1.at 1 rfl
  have y1 := hC1.at 1 rfl
  cases hq : eqIs R R'
  · go_wp2
    go_ret
    exact ⟨ret_bool (by rw [HS.out, hq]; rfl), HB1.out⟩
  · go_wp2_with fail
    refine (equal_pls W1 aK bK cK dK K K' hK k2 k5).mono ?_
    rintro e w2 ⟨rfl, n2, rfl⟩
    have hb2 : Below W1.heap.size W1 (W1.drewN n2) := ⟨rfl, rfl, rfl, Nat.le_refl _, fun _ _ => rfl⟩
    have hA2 := hA1.keep hb2
    have hC2 := hC1.keep hb2
    have m3 := k3.below hb2
    have m6 := k6.below hb2
    have HB2 : Hid (Below w.heap.size w (W1.drewN n2)) := HB1.out.trans (hb2.mono HB1.out.size)
    clear hA1 hC1 HB1 hb2 k2 k3 k5 k6 x1 y1
    generalize W1.drewN n2 = W2 at *
    have x2 := hA2.at 2 rfl
    have y2 := hC2.at 2 rfl
    cases hq2 : eqPls K K'
    · go_wp2
      go_ret
      exact ⟨ret_bool (by rw [HS.out, hq, hq2]; rfl), HB2.out⟩
    · go_wp2_with fail
      refine (equal_pls W2 aV bV cV dV V V' hV m3 m6).mono ?_
      rintro e w3 ⟨rfl, n3, rfl⟩
      have HB3 : Hid (Below w.heap.size w (W2.drewN n3)) := HB2.out.trans ⟨rfl, rfl, rfl, Nat.le_refl _, fun _ _ => rfl⟩
      generalize W2.drewN n3 = W3 at *
      clear m3 m6 x2 y2
      go_wp2
      go_ret
      exact ⟨ret_bool (by rw [HS.out, hq, hq2]; rfl), HB3.out⟩
end Go.Proofs.YthlhnokgcnieeadGreat

/- view.Check. -/
namespace Go.Proofs.YthlhnokgcnieeadGreat
open Go.ChangeShapes Go.WideShapes Go.ChangeAt Go.RowKit
open Orangery (Pl check scan rootsOk togL sameV viewE ofE ofR ofK ofW)

theorem SlP.apart {w : World} {a : Option Addr} {l : List Pl} {B g : Nat} (h : SlP w a l) (hf : Fresh B a) (hg : g < B) : ∀ (us : List Value) (o : Nat), SlP (w.setCells g o us) a l := by
  intro us
  induction us generalizing w with
  | nil => intro o; exact h
  | cons u us ih => intro o; exact ih (h.other g (fun b off e => by have := hf b off e; omega) o u) (o + 1)
theorem SlI.other {w : World} {a : Option Addr} {l : List Int} (h : SlI w a l) (g : Nat) (hg : l ≠ [] → ∀ b off, a = some ⟨b, off, none⟩ → b ≠ g) (j : Nat) (v : Value) : SlI (w.setCell ⟨g, j, none⟩ v) a l := by
  by_cases hl : l = []
  · exact Or.inl hl
  · rcases h with h | ⟨b, off, ha, hlt, hp⟩
    · exact absurd h hl
    · have hne := hg hl b off ha
      refine Or.inr ⟨b, off, ha, by simpa using hlt, fun i hi => ?_⟩
      rw [World.cell?_setCell_other _ _ _ _ (by simp <;> omega)]
      exact hp i hi
theorem SlI.others {w : World} {a : Option Addr} {l : List Int} (h : SlI w a l) (g : Nat) (hg : l ≠ [] → ∀ b off, a = some ⟨b, off, none⟩ → b ≠ g) : ∀ (us : List Value) (o : Nat), SlI (w.setCells g o us) a l := by
  intro us
  induction us generalizing w with
  | nil => intro o; exact h
  | cons u us ih => intro o; exact ih (h.other g hg o u) (o + 1)
theorem SlI.apart {W w : World} {a a' : Option Addr} {R R1 : List Int} {B g : Nat} (h0 : SlI W a' R) (hR : R1 = R ∨ R1 = []) (h : SlI w a R1) (hf : a = a' ∨ Fresh B a) (hg : W.heap.size ≤ g) (hB : g < B) (us : List Value) (o : Nat) : SlI (w.setCells g o us) a R1 := by
  refine h.others g (fun hn b off e => ?_) us o
  rcases hf with rfl | hf
  · rcases hR with rfl | hR
    · rcases h0 with h0 | ⟨b', off', e', hlt, _⟩
      · exact absurd h0 hn
      · rw [e] at e'
        simp at e'
        omega
    · exact absurd hR hn
  · have := hf b off e
    omega
theorem ofR_or (l : List Pl) (R : List Int) : ofR l R = R ∨ ofR l R = [] := by
  by_cases h : ofE l R = 0
  · exact Or.inl (Orangery.of_ok h).1
  · exact Or.inr (Orangery.of_bad h).1
theorem viewE_eq {R : List Int} {K V : List Pl} (h1 : rootsOk R = 0) (h2 : check K = 0) (h3 : check V = 0) :
    viewE R K V = if ofE (togL K V) R ≠ 0 then ofE (togL K V) R else if sameV R (ofR (togL K V) R) K (ofK (togL K V) R) V (ofW (togL K V) R) = true then 0 else 4 := by
  have e : ofE (togL K V) R = check (togL K V) := by
    unfold ofE Orangery.orI
    rw [h1]
    by_cases h : check (togL K V) = 0
    · rw [if_neg (by simp [h]), h]
    · rw [if_pos h]
  unfold viewE
  rw [if_neg (by simp [h1]), if_neg (by simp [h2]), if_neg (by simp [h3])]
  by_cases h : check (togL K V) = 0
  · obtain ⟨e1, e2, e3⟩ := Orangery.of_ok (l := togL K V) (R := R) (by rw [e]; exact h)
    have h0 : ¬ ofE (togL K V) R ≠ 0 := by rw [e]; simp [h]
    have h9 : ¬ check (togL K V) ≠ 0 := by simp [h]
    rw [if_neg h9, if_neg h0, e1, e2, e3]
  · rw [if_pos h, e, if_pos h]
theorem tog_len {K V : List Pl} (hK : check K = 0) (hV : check V = 0) : (togL K V).length ≤ 15 := by
  have := Orangery.scan_len _ 0 (Orangery.scan_tog (Orangery.check_scan K hK) (Orangery.check_scan V hV)) (by omega)
  omega
theorem run_index_parts (x y : Value) (w : World) : (Instr.index 110 (.agg #[x, y]) (.int .i64 0)).run Tryz.prog w = .ok (.agg #[x]) w ∧ (Instr.index 110 (.agg #[x, y]) (.int .i64 1)).run Tryz.prog w = .ok (.agg #[y]) w := by
  have hu := Tryz.underlying110
  have ha := Tryz.isAgg25
  have hz := Tryz.sizeOf25
  unfold Instr.index
  refine ⟨?_, ?_⟩ <;> go_simp <;> simp [asAgg]

end Go.Proofs.YthlhnokgcnieeadGreat

/- orangeryref.table of places in whatever order: of one node the last one counts. -/
namespace Go.Proofs.YthlhnokgcnieeadGreat
open Go.ChangeShapes Go.WideShapes Go.ChangeAt Go.RowKit
open Orangery (Pl Mv Stp outL inL tabLast find scan)

set_option maxHeartbeats 1000000 in
theorem table_gen (w : World) (a : Option Addr) (c : Nat) (l : List Pl) (hl : l.length ≤ 1000) (h : SlP w a l) (hs : ∀ p ∈ l, 0 ≤ p.1 ∧ p.1 ≤ 15) :
    Calls Tryz.prog 119 #[.slice a l.length c] w
      fun e w' => e = .returned (tabV fun n => tabLast l n) ∧ Below w.heap.size w w' := by
  go_enter Tryz.func119, Tryz.ntmps119
  go_wp2
  obtain ⟨W0, hW, h0, h1, hB, hS⟩ := laid2 w ((tabL fun _ => (0, 0, 0)).flatMap encPl) 150 ((tabL fun _ => (0, 0, 0)).flatMap encPl) 150
  replace hW : (w.alloc (Obj.cells #[Value.int IntKind.i64 0, Value.int IntKind.i64 0, Value.int IntKind.i64 0, Value.int IntKind.i64 0, Value.int IntKind.i64 0, Value.int IntKind.i64 0, Value.int IntKind.i64 0, Value.int IntKind.i64 0, Value.int IntKind.i64 0, Value.int IntKind.i64 0, Value.int IntKind.i64 0, Value.int IntKind.i64 0, Value.int IntKind.i64 0, Value.int IntKind.i64 0, Value.int IntKind.i64 0, Value.int IntKind.i64 0, Value.int IntKind.i64 0, Value.int IntKind.i64 0, Value.int IntKind.i64 0, Value.int IntKind.i64 0, Value.int IntKind.i64 0, Value.int IntKind.i64 0, Value.int IntKind.i64 0, Value.int IntKind.i64 0, Value.int IntKind.i64 0, Value.int IntKind.i64 0, Value.int IntKind.i64 0, Value.int IntKind.i64 0, Value.int IntKind.i64 0, Value.int IntKind.i64 0, Value.int IntKind.i64 0, Value.int IntKind.i64 0, Value.int IntKind.i64 0, Value.int IntKind.i64 0, Value.int IntKind.i64 0, Value.int IntKind.i64 0, Value.int IntKind.i64 0, Value.int IntKind.i64 0, Value.int IntKind.i64 0, Value.int IntKind.i64 0, Value.int IntKind.i64 0, Value.int IntKind.i64 0, Value.int IntKind.i64 0, Value.int IntKind.i64 0, Value.int IntKind.i64 0, Value.int IntKind.i64 0, Value.int IntKind.i64 0, Value.int IntKind.i64 0] 150)).alloc (Obj.cells #[Value.int IntKind.i64 0, Value.int IntKind.i64 0, Value.int IntKind.i64 0, Value.int IntKind.i64 0, Value.int IntKind.i64 0, Value.int IntKind.i64 0, Value.int IntKind.i64 0, Value.int IntKind.i64 0, Value.int IntKind.i64 0, Value.int IntKind.i64 0, Value.int IntKind.i64 0, Value.int IntKind.i64 0, Value.int IntKind.i64 0, Value.int IntKind.i64 0, Value.int IntKind.i64 0, Value.int IntKind.i64 0, Value.int IntKind.i64 0, Value.int IntKind.i64 0, Value.int IntKind.i64 0, Value.int IntKind.i64 0, Value.int IntKind.i64 0, Value.int IntKind.i64 0, Value.int IntKind.i64 0, Value.int IntKind.i64 0, Value.int IntKind.i64 0, Value.int IntKind.i64 0, Value.int IntKind.i64 0, Value.int IntKind.i64 0, Value.int IntKind.i64 0, Value.int IntKind.i64 0, Value.int IntKind.i64 0, Value.int IntKind.i64 0, Value.int IntKind.i64 0, Value.int IntKind.i64 0, Value.int IntKind.i64 0, Value.int IntKind.i64 0, Value.int IntKind.i64 0, Value.int IntKind.i64 0, Value.int IntKind.i64 0, Value.int IntKind.i64 0, Value.int IntKind.i64 0, Value.int IntKind.i64 0, Value.int IntKind.i64 0, Value.int IntKind.i64 0, Value.int IntKind.i64 0, Value.int IntKind.i64 0, Value.int IntKind.i64 0, Value.int IntKind.i64 0] 150) = W0 := hW
  rw [hW]
  clear hW
  have HR : Hid (HoldsP W0 w.heap.size (tabL fun _ => (0, 0, 0))) := h0.holds
  have HT : Hid (HoldsP W0 (w.heap.size + 1) (tabL fun _ => (0, 0, 0))) := h1.holds
  have HP : Hid (SlP w a l) := h
  have HB : Hid (Below w.heap.size w W0) := hB
  have HS : Hid (∀ p ∈ l, 0 ≤ p.1 ∧ p.1 ≤ 15) := hs
  clear h0 h1 h hB hs
  go_loopw [7] (fun x W => ∃ k : Nat, k ≤ 16 ∧ x = .int .i64 k ∧ HoldsP W (w.heap.size + 1) (tabL fun n => (0, if n < k then -1 else 0, 0)) ∧ Below (w.heap.size + 1) W0 W) (fun x _ => 16 - (intOf x).toNat)
  case atStart => exact ⟨0, by omega, rfl, HT.out, Below.refl _ _⟩
  case round =>
    obtain ⟨k, hk, rfl, hH, hb⟩ := hrel
    have HH : Hid (HoldsP wr (w.heap.size + 1) (tabL fun n => (0, if n < k then -1 else 0, 0))) := hH
    by_cases hlt : k < 16
    · have hc := (hH.1 k (by rw [tabL_len]; exact hlt)).2.1
      have hf := hH.2 (k * 3 + 1) (by rw [tabL_len]; omega)
      simp only [Nat.zero_add] at hc
      clear hH
      go_wp2
      go_roundw
      case rel =>
        refine ⟨k + 1, by omega, by go_num, ?_, hb.setCell (by show _ ≤ w.heap.size + 1; omega) _⟩
        have h1 := HH.out.set1 k (by rw [tabL_len]; exact hlt) (-1)
        rw [tabL_get] at h1
        rw [tabL_set _ (fun n => (0, if n < k + 1 then -1 else 0, 0)) k] at h1
        · exact h1
        · simp
        · intro n hn
          by_cases h2 : n < k
          · simp [h2, show n < k + 1 by omega]
          · simp [h2, show ¬ n < k + 1 by omega]
      case measure => simp [intOf]; omega
    · have hk16 : k = 16 := by omega
      subst hk16
      clear hH
      have HT2 : Hid (HoldsP wr (w.heap.size + 1) (tabL fun n => tabLast (l.take 0) n)) := by
        show HoldsP _ _ _
        have e : (tabL fun n => tabLast (l.take 0) n) = tabL fun n => (0, if n < 16 then -1 else 0, 0) := by rw [List.take_zero]; decide
        rw [e]
        exact HH.out
      clear HH HT
      go_wp2
      rename World => W1
      go_loopw [16] (fun x W => ∃ k : Nat, k ≤ l.length ∧ x = .int .i64 k ∧ HoldsP W (w.heap.size + 1) (tabL fun n => tabLast (l.take k) n) ∧ Below (w.heap.size + 1) W0 W) (fun x _ => l.length - (intOf x).toNat)
      case atStart => exact ⟨0, by omega, rfl, HT2.out, hb⟩
      case round =>
        obtain ⟨k, hk', rfl, hH, hb2⟩ := hrel
        clear hb HT2
        have HH : Hid (HoldsP wr (w.heap.size + 1) (tabL fun n => tabLast (l.take k) n)) := hH
        by_cases hlt : k < l.length
        · have hbw : Below w.heap.size w wr := HB.out.trans (hb2.mono (by omega))
          have hPW : SlP wr a l := HP.out.below hbw
          rcases hPW with h' | ⟨b, off, rfl, hbl, hp⟩
          · exact absurd hlt (by simp [h'])
          have hr := HS.out l[k] (List.getElem_mem hlt)
          have HST : Hid (∀ n : Nat, tabLast (l.take (k + 1)) n = if (n : Int) = l[k].1 then l[k] else tabLast (l.take k) n) := fun n => Orangery.tabLast_take l k hlt n
          obtain ⟨g0, g1, g2⟩ := hp k hlt
          obtain ⟨m, hm⟩ : ∃ m : Nat, l[k].1 = m := ⟨l[k].1.toNat, by omega⟩
          have hm16 : m < 16 := by omega
          have hc := hH.1 m (by rw [tabL_len]; exact hm16)
          simp only [Nat.zero_add] at hc
          obtain ⟨x0, x1, x2⟩ := hc
          have f0 := hH.2 (m * 3) (by rw [tabL_len]; omega)
          have f1 := hH.2 (m * 3 + 1) (by rw [tabL_len]; omega)
          have f2 := hH.2 (m * 3 + 2) (by rw [tabL_len]; omega)
          have hlt2 : w.heap.size + 1 < wr.heap.size := by have := hb2.size; omega
          rw [hm] at g0
          have HM : Hid (l[k].1 = m) := hm
          clear hH hm hr hp
          go_wp2
          go_roundw
          case rel =>
            have h1 := HH.out.set m (by rw [tabL_len]; exact hm16) ((m : Int), l[k].2.1, l[k].2.2)
            rw [tabL_set _ (fun n => tabLast (l.take (k + 1)) n) m] at h1
            · exact ⟨k + 1, by omega, by go_num, h1.below (by simpa using hlt2) (Go.Joins.below_alloc1 _ _), (((hb2.setCell (by show _ ≤ w.heap.size + 1; omega) _).setCell (by show _ ≤ w.heap.size + 1; omega) _).setCell (by show _ ≤ w.heap.size + 1; omega) _).alloc (by simp; omega) _⟩
            · show tabLast (l.take (k + 1)) (m : Int) = _
              rw [HST.out, if_pos HM.out.symm, ← HM.out]
            · intro n hn
              show tabLast (l.take (k + 1)) (n : Int) = _
              rw [HST.out, if_neg (by rw [HM.out]; omega)]
          case measure => simp [intOf]; omega
        · have hkl : k = l.length := by omega
          subst hkl
          rw [List.take_length] at hH
          have hR : HoldsP wr w.heap.size (tabL fun _ => (0, 0, 0)) := by
            have h1 := HR.out
            exact ⟨fun i hi => by rw [hb2.cell (by show w.heap.size < _; omega), hb2.cell (by show w.heap.size < _; omega), hb2.cell (by show w.heap.size < _; omega)]; exact h1.1 i hi, fun i hi => by rw [hb2.frozen (by show w.heap.size < _; omega)]; exact h1.2 i hi⟩
          have hrg : wr.rangeAt (w.heap.size + 1) 0 ((tabL fun n => tabLast l n).flatMap encPl) := hH.range
          have hth : wr.there w.heap.size 0 ((tabL fun n => tabLast l n).flatMap encPl).length := by
            have := hR.there
            rw [tabL_len] at this
            rw [flat_len, tabL_len]
            exact this
          have HRG : Hid (wr.rangeAt (w.heap.size + 1) 0 ((tabL fun n => tabLast l n).flatMap encPl)) := hrg
          have HTH : Hid (wr.there w.heap.size 0 ((tabL fun n => tabLast l n).flatMap encPl).length) := hth
          have HI : Hid ((Tryz.prog.info? 150).map (·.size) = some ((tabL fun n => tabLast l n).flatMap encPl).length) := by show _ = _; rw [infoTable, flat_len, tabL_len]
          have HON : Hid (((tabL fun n => tabLast l n).flatMap encPl).toArray.all (·.oneCell') = true) := all_oneCell_toArray (flat_one _)
          have HV : Hid (tabV (fun n => tabLast l n) = .agg ((tabL fun n => tabLast l n).flatMap encPl).toArray) := rfl
          clear hH hrg hth hR HH
          generalize (tabL fun n => tabLast l n).flatMap encPl = cs at *
          go_wp2_with (first | (refine wpList_load_mid rfl 150 _ rfl (w.heap.size + 1) 0 rfl cs _ HRG.out Tryz.underlying150 rfl HI.out ?_) | (refine wpList_store_mid rfl 150 _ _ rfl w.heap.size 0 cs.toArray rfl rfl HTH.out HI.out HON.out ?_))
          have hld := run_loadVar_mid (P := Tryz.prog) (wr.setCells w.heap.size 0 cs) w.heap.size 0 150 cs _ (World.rangeAt_setCells_same wr w.heap.size 0 cs HTH.out) Tryz.underlying150 rfl HI.out
          refine bodyPost_ret (v := .agg cs.toArray) ?_ rfl ⟨by rw [HV.out], ?_⟩
          · simp [results, Tryz.results119, Act.put, asAddr, hld]
          · exact below_sets (HB.out.trans (hb2.mono (by omega))) _ (by omega) _ _
end Go.Proofs.YthlhnokgcnieeadGreat

/- slices.Contains at ints. -/
namespace Go.Proofs.YthlhnokgcnieeadGreat
open Go.ChangeShapes Go.WideShapes Go.ChangeAt Go.RowKit
open Orangery (hasB)

theorem indexI_nil (w : World) (a : Option Addr) (c : Nat) (x : Int) :
    Calls Tryz.prog 63 #[.slice a 0 c, .int .i64 x] w fun e w' => e = .returned (.int .i64 (-1)) ∧ w' = w := by
  go_enter Tryz.func63, Tryz.ntmps63
  go_wp2
  go_loop [8] (fun i => i = .int .i64 0) (fun _ => 0)
  case atStart => rfl
  case round =>
    subst hrel
    go_wp2
    go_ret
    exact ⟨rfl, rfl⟩

theorem containsI_any (w : World) (a : Option Addr) (c : Nat) (x : Int) (l : List Int) (hl : l.length ≤ maxLen) (h : SlI w a l) :
    Calls Tryz.prog 26 #[.slice a l.length c, .int .i64 x] w fun e w' => e = .returned (.bool (hasB x l)) ∧ w' = w := by
  rcases h with rfl | ⟨b, off, rfl, _, hp⟩
  · go_enter Tryz.func26, Tryz.ntmps26
    go_wp2_with fail
    refine (indexI_nil w a c x).mono ?_
    rintro e w1 ⟨rfl, rfl⟩
    go_wp2
    go_ret
    exact ⟨rfl, rfl⟩
  · exact contains_ints w b off c l.length x l rfl hl hp
end Go.Proofs.YthlhnokgcnieeadGreat

/- orangeryref.AllOf. -/
namespace Go.Proofs.YthlhnokgcnieeadGreat
open Go.ChangeShapes Go.WideShapes Go.ChangeAt Go.RowKit
open Orangery (Pl isNodeB rootsE rootsOk hasB togL scan tabLast rows)

end Go.Proofs.YthlhnokgcnieeadGreat

/- orangeryref.CheckTree. -/
namespace Go.Proofs.YthlhnokgcnieeadGreat
open Go.ChangeShapes Go.WideShapes Go.ChangeAt Go.RowKit
open Orangery (Pl find isNodeB inRangeB meetsN scan ringAt check idxF chain chainN hasB outOk rRing checkR)

set_option maxHeartbeats 2000000 in
theorem checkTree_any (w : World) (a : Option Addr) (c : Nat) (l : List Pl) (hl : l.length ≤ maxLen) (h : SlP w a l) :
    Calls Tryz.prog 50 #[.agg #[.slice a l.length c]] w
      fun e w' => e = .returned (.int .i64 (checkR l)) ∧ Below w.heap.size w w' := by
  have hl' : l.length ≤ 9223372036854775807 := hl
  go_enter Tryz.func50, Tryz.ntmps50
  go_wp2
  have hB := Go.Joins.below_alloc1 w (Obj.cells #[Value.slice a l.length c] 25)
  generalize hW : w.alloc (Obj.cells #[Value.slice a l.length c] 25) = W0 at hB
  have hS : W0.heap.size = w.heap.size + 1 := by subst hW; simp
  have hc : W0.cell? ⟨w.heap.size, 0, none⟩ = some (.slice a l.length c) := by subst hW; simp
  clear hW
  have hP := h.below hB
  clear h
  go_loopw [3, 12] (fun x i W => ∃ (k : Nat) (m : Int), k ≤ l.length ∧ x = .int .i64 m ∧ i = .int .i64 k ∧ scan m (l.drop k) = scan 0 l ∧ Below W0.heap.size W0 W) (fun _ i _ => l.length - (intOf i).toNat)
  case atStart => exact ⟨0, 0, Nat.zero_le _, rfl, rfl, rfl, Below.refl _ _⟩
  case round =>
    obtain ⟨k, m, hk, rfl, rfl, hf, hb⟩ := hrel
    by_cases hlt : k < l.length
    · obtain ⟨s1, s2, s3⟩ := Orangery.scan_step l k m hlt hf
      have H1 : Hid (inRangeB l[k] = false → scan 0 l = 3) := s1
      have H2 : Hid (inRangeB l[k] = true → l[k].1 ≤ m → scan 0 l = 6) := s2
      have H3 : Hid (inRangeB l[k] = true → ¬ l[k].1 ≤ m → scan l[k].1 (l.drop (k + 1)) = scan 0 l) := s3
      clear s1 s2 s3 hf
      rcases hP with hP | ⟨b, off, rfl, hbl, hp⟩
      · exact absurd hlt (by simp [hP])
      have g := hp k hlt
      rw [← hb.cell hbl, ← hb.cell hbl, ← hb.cell hbl] at g
      obtain ⟨g0, g1, g2⟩ := g
      generalize hq : l[k] = q at *
      obtain ⟨q0, q1, q2⟩ := q
      have HQ : Hid (l[k] = (q0, q1, q2)) := hq
      clear hq
      simp only at H1 H2 H3 g0 g1 g2
      go_wp2_with fail
      refine (checkPlace_any _ (q0, q1, q2)).mono ?_
      rintro e w1 ⟨rfl, hb1⟩
      have hz1 := hb1.size
      have hb2 : Below W0.heap.size W0 w1 := (hb.alloc hb.size _).trans (hb1.mono (by simp; exact Nat.le_succ_of_le hb.size))
      have x0 : w1.cell? ⟨wr.heap.size, 0, none⟩ = some (.int .i64 q0) := by rw [hb1.cell (by simp)]; simp
      clear hb1
      cases hr : inRangeB (q0, q1, q2)
      · have e := H1.out hr
        have e2 : cpE (q0, q1, q2) = 3 := by simp [cpE, hr]
        rw [e2]
        clear e2
        go_wp2
        go_ret
        exact ⟨ret_int (by rw [Orangery.checkR_of_scan _ (by rw [e]; decide), e]), hB.trans (hb2.mono (by omega))⟩
      · have e2 : cpE (q0, q1, q2) = 0 := by simp [cpE, hr]
        rw [e2]
        clear e2
        by_cases hle : q0 ≤ m
        · have e := H2.out hr hle
          have HE : Hid (scan 0 l = 6) := e
          clear e
          go_wp2
          go_ret
          exact ⟨ret_int (by rw [Orangery.checkR_of_scan _ (by rw [HE.out]; decide), HE.out]), hB.trans (hb2.mono (by omega))⟩
        · have e := H3.out hr (by omega)
          have HE : Hid (scan q0 (l.drop (k + 1)) = scan 0 l) := e
          clear e
          go_wp2
          go_roundw
          case rel => exact ⟨k + 1, q0, hlt, rfl, by go_num, HE.out, hb2⟩
          case measure => simp [intOf]; omega
    · have hk' : l.drop k = [] := by simp; omega
      rw [hk'] at hf
      have HF : Hid (scan 0 l = 0) := hf.symm
      clear hf hk'
      have hcr := hc
      rw [← hb.cell (by show w.heap.size < _; omega)] at hcr
      have hP2 := hP.below hb
      have hB2 : Below w.heap.size w wr := hB.trans (hb.mono (by omega))
      have hS2 : w.heap.size < wr.heap.size := by have := hb.size; omega
      clear hP hB hc
      rename World => W1
      go_wp2
      go_loopw [31] (fun i W => ∃ k : Nat, k ≤ l.length ∧ i = .int .i64 k ∧ (∀ j, (hj : j < l.length) → j < k → rRing l l[j] = false) ∧ Below W1.heap.size W1 W) (fun i _ => l.length - (intOf i).toNat)
      case atStart => exact ⟨0, Nat.zero_le _, rfl, fun j _ hj => absurd hj (Nat.not_lt_zero _), Below.refl _ _⟩
      case round =>
        obtain ⟨k2, hk2, rfl, hno, hb⟩ := hrel
        have HNO : Hid (∀ j, (hj : j < l.length) → j < k2 → rRing l l[j] = false) := hno
        clear hno
        have hcr2 := hcr
        rw [← hb.cell (by exact hS2)] at hcr2
        have hS3 : w.heap.size < wr.heap.size := Nat.lt_of_lt_of_le hS2 hb.size
        by_cases hlt2 : k2 < l.length
        · have hP3 := hP2.below hb
          have hrg : ∀ p ∈ l, 0 ≤ p.2.1 ∧ p.2.1 ≤ 16 := fun p hp => by
            have := (Orangery.inRangeB_iff p).1 (Orangery.scan_range l 0 HF.out p hp).1
            omega
          have HRG : Hid (∀ p ∈ l, 0 ≤ p.2.1 ∧ p.2.1 ≤ 16) := hrg
          have hq1 := hrg l[k2] (List.getElem_mem hlt2)
          clear hrg
          rcases hP2 with hP2 | ⟨b, off, rfl, hbl, hp⟩
          · exact absurd hlt2 (by simp [hP2])
          have g := hp k2 hlt2
          rw [← hb.cell hbl, ← hb.cell hbl, ← hb.cell hbl] at g
          obtain ⟨g0, g1, g2⟩ := g
          have HR : Hid (rRing l l[k2] = hasB l[k2].1 (chain l l[k2].2.1)) := rfl
          generalize hq : l[k2] = q at *
          obtain ⟨q0, q1, q2⟩ := q
          have HQ : Hid (l[k2] = (q0, q1, q2)) := hq
          clear hq
          simp only at HR g0 g1 g2 hq1
          have hb1 := Go.Joins.below_alloc1 wr (Obj.cells #[Value.int IntKind.i64 q0, Value.int IntKind.i64 q1, Value.int IntKind.i64 q2] 64)
          go_wp2_with fail
          have y0 : (wr.alloc (Obj.cells #[Value.int IntKind.i64 q0, Value.int IntKind.i64 q1, Value.int IntKind.i64 q2] 64)).cell? ⟨wr.heap.size, 0, none⟩ = some (.int .i64 q0) := by simp
          have y1 : (wr.alloc (Obj.cells #[Value.int IntKind.i64 q0, Value.int IntKind.i64 q1, Value.int IntKind.i64 q2] 64)).cell? ⟨wr.heap.size, 1, none⟩ = some (.int .i64 q1) := by simp
          have y2 : (wr.alloc (Obj.cells #[Value.int IntKind.i64 q0, Value.int IntKind.i64 q1, Value.int IntKind.i64 q2] 64)).cell? ⟨w.heap.size, 0, none⟩ = some (.slice (some ⟨b, off, none⟩) l.length c) := by rw [hb1.cell hS3, hcr2]
          have hb5 : Below W1.heap.size W1 (wr.alloc (Obj.cells #[Value.int IntKind.i64 q0, Value.int IntKind.i64 q1, Value.int IntKind.i64 q2] 64)) := hb.trans (hb1.mono hb.size)
          have hP4 := hP3.below hb1
          have hw1 : wr.heap.size < (wr.alloc (Obj.cells #[Value.int IntKind.i64 q0, Value.int IntKind.i64 q1, Value.int IntKind.i64 q2] 64)).heap.size := by simp
          generalize (wr.alloc (Obj.cells #[Value.int IntKind.i64 q0, Value.int IntKind.i64 q1, Value.int IntKind.i64 q2] 64)) = W2 at y0 y1 y2 hb5 hP4 hw1 ⊢
          have hw0 : w.heap.size < W2.heap.size := Nat.lt_trans hS3 hw1
          clear hb1 hb hcr hcr2 hP3 g0 g1 g2
          go_region_held3 (fun w' => w'.cell? ⟨w.heap.size, 0, none⟩ = some (.slice (some ⟨b, off, none⟩) l.length c) ∧ w'.cell? ⟨wr.heap.size, 0, none⟩ = some (.int .i64 q0) ∧ w'.cell? ⟨wr.heap.size, 1, none⟩ = some (.int .i64 q1)) (go_keep)
            (first | (go_at_call 51; refine (chain_any _ _ c l q1 hl ?_ HRG.out hq1.1 hq1.2).mono ?_; exact hP4; rintro e w1 ⟨v, rfl, hown, hok, hbc⟩; have z0 := (hbc.cell (p := ⟨w.heap.size, 0, none⟩) hw0).trans y2; have z1 := (hbc.cell (p := ⟨wr.heap.size, 0, none⟩) hw1).trans y0; have z2 := (hbc.cell (p := ⟨wr.heap.size, 1, none⟩) hw1).trans y1; obtain ⟨g, cap, rfl, hgl, hints⟩ := own_ints_pos hown hok.2.2) | (go_at_call 26; refine (contains_ints _ g 0 cap (chain l q1).length q0 (chain l q1) rfl (by have := Orangery.outOk_len hok; unfold maxLen; omega) ?_).mono ?_; exact hints; rintro e w2 ⟨rfl, rfl⟩))
          have hb4 : Below W1.heap.size W1 _ := (hb5.drew).trans (hbc.mono hb5.size)
          rw [← HR.out]
          clear hbc hints hown hok z0 z1 z2 y0 y1 y2 hP4
          cases hr : rRing l (q0, q1, q2)
          · go_wp2
            go_roundw
            case rel =>
              refine ⟨k2 + 1, hlt2, by go_num, fun j hj hjk => ?_, hb4⟩
              by_cases hjk' : j < k2
              · exact HNO.out j hj hjk'
              · have : j = k2 := by omega
                subst this
                rw [HQ.out]
                exact hr
            case measure => simp [intOf]; omega
          · go_wp2
            go_ret
            exact ⟨ret_int (by rw [Orangery.checkR_of_ring l HF.out k2 hlt2 (by rw [HQ.out]; exact hr)]), hB2.trans (hb4.mono (by omega))⟩
        · go_wp2
          go_ret
          exact ⟨ret_int (by rw [Orangery.checkR_of_none l HF.out (fun i hi => HNO.out i hi (by omega))]), hB2.trans (hb.mono (by omega))⟩
end Go.Proofs.YthlhnokgcnieeadGreat

