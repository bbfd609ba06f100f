/- 8 texts of the proof: orangerylaw.small; the fields of values that are no variables. view.together, view.Same, orangeryref.SameView. slices.Index, slices.Contains, slices.ContainsFunc at places. slices.Contains at ints. orangerylaw.HubSees: the walk. A tree that came in as an argument: which places it holds. Operations and steps that came in as arguments. Slices of operations and histories that came in as arguments, an -/
import Derived.Laws.AppendOwnNone
import Derived.Deep.Slices
import Derived.Deep.Strs
import Derived.ChangeOld
import Derived.SizedLaws
import Derived.Test.YthlhnokgcnieeadGreatP05
import Derived.Test.YthlhnokgcnieeadGreatP11
import Derived.Test.YthlhnokgcnieeadGreatP08
import Derived.Test.YthlhnokgcnieeadGreatP04
import Derived.Test.YthlhnokgcnieeadGreatP03
import Derived.Test.YthlhnokgcnieeadGreatP02
import Derived.Test.YthlhnokgcnieeadGreatP01
import Derived.Test.YthlhnokgcnieeadGreatP18
/- orangerylaw.small; the fields of values that are no variables. -/
namespace Go.Proofs.YthlhnokgcnieeadGreat
open Go.ChangeShapes Go.WideShapes Go.ChangeAt Go.RowKit
open Orangery (Pl smallL)

/-- the fields of a place that is no variable -/
theorem run_field_pl (x0 x1 x2 : Int) (w : World) :
    (Instr.field 64 (.agg #[.int .i64 x0, .int .i64 x1, .int .i64 x2]) 0).run Tryz.prog w = .ok (.int .i64 x0) w ∧
    (Instr.field 64 (.agg #[.int .i64 x0, .int .i64 x1, .int .i64 x2]) 1).run Tryz.prog w = .ok (.int .i64 x1) w ∧
    (Instr.field 64 (.agg #[.int .i64 x0, .int .i64 x1, .int .i64 x2]) 2).run Tryz.prog w = .ok (.int .i64 x2) w := by
  have h1 := Tryz.underlying64
  have h2 := Tryz.isAgg3
  have h3 := Tryz.sizeOf3
  refine ⟨?_, ?_, ?_⟩
  all_goals
    unfold Instr.field
    go_simp
    simp [asAgg]

/-- the places of a tree that is no variable -/
theorem run_field_tree (v : Value) (w : World) : (Instr.field 25 (.agg #[v]) 0).run Tryz.prog w = .ok v w := by
  have h1 := Tryz.underlying25
  have h2 := Tryz.isAgg23
  have h3 := Tryz.sizeOf23
  unfold Instr.field
  go_simp
  simp [asAgg]
end Go.Proofs.YthlhnokgcnieeadGreat

/- view.together, view.Same, orangeryref.SameView. -/
namespace Go.Proofs.YthlhnokgcnieeadGreat
open Go.ChangeShapes Go.WideShapes Go.ChangeAt Go.RowKit
open Orangery (Pl check scan find inPl togL sameV cmpI)

set_option maxHeartbeats 1000000 in
theorem vsame_any (w : World) (aR aK aV bR bK bV : Option Addr) (cR cK cV dR dK dV : Nat) (R R' : List Int) (K K' V V' : List Pl) (hR : R.length ≤ maxLen) (hK : K.length ≤ maxLen) (hV : V.length ≤ maxLen)
    (h1 : SlI w aR R) (h2 : SlP w aK K) (h3 : SlP w aV V) (h4 : SlI w bR R') (h5 : SlP w bK K') (h6 : SlP w bV V') :
    Calls Tryz.prog 24 #[viV (.slice aR R.length cR) (.slice aK K.length cK) (.slice aV V.length cV), viV (.slice bR R'.length dR) (.slice bK K'.length dK) (.slice bV V'.length dV)] w
      fun e w' => e = .returned (.bool (sameV R R' K K' V V')) ∧ Below w.heap.size w w' := by
  have HS : Hid (sameV R R' K K' V V' = (eqIs R R' && eqPls K K' && eqPls V V')) := rfl
  obtain ⟨W0, hW, hA, hC, hB, _⟩ := laid2 w [Value.slice aR R.length cR, Value.slice aK K.length cK, Value.slice aV V.length cV] 42 [Value.slice bR R'.length dR, Value.slice bK K'.length dK, Value.slice bV V'.length dV] 42
  have x0 := hA.at 0 rfl
  have y0 := hC.at 0 rfl
  have g1 := h1.below hB
  have g2 := h2.below hB
  have g3 := h3.below hB
  have g4 := h4.below hB
  have g5 := h5.below hB
  have g6 := h6.below hB
  have HB : Hid (Below w.heap.size w W0) := hB
  clear h1 h2 h3 h4 h5 h6 hB
  go_enter Tryz.func24, Tryz.ntmps24
  go_wp2_with fail
  clear hW
  refine (equal_is W0 aR bR cR dR R R' hR g1 g4).mono ?_
  rintro e w1 ⟨rfl, n, rfl⟩
  have hb1 : Below W0.heap.size W0 (W0.drewN n) := ⟨rfl, rfl, rfl, Nat.le_refl _, fun _ _ => rfl⟩
  have hA1 := hA.keep hb1
  have hC1 := hC.keep hb1
  have k2 := g2.below hb1
  have k3 := g3.below hb1
  have k5 := g5.below hb1
  have k6 := g6.below hb1
  have HB1 : Hid (Below w.heap.size w (W0.drewN n)) := HB.out.trans (hb1.mono HB.out.size)
  clear hA hC HB hb1 g1 g2 g3 g4 g5 g6 x0 y0
  generalize W0.drewN n = W1 at *
  have x1 := hA1.at 1 rfl
  have y1 := hC1.at 1 rfl
  cases hq : eqIs R R'
  · go_wp2
    go_ret
    exact ⟨ret_bool (by rw [HS.out, hq]; rfl), HB1.out⟩
  · go_wp2_with fail
    refine (equal_pls W1 aK bK cK dK K K' hK k2 k5).mono ?_
    rintro e w2 ⟨rfl, n2, rfl⟩
    have hb2 : Below W1.heap.size W1 (W1.drewN n2) := ⟨rfl, rfl, rfl, Nat.le_refl _, fun _ _ => rfl⟩
    have hA2 := hA1.keep hb2
    have hC2 := hC1.keep hb2
    have m3 := k3.below hb2
    have m6 := k6.below hb2
    have HB2 : Hid (Below w.heap.size w (W1.drewN n2)) := HB1.out.trans (hb2.mono HB1.out.size)
    clear hA1 hC1 HB1 hb2 k2 k3 k5 k6 x1 y1
    generalize W1.drewN n2 = W2 at *
    have x2 := hA2.at 2 rfl
    have y2 := hC2.at 2 rfl
    cases hq2 : eqPls K K'
    · go_wp2
      go_ret
      exact ⟨ret_bool (by rw [HS.out, hq, hq2]; rfl), HB2.out⟩
    · go_wp2_with fail
      refine (equal_pls W2 aV bV cV dV V V' hV m3 m6).mono ?_
      rintro e w3 ⟨rfl, n3, rfl⟩
      have HB3 : Hid (Below w.heap.size w (W2.drewN n3)) := HB2.out.trans ⟨rfl, rfl, rfl, Nat.le_refl _, fun _ _ => rfl⟩
      generalize W2.drewN n3 = W3 at *
      clear m3 m6 x2 y2
      go_wp2
      go_ret
      exact ⟨ret_bool (by rw [HS.out, hq, hq2]; rfl), HB3.out⟩

set_option maxHeartbeats 1000000 in
theorem rsameV_any (w : World) (aR aK aV bR bK bV : Option Addr) (cR cK cV dR dK dV : Nat) (R R' : List Int) (K K' V V' : List Pl) (hR : R.length ≤ maxLen) (hK : K.length ≤ maxLen) (hV : V.length ≤ maxLen)
    (h1 : SlI w aR R) (h2 : SlP w aK K) (h3 : SlP w aV V) (h4 : SlI w bR R') (h5 : SlP w bK K') (h6 : SlP w bV V') :
    Calls Tryz.prog 17 #[viV (.slice aR R.length cR) (.slice aK K.length cK) (.slice aV V.length cV), viV (.slice bR R'.length dR) (.slice bK K'.length dK) (.slice bV V'.length dV)] w
      fun e w' => e = .returned (.bool (sameV R R' K K' V V')) ∧ Below w.heap.size w w' := by
  have HS : Hid (sameV R R' K K' V V' = (eqIs R R' && eqPls K K' && eqPls V V')) := rfl
  obtain ⟨W0, hW, hA, hC, hB, _⟩ := laid2 w [Value.slice aR R.length cR, Value.slice aK K.length cK, Value.slice aV V.length cV] 42 [Value.slice bR R'.length dR, Value.slice bK K'.length dK, Value.slice bV V'.length dV] 42
  have x0 := hA.at 0 rfl
  have y0 := hC.at 0 rfl
  have g1 := h1.below hB
  have g2 := h2.below hB
  have g3 := h3.below hB
  have g4 := h4.below hB
  have g5 := h5.below hB
  have g6 := h6.below hB
  have HB : Hid (Below w.heap.size w W0) := hB
  clear h1 h2 h3 h4 h5 h6 hB
  go_enter Tryz.func17, Tryz.ntmps17
  go_wp2_with fail
  clear hW
  refine (equal_is W0 aR bR cR dR R R' hR g1 g4).mono ?_
  rintro e w1 ⟨rfl, n, rfl⟩
  have hb1 : Below W0.heap.size W0 (W0.drewN n) := ⟨rfl, rfl, rfl, Nat.le_refl _, fun _ _ => rfl⟩
  have hA1 := hA.keep hb1
  have hC1 := hC.keep hb1
  have k2 := g2.below hb1
  have k3 := g3.below hb1
  have k5 := g5.below hb1
  have k6 := g6.below hb1
  have HB1 : Hid (Below w.heap.size w (W0.drewN n)) := HB.out.trans (hb1.mono HB.out.size)
  clear hA hC HB hb1 g1 g2 g3 g4 g5 g6 x0 y0
  generalize W0.drewN n = W1 at *
  have x1 := hA1.at 1 rfl
  have y1 := hC1.at 1 rfl
  cases hq : eqIs R R'
  · go_wp2
    go_ret
    exact ⟨ret_bool (by rw [HS.out, hq]; rfl), HB1.out⟩
  · go_wp2_with fail
    refine (equal_pls W1 aK bK cK dK K K' hK k2 k5).mono ?_
    rintro e w2 ⟨rfl, n2, rfl⟩
    have hb2 : Below W1.heap.size W1 (W1.drewN n2) := ⟨rfl, rfl, rfl, Nat.le_refl _, fun _ _ => rfl⟩
    have hA2 := hA1.keep hb2
    have hC2 := hC1.keep hb2
    have m3 := k3.below hb2
    have m6 := k6.below hb2
    have HB2 : Hid (Below w.heap.size w (W1.drewN n2)) := HB1.out.trans (hb2.mono HB1.out.size)
    clear hA1 hC1 HB1 hb2 k2 k3 k5 k6 x1 y1
    generalize W1.drewN n2 = W2 at *
    have x2 := hA2.at 2 rfl
    have y2 := hC2.at 2 rfl
    cases hq2 : eqPls K K'
    · go_wp2
      go_ret
      exact ⟨ret_bool (by rw [HS.out, hq, hq2]; rfl), HB2.out⟩
    · go_wp2_with fail
      refine (equal_pls W2 aV bV cV dV V V' hV m3 m6).mono ?_
      rintro e w3 ⟨rfl, n3, rfl⟩
      have HB3 : Hid (Below w.heap.size w (W2.drewN n3)) := HB2.out.trans ⟨rfl, rfl, rfl, Nat.le_refl _, fun _ _ => rfl⟩
      generalize W2.drewN n3 = W3 at *
      clear m3 m6 x2 y2
      go_wp2
      go_ret
      exact ⟨ret_bool (by rw [HS.out, hq, hq2]; rfl), HB3.out⟩
end Go.Proofs.YthlhnokgcnieeadGreat

/- slices.Index, slices.Contains, slices.ContainsFunc at places. -/
namespace Go.Proofs.YthlhnokgcnieeadGreat
open Go.ChangeShapes Go.WideShapes Go.ChangeAt Go.RowKit
open Orangery (Pl idxF)

def hasP (p : Pl) (l : List Pl) : Bool := decide (p ∈ l)

set_option maxHeartbeats 1000000 in
theorem indexPls_any (w : World) (a : Option Addr) (c : Nat) (l : List Pl) (p : Pl) (hl : l.length ≤ maxLen) (h : SlP w a l) :
    Calls Tryz.prog 64 #[.slice a l.length c, plV p] w
      fun e w' => (∃ i : Int, e = .returned (.int .i64 i) ∧ (p ∈ l → 0 ≤ i) ∧ (p ∉ l → i = -1)) ∧ Below w.heap.size w w' := by
  have hl' : l.length ≤ 9223372036854775807 := hl
  obtain ⟨p0, p1, p2⟩ := p
  obtain ⟨W0, hW, hN, hB, hS⟩ := laid1 w [Value.int IntKind.i64 p0, Value.int IntKind.i64 p1, Value.int IntKind.i64 p2] 64
  have HP : Hid (SlP W0 a l) := h.below hB
  have HB : Hid (Below w.heap.size w W0) := hB
  have heq := run_eql_pl
  have hgd := guard_pl
  have m0 := hN.at 0 rfl
  have m1 := hN.at 1 rfl
  have m2 := hN.at 2 rfl
  clear hN hB hS h
  go_enter Tryz.func64, Tryz.ntmps64
  go_wp2
  clear hW
  go_loopw [8] (fun i W => ∃ k n : Nat, k ≤ l.length ∧ i = .int .i64 k ∧ W = W0.drewN n ∧ (∀ j, (hj : j < l.length) → j < k → (p0, p1, p2) ≠ l[j])) (fun i _ => l.length - (intOf i).toNat)
  case atStart => exact ⟨0, 0, Nat.zero_le _, rfl, rfl, fun j _ hj => absurd hj (Nat.not_lt_zero _)⟩
  case round =>
    obtain ⟨k, n, hk, rfl, rfl, hno⟩ := hrel
    have HNO : Hid (∀ j, (hj : j < l.length) → j < k → (p0, p1, p2) ≠ l[j]) := hno
    clear hno
    by_cases hlt : k < l.length
    · have hPP := HP.out
      rcases hPP with hPP | ⟨b, off, rfl, hbl, hp⟩
      · exact absurd hlt (by simp [hPP])
      obtain ⟨g0, g1, g2⟩ := hp k hlt
      have HM : Hid (l[k] ∈ l) := List.getElem_mem hlt
      have HKE : Hid (∀ j, (hj : j < l.length) → j = k → l[j] = l[k]) := fun j hj e => by subst e; rfl
      clear hp
      generalize l[k] = q at *
      obtain ⟨q0, q1, q2⟩ := q
      simp only at g0 g1 g2
      go_wp2
      go_quiet (fail)
      cases hq : eqPl (p0, p1, p2) (q0, q1, q2)
      · have HQ : Hid ((p0, p1, p2) ≠ (q0, q1, q2)) := by show _ ≠ _; simpa [eqPl] using hq
        go_wp2
        go_roundw
        case rel =>
          refine ⟨k + 1, _, by omega, by go_num, rfl, fun j hj hjk => ?_⟩
          by_cases hjk' : j < k
          · exact HNO.out j hj hjk'
          · rw [HKE.out j hj (by omega)]; exact HQ.out
        case measure => simp [intOf]; omega
      · have HQ : Hid ((p0, p1, p2) = (q0, q1, q2)) := by show _ = _; simpa [eqPl] using hq
        go_wp2
        go_ret
        refine ⟨⟨k, rfl, fun _ => by omega, fun hn => ?_⟩, HB.out.trans ⟨rfl, rfl, rfl, Nat.le_refl _, fun _ _ => rfl⟩⟩
        rw [HQ.out] at hn
        exact absurd HM.out hn
    · go_wp2
      go_ret
      refine ⟨⟨-1, rfl, fun hm => ?_, fun _ => rfl⟩, HB.out.trans ⟨rfl, rfl, rfl, Nat.le_refl _, fun _ _ => rfl⟩⟩
      obtain ⟨j, hj, e⟩ := List.getElem_of_mem hm
      exact absurd e.symm (HNO.out j hj (by omega))

set_option maxHeartbeats 1000000 in
theorem containsPls_any (w : World) (a : Option Addr) (c : Nat) (l : List Pl) (p : Pl) (hl : l.length ≤ maxLen) (h : SlP w a l) :
    Calls Tryz.prog 27 #[.slice a l.length c, plV p] w fun e w' => e = .returned (.bool (hasP p l)) ∧ Below w.heap.size w w' := by
  obtain ⟨W0, hW, hN, hB, hS⟩ := laid1 w [Value.int IntKind.i64 p.1, Value.int IntKind.i64 p.2.1, Value.int IntKind.i64 p.2.2] 64
  have m0 := hN.at 0 rfl
  have m1 := hN.at 1 rfl
  have m2 := hN.at 2 rfl
  have HB : Hid (Below w.heap.size w W0) := hB
  have hP := h.below hB
  clear hN hB hS h
  go_enter Tryz.func27, Tryz.ntmps27
  go_wp2_with fail
  refine (indexPls_any W0 a c l p hl hP).mono ?_
  rintro e w1 ⟨⟨i, rfl, hi, hi2⟩, hb⟩
  have HB1 : Hid (Below w.heap.size w w1) := HB.out.trans (hb.mono HB.out.size)
  by_cases hm : p ∈ l
  · have h0 := hi hm
    have HH : Hid (hasP p l = true) := by show _ = _; simpa [hasP] using hm
    clear hi hi2 hb hm
    go_wp2
    go_ret
    exact ⟨ret_bool HH.out.symm, HB1.out⟩
  · have h0 := hi2 hm
    have HH : Hid (hasP p l = false) := by show _ = _; simpa [hasP] using hm
    subst h0
    clear hi hi2 hb hm
    go_wp2
    go_ret
    exact ⟨ret_bool HH.out.symm, HB1.out⟩

end Go.Proofs.YthlhnokgcnieeadGreat

/- slices.Contains at ints. -/
namespace Go.Proofs.YthlhnokgcnieeadGreat
open Go.ChangeShapes Go.WideShapes Go.ChangeAt Go.RowKit
open Orangery (hasB)

theorem indexI_nil (w : World) (a : Option Addr) (c : Nat) (x : Int) :
    Calls Tryz.prog 63 #[.slice a 0 c, .int .i64 x] w fun e w' => e = .returned (.int .i64 (-1)) ∧ w' = w := by
  go_enter Tryz.func63, Tryz.ntmps63
  go_wp2
  go_loop [8] (fun i => i = .int .i64 0) (fun _ => 0)
  case atStart => rfl
  case round =>
    subst hrel
    go_wp2
    go_ret
    exact ⟨rfl, rfl⟩

theorem containsI_any (w : World) (a : Option Addr) (c : Nat) (x : Int) (l : List Int) (hl : l.length ≤ maxLen) (h : SlI w a l) :
    Calls Tryz.prog 26 #[.slice a l.length c, .int .i64 x] w fun e w' => e = .returned (.bool (hasB x l)) ∧ w' = w := by
  rcases h with rfl | ⟨b, off, rfl, _, hp⟩
  · go_enter Tryz.func26, Tryz.ntmps26
    go_wp2_with fail
    refine (indexI_nil w a c x).mono ?_
    rintro e w1 ⟨rfl, rfl⟩
    go_wp2
    go_ret
    exact ⟨rfl, rfl⟩
  · exact contains_ints w b off c l.length x l rfl hl hp
end Go.Proofs.YthlhnokgcnieeadGreat

/- orangerylaw.HubSees: the walk. -/
namespace Go.Proofs.YthlhnokgcnieeadGreat
open Go.ChangeShapes Go.WideShapes Go.ChangeAt Go.RowKit
open Orangery (Pl Mv Stp Rc Pr Hb peerE peersE rootsOk hubE histE newHb prOf stepE stepH noHb insE insL insT checkRec nextE nextH orI ofE ofR ofK ofW runE runH replayE replayH noOp viewK viewW sameV underE underB wants check)

/-- a peer of a hub, in its cells -/
theorem HuX.peerAt {D : Nat → Prop} {h : Hb} {w : World} {vs : List Value} (hx : HuX D h w vs) (hl : h.2.2.length = 3) (k : Nat) (hk : k < 3) : ∃ a0 c0 a1 c1 b o c3, vs = [.slice a0 h.1.1.length c0, .slice a1 h.1.2.length c1, .int .i64 h.2.1, .slice (some ⟨b, o, none⟩) 3 c3] ∧ b < w.heap.size ∧ w.cell? ⟨b, o + k * 3, none⟩ = some (.int .i64 (prOf h k).1) := by
  obtain ⟨a, c, p, d, q, g, X, rfl, hx, _⟩ := hx
  have hl3 : X.length = 3 := by rw [← hx.are] at hl; simpa using hl
  have hk : k < X.length := by omega
  obtain ⟨b, o, e, hb, hr⟩ := hx.peers.reads.at prC_len k hk
  subst e
  have hp := prOf_at hx.are k hk
  obtain ⟨g0, g1, g2⟩ := pr_cells hr
  rw [hp] at g0
  exact ⟨_, _, _, _, b, o, g, by rw [hl3], hb, g0⟩
theorem sees_all {H : Hb} {R : List Int} (hk : hubE H = 0) (hR : rootsOk R = 0) {i : Nat} (hi : i < 3) (hp : (prOf H i).2.2 = R) : seesE H i = 0 ∧ seesR H i = R ∧ seesK H i = viewK H.1.2 R ∧ seesW H i = viewW H.1.2 R := by
  have h1 : seesB H i = 0 := by unfold seesB; rw [if_neg (by simp [hk]), if_neg (by omega)]
  obtain ⟨e1, e2, e3, e4⟩ := sees_ok h1
  have h2 : ofE H.1.2 R = 0 := by unfold ofE orI; rw [if_neg (by simp [Orangery.hub_tree hk])]; exact hR
  rw [e1, e2, e3, e4, hp]
  unfold ofR ofK ofW
  rw [if_neg (by simp [h2]), if_neg (by simp [h2]), if_neg (by simp [h2])]
  exact ⟨h2, rfl, rfl, rfl⟩
theorem four_cells (W : World) (g : Nat) (a b c d : Value) : (((W.setCell ⟨g, 0, none⟩ a).setCell ⟨g, 1, none⟩ b).setCell ⟨g, 2, none⟩ c).setCell ⟨g, 3, none⟩ d = W.setCells g 0 [a, b, c, d] := rfl
/-- what stands at round k -/
structure SeesAt (w W : World) (h : Hb) (R : List Int) (k : Nat) (H : Hb) (vs : List Value) : Prop where
  ok : hubE H = 0
  hist : H.1 = h.1
  ver : H.2.1 ≤ h.2.1 + 2 * k
  roots : ∀ i : Nat, i < k → (prOf H i).2.2 = R
  hub : HuX (fun b => b ≠ w.heap.size) H W vs
  box : Blk W w.heap.size vs
  below : Below w.heap.size w W

set_option maxHeartbeats 8000000 in
set_option maxRecDepth 100000 in
theorem hubSees_any (w : World) (v : Value) (h : Hb) (ar : Option Addr) (cr : Nat) (R : List Int) (hh : HuIs w v h) (hm : R.length ≤ maxLen) (hr : SlI w ar R) :
    Calls Tryz.prog 6 #[v, .slice ar R.length cr] w fun e w' => e = .returned (.bool true) ∧ Below w.heap.size w w' := by
  have hm' : R.length ≤ 9223372036854775807 := hm
  have HM := Lib.hid hm
  have HR := Lib.hid hr
  obtain ⟨us, rfl, hx⟩ := hh.x
  obtain ⟨a0, n0, c0, a1, n1, c1, a3, n3, c3, rfl⟩ := hx.four
  have HX := Lib.hid hx
  clear hh hr hm hx
  go_enter Tryz.func6, Tryz.ntmps6
  go_wp2_with fail
  obtain ⟨W0, hW, hA, hB, -⟩ := laid1 w [Value.slice a0 n0 c0, .slice a1 n1 c1, .int .i64 h.2.1, .slice a3 n3 c3] 30
  rw [hW]
  clear hW
  refine (accepted_any W0).mono ?_
  rintro e w1 ⟨rfl, hb⟩
  have hA1 := hA.keep hb
  have HB1 := Lib.hid (hB.trans (hb.mono hB.size))
  clear hA hb hB
  have y0 := hA1.at 0 rfl
  have y1 := hA1.at 1 rfl
  have y2 := hA1.at 2 rfl
  have y3 := hA1.at 3 rfl
  go_wp2_with fail
  refine (ucheck_any w1 _ h (HX.out.keep HB1.out).is).mono ?_
  rintro e w2 ⟨rfl, hb⟩
  have hA2 := hA1.keep hb
  have HB2 := Lib.hid (HB1.out.trans (hb.mono HB1.out.size))
  clear hA1 hb HB1 y0 y1 y2 y3
  by_cases hz : hubE h = 0
  case neg =>
    have d1 : (hubE h != 0) = true := by simpa using hz
    clear hz
    generalize hubE h = OE at *
    go_wp2_with fail
    refine (accepted_any w2).mono ?_
    rintro e w3 ⟨rfl, hb⟩
    have HB3 := Lib.hid (HB2.out.trans (hb.mono HB2.out.size))
    clear hb HB2
    go_wp2
    go_ret
    exact ⟨rfl, HB3.out⟩
  have HOK := Lib.hid hz
  rw [hz]
  clear hz
  go_wp2_with fail
  refine (vroots_any w2 ar cr R HM.out (HR.out.below HB2.out)).mono ?_
  rintro e w2 ⟨rfl, rfl⟩
  have y2 := hA2.at 2 rfl
  by_cases hz : rootsOk R = 0
  case neg =>
    have d1 : (rootsOk R != 0) = true := by simpa using hz
    clear hz
    generalize rootsOk R = OE at *
    go_wp2_with fail
    refine (accepted_any _).mono ?_
    rintro e w3 ⟨rfl, hb⟩
    have HB3 := Lib.hid (HB2.out.trans (hb.mono HB2.out.size))
    clear hb HB2
    go_wp2
    go_ret
    exact ⟨rfl, HB3.out⟩
  have HRO := Lib.hid hz
  rw [hz]
  clear hz
  by_cases hv : h.2.1 > 54
  · have d1 : decide (h.2.1 > 54) = true := decide_eq_true hv
    clear hv
    go_wp2_with fail
    refine (accepted_any _).mono ?_
    rintro e w3 ⟨rfl, hb⟩
    have HB3 := Lib.hid (HB2.out.trans (hb.mono HB2.out.size))
    clear hb HB2
    go_wp2
    go_ret
    exact ⟨rfl, HB3.out⟩
  have d1 : decide (h.2.1 > 54) = false := decide_eq_false hv
  have hv54 : h.2.1 ≤ 54 := by omega
  have HS0 : Hid (SeesAt w w2 h R 0 h [Value.slice a0 n0 c0, .slice a1 n1 c1, .int .i64 h.2.1, .slice a3 n3 c3]) := ⟨HOK.out, rfl, by omega, fun i hi => absurd hi (Nat.not_lt_zero _), (HX.out.keep HB2.out).imp (fun b hb => Nat.ne_of_lt hb), hA2, HB2.out⟩
  clear hv
  go_wp2
  clear d1 y2 hA2 HB2 HX
  go_loopw [36] (fun i W => ∃ (k : Nat) (H : Hb) (vs : List Value), k ≤ 3 ∧ i = .int .i64 k ∧ SeesAt w W h R k H vs) (fun i _ => 3 - (intOf i).toNat)
  case atStart => exact ⟨0, h, _, by omega, rfl, HS0.out⟩
  case round =>
    obtain ⟨k, H, vs, hk, rfl, hS⟩ := hrel
    clear HS0
    have HSA := Lib.hid hS
    have hl3 := (hub_few hS.ok).2.2.1
    by_cases hlt : k < 3
    case neg =>
      have hk3 : k = 3 := by omega
      subst hk3
      have s0 : seesE H 0 = 0 ∧ seesR H 0 = R ∧ seesK H 0 = viewK H.1.2 R ∧ seesW H 0 = viewW H.1.2 R := sees_all hS.ok HRO.out (i := 0) (by omega) (hS.roots 0 (by omega))
      have s2 : seesE H 2 = 0 ∧ seesR H 2 = R ∧ seesK H 2 = viewK H.1.2 R ∧ seesW H 2 = viewW H.1.2 R := sees_all hS.ok HRO.out (i := 2) (by omega) (hS.roots 2 (by omega))
      have hT30 := (hub_few hS.ok).2.1
      have hKl : (viewK H.1.2 R).length ≤ 30 := Nat.le_trans (List.length_filter_le _ _) hT30
      have hVl : (viewW H.1.2 R).length ≤ 30 := Nat.le_trans (List.length_filter_le _ _) hT30
      have HNON : Hid (R = [] → viewK H.1.2 R = [] ∧ viewW H.1.2 R = []) := fun e => by rw [e]; exact Orangery.sees_none _
      have HCHK := Lib.hid (Orangery.hub_tree hS.ok)
      have HBEL : Hid (∀ p ∈ H.1.2, underB H.1.2 p.1 0 = true → (0 : Int) ∈ R → p ∈ viewK H.1.2 R) := fun p hp h1 h2 => Orangery.sees_below hp h1 h2
      obtain ⟨aL, cL, aT, cT, aP, cP, Y, rfl, hat, -⟩ := hS.hub
      have HPL := Lib.hid hat.places
      have HS1 := Lib.hid (show HuX (· < wr.heap.size) H wr [.slice aL H.1.1.length cL, .slice aT H.1.2.length cT, .int .i64 H.2.1, .slice aP Y.length cP] from hS.hub.low)
      have hbx := hS.box
      have HBW := Lib.hid hS.below
      have z0 := hbx.at 0 rfl
      have z1 := hbx.at 1 rfl
      have z2 := hbx.at 2 rfl
      have z3 := hbx.at 3 rfl
      clear hS HSA hat
      go_wp2_with fail
      clear z0 z1 z2 z3
      have hc := usees_any wr [.slice aL H.1.1.length cL, .slice aT H.1.2.length cT, .int .i64 H.2.1, .slice aP Y.length cP] H 0 wr.heap.size HS1.out (Nat.le_refl _)
      rw [s0.1, s0.2.1, s0.2.2.1, s0.2.2.2] at hc
      refine hc.mono ?_
      rintro e w5 ⟨us, rfl, hV5, hb5⟩
      clear hc s0
      obtain ⟨f0, d0, f1, d1, f3, d3, rfl⟩ := hV5.three
      obtain ⟨W6, hW, hN6, hB6, -⟩ := laid1 w5 [Value.slice f0 R.length d0, .slice f1 (viewK H.1.2 R).length d1, .slice f3 (viewW H.1.2 R).length d3] 42
      have hb6 := hb5.trans (hB6.mono hb5.size)
      have HV6 := Lib.hid (hV5.keep hB6)
      have hbx6 := hbx.keep hb6
      have HS6 := Lib.hid (HS1.out.keep hb6).low
      have HPL6 := Lib.hid (HPL.out.below hb6)
      have HB6 := Lib.hid (HBW.out.trans (hb6.mono HBW.out.size))
      have z0 := hbx6.at 0 rfl
      have z1 := hbx6.at 1 rfl
      have z2 := hbx6.at 2 rfl
      have z3 := hbx6.at 3 rfl
      clear hV5 hb5 hB6 hb6 hbx HS1 HPL HBW
      go_wp2_with fail
      clear z0 z1 z2 z3 hW
      generalize w5.heap.size = BU at *
      have hc := usees_any W6 [.slice aL H.1.1.length cL, .slice aT H.1.2.length cT, .int .i64 H.2.1, .slice aP Y.length cP] H 2 W6.heap.size HS6.out (Nat.le_refl _)
      rw [s2.1, s2.2.1, s2.2.2.1, s2.2.2.2] at hc
      refine hc.mono ?_
      rintro e w7 ⟨us, rfl, hV7, hb7⟩
      clear hc s2
      obtain ⟨g0, k0, g1, k1, g3, k3, rfl⟩ := hV7.three
      obtain ⟨W8, hW, hN8, hB8, -⟩ := laid1 w7 [Value.slice g0 R.length k0, .slice g1 (viewK H.1.2 R).length k1, .slice g3 (viewW H.1.2 R).length k3] 42
      have hb8 := hb7.trans (hB8.mono hb7.size)
      have HV8 := Lib.hid (hV7.keep hB8)
      have HU8 := Lib.hid (HV6.out.keep hb8)
      have hN68 := hN6.keep hb8
      have hbx8 := hbx6.keep hb8
      have HPL8 := Lib.hid (HPL6.out.below hb8)
      have HB8 := Lib.hid (HB6.out.trans (hb8.mono HB6.out.size))
      clear hV7 hb7 hB8 hb8 hbx6 HS6 HPL6 HB6 HV6 hN6
      generalize viewK H.1.2 R = K at *
      generalize viewW H.1.2 R = V at *
      have CS : Hid (Calls Tryz.prog 24 #[viV (.slice f0 R.length d0) (.slice f1 K.length d1) (.slice f3 V.length d3), viV (.slice g0 R.length k0) (.slice g1 K.length k1) (.slice g3 V.length k3)] W8 fun e w' => e = .returned (.bool true) ∧ Below W8.heap.size W8 w') := by
        obtain ⟨x0, x1, x2, y0, y1, y2, e1, h1, h2, h3, -⟩ := HU8.out
        simp only [List.cons.injEq, Value.slice.injEq, true_and, and_true] at e1
        obtain ⟨⟨rfl, rfl⟩, ⟨rfl, rfl⟩, rfl, rfl⟩ := e1
        obtain ⟨x0, x1, x2, y0, y1, y2, e2, h4, h5, h6, -⟩ := HV8.out
        simp only [List.cons.injEq, Value.slice.injEq, true_and, and_true] at e2
        obtain ⟨⟨rfl, rfl⟩, ⟨rfl, rfl⟩, rfl, rfl⟩ := e2
        have hc := vsame_any W8 f0 f1 f3 g0 g1 g3 d0 d1 d3 k0 k1 k3 R R K K V V HM.out (by unfold maxLen; omega) (by unfold maxLen; omega) h1 h2 h3 h4 h5 h6
        have e3 : sameV R R K K V V = true := by simp [sameV]
        rw [e3] at hc
        exact hc
      have y0 := hN68.at 0 rfl
      have y1 := hN68.at 1 rfl
      have y2 := hN68.at 2 rfl
      have z0 := hN8.at 0 rfl
      have z1 := hN8.at 1 rfl
      have z2 := hN8.at 2 rfl
      go_wp2_with fail
      refine CS.out.mono ?_
      rintro e w9 ⟨rfl, hb9⟩
      clear y0 y1 y2 z0 z1 z2 hW CS HV8 hN8
      have HU9 := Lib.hid (HU8.out.keep hb9)
      have hN9 := hN68.keep hb9
      have hbx9 := hbx8.keep hb9
      have HPL9 := Lib.hid (HPL8.out.below hb9)
      have HB9 := Lib.hid (HB8.out.trans (hb9.mono HB8.out.size))
      have y1 := hN9.at 1 rfl
      have y2 := hN9.at 2 rfl
      clear hb9 HU8 hN68 hbx8 HPL8 HB8
      generalize hTT : H.1.2 = T at *
      have hKI : (K.length : Int) + (V.length : Int) ≤ 60 := by omega
      have hgo : ((R.length : Int) == 0) = false ∨ (((R.length : Int) == 0) = true ∧ K = [] ∧ V = []) := by
        by_cases e : R = []
        · exact Or.inr ⟨by simp [e], HNON.out e⟩
        · refine Or.inl ?_
          have : R.length ≠ 0 := by intro e2; exact e (List.length_eq_zero_iff.1 e2)
          simp only [beq_eq_false_iff_ne]
          omega
      have zz := hbx9.at 1 rfl
      have HPP : Hid (SlP w9 aT T) := HPL9.out
      have hT30' : T.length ≤ 30 := hT30
      have hKS : Hid (∀ W', Below w9.heap.size w9 W' → SlP W' f1 K) := by
        intro W' hw
        obtain ⟨x0, x1, x2, y0, y1, y2, e1, h1, h2, h3, -⟩ := HU9.out
        simp only [List.cons.injEq, Value.slice.injEq, true_and, and_true] at e1
        obtain ⟨⟨rfl, rfl⟩, ⟨rfl, rfl⟩, rfl, rfl⟩ := e1
        exact h2.below hw
      rcases hgo with d5 | ⟨d5, hKe, hVe⟩
      · skip
        go_wp2
        clear y1 y2 d5
        go_loopw [110] (fun i W => ∃ k : Nat, k ≤ T.length ∧ i = .int .i64 k ∧ Below w9.heap.size w9 W) (fun i _ => T.length - (intOf i).toNat)
        case atStart => exact ⟨0, Nat.zero_le _, rfl, Below.refl _ _⟩
        case round =>
          obtain ⟨k, hk, rfl, hb⟩ := hrel
          have HBr := Lib.hid hb
          clear hb
          by_cases hlt2 : k < T.length
          case neg =>
            go_wp2
            go_ret
            exact ⟨rfl, HB9.out.trans (HBr.out.mono HB9.out.size)⟩
          have HMEM : Hid (T[k] ∈ T) := List.getElem_mem hlt2
          have HPr := Lib.hid (HPP.out.below HBr.out)
          obtain ⟨bq, oq, rfl, hbq, hp⟩ : ∃ b off, aT = some ⟨b, off, none⟩ ∧ b < wr.heap.size ∧ PlsAt wr b off T := by
            rcases HPr.out with h9 | h9
            · rw [h9] at hlt2; simp at hlt2
            · exact h9
          obtain ⟨g0, g1, g2⟩ := hp k hlt2
          have HNODE : Hid (Orangery.isNodeB T[k].1 = true) := (Orangery.mem_node T HCHK.out _ HMEM.out).1
          have HUE : Hid (underE T T[k].1 0 = 0) := Orangery.under_place HCHK.out HNODE.out
          have HSB := Lib.hid (HBEL.out T[k] HMEM.out)
          clear hp HMEM HNODE
          generalize T[k] = x at *
          obtain ⟨x0, x1, x2⟩ := x
          simp only at g0 g1 g2
          have hlti2 : (k : Int) < (T.length : Int) := by omega
          have zr := (hbx9.keep HBr.out).at 1 rfl
          have hbl0 : w.heap.size < wr.heap.size := (hbx9.keep HBr.out).lt
          have hnb0 : ¬ wr.heap.size = w.heap.size := by omega
          go_wp2_with fail
          obtain ⟨W3, hW3, hN3, hB3, -⟩ := laid1 wr [Value.int .i64 x0, .int .i64 x1, .int .i64 x2] 64
          rw [hW3]
          clear hW3 g0 g1 g2 zr hnb0
          refine (under_any W3 (some ⟨bq, oq, none⟩) cT T x0 0 (by unfold maxLen; omega) (HPr.out.below hB3)).mono ?_
          rintro e w4 ⟨rfl, hb4⟩
          rw [HUE.out]
          have hb4' := hB3.trans (hb4.mono hB3.size)
          have HB4 := Lib.hid (HBr.out.trans (hb4'.mono HBr.out.size))
          have hN4 := hN3.keep hb4
          have hU4 := (hN9.keep HB4.out)
          have HR4 := Lib.hid (HR.out.below (HB9.out.trans (HB4.out.mono HB9.out.size)))
          clear hb4 hb4' hB3 hN3 HPr HBr
          have q0 := hN4.at 0 rfl
          have q1 := hN4.at 1 rfl
          have q2 := hN4.at 2 rfl
          have v1 := hU4.at 1 rfl
          cases hub : underB T x0 0
          · go_wp2
            go_roundw
            case rel => exact ⟨k + 1, hlt2, by go_num, HB4.out⟩
            case measure => simp [intOf]; omega
          · have HSB2 := Lib.hid (HSB.out hub)
            clear hub HSB
            go_wp2_with fail
            refine (containsI_any w4 ar cr 0 R HM.out HR4.out).mono ?_
            rintro e w4 ⟨rfl, rfl⟩
            cases hin : Orangery.hasB 0 R
            · go_wp2
              go_roundw
              case rel => exact ⟨k + 1, hlt2, by go_num, HB4.out⟩
              case measure => simp [intOf]; omega
            · have hmem : (0 : Int) ∈ R := by simpa [Orangery.hasB] using hin
              have HKM := Lib.hid (HSB2.out hmem)
              clear hin hmem HSB2
              go_wp2_with fail
              refine (containsPls_any w4 f1 d1 K (x0, x1, x2) (by unfold maxLen; omega) (hKS.out w4 HB4.out)).mono ?_
              rintro e w5 ⟨rfl, hb5⟩
              have e9 : hasP (x0, x1, x2) K = true := by simpa [hasP] using HKM.out
              rw [e9]
              have HB5 := Lib.hid (HB4.out.trans (hb5.mono HB4.out.size))
              clear hb5 q0 q1 q2 v1 hU4 hN4
              go_wp2
              go_roundw
              case rel => exact ⟨k + 1, hlt2, by go_num, HB5.out⟩
              case measure => simp [intOf]; omega
      · have d6 : decide ((K.length : Int) + (V.length : Int) > 0) = false := by simp [hKe, hVe]
        clear hKe hVe
        go_wp2
        clear y1 y2 d5
        go_loopw [110] (fun i W => ∃ k : Nat, k ≤ T.length ∧ i = .int .i64 k ∧ Below w9.heap.size w9 W) (fun i _ => T.length - (intOf i).toNat)
        case atStart => exact ⟨0, Nat.zero_le _, rfl, Below.refl _ _⟩
        case round =>
          obtain ⟨k, hk, rfl, hb⟩ := hrel
          have HBr := Lib.hid hb
          clear hb
          by_cases hlt2 : k < T.length
          case neg =>
            go_wp2
            go_ret
            exact ⟨rfl, HB9.out.trans (HBr.out.mono HB9.out.size)⟩
          have HMEM : Hid (T[k] ∈ T) := List.getElem_mem hlt2
          have HPr := Lib.hid (HPP.out.below HBr.out)
          obtain ⟨bq, oq, rfl, hbq, hp⟩ : ∃ b off, aT = some ⟨b, off, none⟩ ∧ b < wr.heap.size ∧ PlsAt wr b off T := by
            rcases HPr.out with h9 | h9
            · rw [h9] at hlt2; simp at hlt2
            · exact h9
          obtain ⟨g0, g1, g2⟩ := hp k hlt2
          have HNODE : Hid (Orangery.isNodeB T[k].1 = true) := (Orangery.mem_node T HCHK.out _ HMEM.out).1
          have HUE : Hid (underE T T[k].1 0 = 0) := Orangery.under_place HCHK.out HNODE.out
          have HSB := Lib.hid (HBEL.out T[k] HMEM.out)
          clear hp HMEM HNODE
          generalize T[k] = x at *
          obtain ⟨x0, x1, x2⟩ := x
          simp only at g0 g1 g2
          have hlti2 : (k : Int) < (T.length : Int) := by omega
          have zr := (hbx9.keep HBr.out).at 1 rfl
          have hbl0 : w.heap.size < wr.heap.size := (hbx9.keep HBr.out).lt
          have hnb0 : ¬ wr.heap.size = w.heap.size := by omega
          go_wp2_with fail
          obtain ⟨W3, hW3, hN3, hB3, -⟩ := laid1 wr [Value.int .i64 x0, .int .i64 x1, .int .i64 x2] 64
          rw [hW3]
          clear hW3 g0 g1 g2 zr hnb0
          refine (under_any W3 (some ⟨bq, oq, none⟩) cT T x0 0 (by unfold maxLen; omega) (HPr.out.below hB3)).mono ?_
          rintro e w4 ⟨rfl, hb4⟩
          rw [HUE.out]
          have hb4' := hB3.trans (hb4.mono hB3.size)
          have HB4 := Lib.hid (HBr.out.trans (hb4'.mono HBr.out.size))
          have hN4 := hN3.keep hb4
          have hU4 := (hN9.keep HB4.out)
          have HR4 := Lib.hid (HR.out.below (HB9.out.trans (HB4.out.mono HB9.out.size)))
          clear hb4 hb4' hB3 hN3 HPr HBr
          have q0 := hN4.at 0 rfl
          have q1 := hN4.at 1 rfl
          have q2 := hN4.at 2 rfl
          have v1 := hU4.at 1 rfl
          cases hub : underB T x0 0
          · go_wp2
            go_roundw
            case rel => exact ⟨k + 1, hlt2, by go_num, HB4.out⟩
            case measure => simp [intOf]; omega
          · have HSB2 := Lib.hid (HSB.out hub)
            clear hub HSB
            go_wp2_with fail
            refine (containsI_any w4 ar cr 0 R HM.out HR4.out).mono ?_
            rintro e w4 ⟨rfl, rfl⟩
            cases hin : Orangery.hasB 0 R
            · go_wp2
              go_roundw
              case rel => exact ⟨k + 1, hlt2, by go_num, HB4.out⟩
              case measure => simp [intOf]; omega
            · have hmem : (0 : Int) ∈ R := by simpa [Orangery.hasB] using hin
              have HKM := Lib.hid (HSB2.out hmem)
              clear hin hmem HSB2
              go_wp2_with fail
              refine (containsPls_any w4 f1 d1 K (x0, x1, x2) (by unfold maxLen; omega) (hKS.out w4 HB4.out)).mono ?_
              rintro e w5 ⟨rfl, hb5⟩
              have e9 : hasP (x0, x1, x2) K = true := by simpa [hasP] using HKM.out
              rw [e9]
              have HB5 := Lib.hid (HB4.out.trans (hb5.mono HB4.out.size))
              clear hb5 q0 q1 q2 v1 hU4 hN4
              go_wp2
              go_roundw
              case rel => exact ⟨k + 1, hlt2, by go_num, HB5.out⟩
              case measure => simp [intOf]; omega
    obtain ⟨e0, k0, e1, k1, b, o, k3, rfl, hbl, hce⟩ := hS.hub.peerAt hl3 k hlt
    have z0 := hS.box.at 0 rfl
    have z1 := hS.box.at 1 rfl
    have z2 := hS.box.at 2 rfl
    have z3 := hS.box.at 3 rfl
    have hlti : (k : Int) < 3 := by omega
    obtain ⟨w1', w2', w3', w4', w5', w6', w7'⟩ := Orangery.wants_ok hS.ok (by have := hS.ver; omega) (k := (k : Int)) (by omega) (by omega) HRO.out
    have HW := Lib.hid w1'
    have HW2 := Lib.hid w2'
    have HNX : Hid (∀ W us, HuX (fun b => b ≠ w.heap.size) (wants H R k) W us → Blk W w.heap.size us → Below w.heap.size w W → SeesAt w W h R (k + 1) (wants H R k) us) := by
      intro W us h1 h2 h3
      refine ⟨w3', by rw [w4', hS.hist], by have := hS.ver; omega, ?_, h1, h2, h3⟩
      intro i hi
      by_cases hik : i = k
      · subst hik; exact w6'
      · rw [w7' i (by omega) (by omega) (by omega)]
        exact hS.roots i (by omega)
    have HWD : Hid (wants H R k = stepH (if (prOf H k).1 = 0 then stepH H (2, (k : Int), 1, [], noOp) else H) (3, (k : Int), 0, R, noOp)) := rfl
    clear w1' w2' w3' w4' w5' w6' w7' hS
    by_cases hlf : (prOf H k).1 = 0
    · have HW3 : Hid (nextE (stepH H (2, (k : Int), 1, [], noOp)) (3, (k : Int), 0, R, noOp) = 0) := by have h9 := HW2.out; rw [if_pos hlf] at h9; exact h9
      have HWE : Hid (nextH (stepH H (2, (k : Int), 1, [], noOp)) (3, (k : Int), 0, R, noOp) = wants H R k) := by show _ = _; rw [nextH_ok HW3.out, HWD.out, if_pos hlf]
      have HN1 := Lib.hid (HW.out hlf)
      have HN2 := Lib.hid (nextH_ok HN1.out)
      have d1 : ((prOf H k).1 == 0) = true := by simpa using hlf
      clear HW HW2 HWD
      go_wp2_with fail
      clear z0 z1 z2 z3 hce
      have hc := unext_any wr _ H (2, (k : Int), 1, [], noOp) none 0 HSA.out.hub.is (by simp [maxLen]) (Or.inl rfl)
      rw [HN2.out, HN1.out] at hc
      refine hc.mono ?_
      rintro e w5 ⟨us, rfl, hU, hb5⟩
      clear hc
      obtain ⟨f0, l0, d0, f1, l1, d1', f3, l3, d3, rfl⟩ := hU.four
      generalize hH1 : stepH H (2, (k : Int), 1, [], noOp) = H1 at *
      clear hH1
      have hlw : w.heap.size < wr.heap.size := HSA.out.box.lt
      obtain ⟨W6, hW, hN6, hB6, -⟩ := laid1 w5 [Value.slice f0 l0 d0, .slice f1 l1 d1', .int .i64 H1.2.1, .slice f3 l3 d3] 30
      have hbx6 := (HSA.out.box.keep hb5).keep hB6
      have hU6 : HuX (fun b => b ≠ w.heap.size) H1 W6 [Value.slice f0 l0 d0, .slice f1 l1 d1', .int .i64 H1.2.1, .slice f3 l3 d3] := (hU.imp (fun b hb => by omega)).keep hB6
      have HB6 := Lib.hid ((HSA.out.below.trans (hb5.mono HSA.out.below.size)).trans (hB6.mono (HSA.out.below.trans (hb5.mono HSA.out.below.size)).size))
      have HHX : Hid (HuX (fun b => b ≠ w.heap.size) H1 (W6.setCells w.heap.size 0 [Value.slice f0 l0 d0, .slice f1 l1 d1', .int .i64 H1.2.1, .slice f3 l3 d3]) [Value.slice f0 l0 d0, .slice f1 l1 d1', .int .i64 H1.2.1, .slice f3 l3 d3]) := hU6.sets w.heap.size (fun b hb => hb) _ 0
      have hbx7 := hbx6.sets [Value.slice f0 l0 d0, .slice f1 l1 d1', .int .i64 H1.2.1, .slice f3 l3 d3] rfl
      have HB7 := Lib.hid (below_sets HB6.out w.heap.size (Nat.le_refl _) [Value.slice f0 l0 d0, .slice f1 l1 d1', .int .i64 H1.2.1, .slice f3 l3 d3] 0)
      have y0 := hN6.at 0 rfl
      have y1 := hN6.at 1 rfl
      have y2 := hN6.at 2 rfl
      have y3 := hN6.at 3 rfl
      have zf := hbx6.frz
      have z0 := hbx6.at 0 rfl
      have z1 := hbx6.at 1 rfl
      have z2 := hbx6.at 2 rfl
      have z3 := hbx6.at 3 rfl
      clear hU hb5 hB6 hU6 HB6 d1
      go_upto_region 11 with fail
      clear hW y0 y1 y2 y3 zf z0 z1 z2 z3 hbx6 hN6
      rw [four_cells]
      generalize W6.setCells w.heap.size 0 [Value.slice f0 l0 d0, .slice f1 l1 d1', .int .i64 H1.2.1, .slice f3 l3 d3] = W7 at *
      have z0 := hbx7.at 0 rfl
      have z1 := hbx7.at 1 rfl
      have z2 := hbx7.at 2 rfl
      have z3 := hbx7.at 3 rfl
      go_wp2_with fail
      clear z0 z1 z2 z3
      have hc := unext_any W7 _ H1 (3, (k : Int), 0, R, noOp) ar cr HHX.out.is HM.out (HR.out.below HB7.out)
      rw [HWE.out, HW3.out] at hc
      refine hc.mono ?_
      rintro e w8 ⟨us, rfl, hU, hb8⟩
      clear hc
      obtain ⟨p0, q0, r0, p1, q1, r1, p3, q3, r3, rfl⟩ := hU.four
      have hlw : w.heap.size < W7.heap.size := hbx7.lt
      generalize wants H R k = H2 at *
      obtain ⟨W9, hW, hN9, hB9, -⟩ := laid1 w8 [Value.slice p0 q0 r0, .slice p1 q1 r1, .int .i64 H2.2.1, .slice p3 q3 r3] 30
      have hbx9 := (hbx7.keep hb8).keep hB9
      have hU9 : HuX (fun b => b ≠ w.heap.size) H2 W9 [Value.slice p0 q0 r0, .slice p1 q1 r1, .int .i64 H2.2.1, .slice p3 q3 r3] := (hU.imp (fun b hb => by omega)).keep hB9
      have HB9 := Lib.hid ((HB7.out.trans (hb8.mono HB7.out.size)).trans (hB9.mono (HB7.out.trans (hb8.mono HB7.out.size)).size))
      have HEND := Lib.hid (HNX.out _ _ (hU9.sets w.heap.size (fun b hb => hb) [Value.slice p0 q0 r0, .slice p1 q1 r1, .int .i64 H2.2.1, .slice p3 q3 r3] 0) (hbx9.sets [Value.slice p0 q0 r0, .slice p1 q1 r1, .int .i64 H2.2.1, .slice p3 q3 r3] rfl) (below_sets HB9.out w.heap.size (Nat.le_refl _) [Value.slice p0 q0 r0, .slice p1 q1 r1, .int .i64 H2.2.1, .slice p3 q3 r3] 0))
      have y0 := hN9.at 0 rfl
      have y1 := hN9.at 1 rfl
      have y2 := hN9.at 2 rfl
      have y3 := hN9.at 3 rfl
      have zf := hbx9.frz
      have z0 := hbx9.at 0 rfl
      have z1 := hbx9.at 1 rfl
      have z2 := hbx9.at 2 rfl
      have z3 := hbx9.at 3 rfl
      clear hU hb8 hB9 hU9 HB9 HNX
      go_wp2
      go_roundw
      case rel => exact ⟨k + 1, _, _, by omega, by go_num, HEND.out⟩
      case measure => simp [intOf]; omega
    · have HW3 : Hid (nextE H (3, (k : Int), 0, R, noOp) = 0) := by have h9 := HW2.out; rw [if_neg hlf] at h9; exact h9
      have HWE : Hid (nextH H (3, (k : Int), 0, R, noOp) = wants H R k) := by show _ = _; rw [nextH_ok HW3.out, HWD.out, if_neg hlf]
      have d1 : ((prOf H k).1 == 0) = false := by simpa using hlf
      have hbx7 := HSA.out.box
      have HHX := Lib.hid HSA.out.hub
      have HB7 := Lib.hid HSA.out.below
      clear HW HW2 HWD z0 z1 z2
      have z0 := hbx7.at 0 rfl
      have z1 := hbx7.at 1 rfl
      have z2 := hbx7.at 2 rfl
      have z3 := hbx7.at 3 rfl
      go_wp2_with fail
      clear z0 z1 z2 z3
      have hc := unext_any wr _ H (3, (k : Int), 0, R, noOp) ar cr HHX.out.is HM.out (HR.out.below HB7.out)
      rw [HWE.out, HW3.out] at hc
      refine hc.mono ?_
      rintro e w8 ⟨us, rfl, hU, hb8⟩
      clear hc
      obtain ⟨p0, q0, r0, p1, q1, r1, p3, q3, r3, rfl⟩ := hU.four
      have hlw : w.heap.size < wr.heap.size := hbx7.lt
      generalize wants H R k = H2 at *
      obtain ⟨W9, hW, hN9, hB9, -⟩ := laid1 w8 [Value.slice p0 q0 r0, .slice p1 q1 r1, .int .i64 H2.2.1, .slice p3 q3 r3] 30
      have hbx9 := (hbx7.keep hb8).keep hB9
      have hU9 : HuX (fun b => b ≠ w.heap.size) H2 W9 [Value.slice p0 q0 r0, .slice p1 q1 r1, .int .i64 H2.2.1, .slice p3 q3 r3] := (hU.imp (fun b hb => by omega)).keep hB9
      have HB9 := Lib.hid ((HB7.out.trans (hb8.mono HB7.out.size)).trans (hB9.mono (HB7.out.trans (hb8.mono HB7.out.size)).size))
      have HEND := Lib.hid (HNX.out _ _ (hU9.sets w.heap.size (fun b hb => hb) [Value.slice p0 q0 r0, .slice p1 q1 r1, .int .i64 H2.2.1, .slice p3 q3 r3] 0) (hbx9.sets [Value.slice p0 q0 r0, .slice p1 q1 r1, .int .i64 H2.2.1, .slice p3 q3 r3] rfl) (below_sets HB9.out w.heap.size (Nat.le_refl _) [Value.slice p0 q0 r0, .slice p1 q1 r1, .int .i64 H2.2.1, .slice p3 q3 r3] 0))
      have y0 := hN9.at 0 rfl
      have y1 := hN9.at 1 rfl
      have y2 := hN9.at 2 rfl
      have y3 := hN9.at 3 rfl
      have zf := hbx9.frz
      have z0 := hbx9.at 0 rfl
      have z1 := hbx9.at 1 rfl
      have z2 := hbx9.at 2 rfl
      have z3 := hbx9.at 3 rfl
      clear hU hb8 hB9 hU9 HB9 HNX
      go_wp2
      go_roundw
      case rel => exact ⟨k + 1, _, _, by omega, by go_num, HEND.out⟩
      case measure => simp [intOf]; omega

end Go.Proofs.YthlhnokgcnieeadGreat

/- A tree that came in as an argument: which places it holds. -/
namespace Go.Proofs.YthlhnokgcnieeadGreat
open Go.ChangeShapes Go.WideShapes Go.ChangeAt Go.RowKit
open Orangery (Pl)

theorem cells3_of {w : World} {base : Nat} {a : Addr} {cs : List Value} (h : w.cells? base a 3 = some cs) :
    ∃ x y z, cs = [x, y, z] ∧ w.cell? (a.add 0) = some x ∧ w.cell? (a.add 1) = some y ∧ w.cell? (a.add 2) = some z := by
  unfold World.cells? at h
  split at h
  · simp only [show List.range 3 = [0, 1, 2] from rfl, List.mapM_cons, List.mapM_nil] at h
    cases h0 : w.cell? (a.add 0) with
    | none => simp [h0] at h
    | some x =>
      cases h1 : w.cell? (a.add 1) with
      | none => simp [h0, h1] at h
      | some y =>
        cases h2 : w.cell? (a.add 2) with
        | none => simp [h0, h1, h2] at h
        | some z =>
          simp [h0, h1, h2] at h
          exact ⟨x, y, z, h.symm, rfl, rfl, rfl⟩
  · simp at h

theorem add_at (b off i : Nat) : (⟨b, off, none⟩ : Addr).add i = ⟨b, off + i, none⟩ := by
  unfold Addr.add
  by_cases hz : i = 0 <;> simp [hz]

/-- a slice of places that is read -/
theorem open_places {H : Type} {enc : TypeId × Value → H} {w : World} {base fuel : Nat} {spare : Nat → Bool} {held : Bool} {v : Value} {x : DataW H × List MemPlace}
    (h : DataW.trod enc Tryz.prog w base spare held fuel 23 [v] = some x) : ∃ a c, ∃ l : List Pl, v = .slice a l.length c ∧ l.length ≤ maxLen ∧ SlP w a l := by
  rcases Go.Deep.open_slice Tryz.underlying23 h with ⟨hcs, _⟩ | ⟨a, len, cap, m, n, D, Pq, hcs, _, hle, hm, hmm, _, hel⟩
  · simp at hcs
    subst hcs
    exact ⟨none, 0, [], rfl, by simp, Or.inl rfl⟩
  · simp at hcs
    subst hcs
    have hlm : len ≤ m := by rw [hmm]; split <;> omega
    have hC : Tryz.prog.cellsOf 64 = 3 := by kernel_rfl
    have hI : Tryz.prog.cellsOf 3 = 1 := by kernel_rfl
    have key : ∀ i, i < len → ∃ q : Pl, w.cell? ((a.add (i * 3)).add 0) = some (.int .i64 q.1) ∧ w.cell? ((a.add (i * 3)).add 1) = some (.int .i64 q.2.1) ∧ w.cell? ((a.add (i * 3)).add 2) = some (.int .i64 q.2.2) := by
      intro i hi
      obtain ⟨cs', h1, h2⟩ := hel i (by omega)
      rw [hC] at h1
      obtain ⟨x, y, z, rfl, c0, c1, c2⟩ := cells3_of h1
      obtain ⟨y0, y1, y2, n', _, _, t0, t1, t2⟩ := Go.Deep.trod_struct3 Tryz.underlying64 h2
      simp [hI] at t0 t1 t2
      obtain ⟨q0, e0, _, _⟩ := DataW.trod_int Tryz.underlying3 t0
      obtain ⟨q1, e1, _, _⟩ := DataW.trod_int Tryz.underlying3 t1
      obtain ⟨q2, e2, _, _⟩ := DataW.trod_int Tryz.underlying3 t2
      simp at e0 e1 e2
      subst e0 e1 e2
      exact ⟨(q0, q1, q2), c0, c1, c2⟩
    obtain ⟨f, hf⟩ := Go.Deep.choose_lt key
    refine ⟨some a, cap, (List.range len).map f, by simp, by simp; omega, ?_⟩
    by_cases hz : len = 0
    · exact Or.inl (by simp [hz])
    · right
      have h0 := (hf 0 (by omega)).1
      obtain ⟨b, off, spot⟩ := a
      have hspot : spot = none := by simpa [Addr.add] using World.cell?_spot h0
      subst hspot
      have hb : b < w.heap.size := by
        have := World.block_lt_of_cell? w _ h0
        rw [add_at, add_at] at this
        exact this
      refine ⟨b, off, rfl, hb, fun i hi => ?_⟩
      have hi' : i < len := by simpa using hi
      have := hf i hi'
      rw [add_at, add_at, add_at, add_at] at this
      simpa using this

set_option maxRecDepth 100000 in
/-- a tree that came in -/
theorem open_tree {H : Type} {enc : TypeId × Value → H} {w : World} {r : Reach} {b0 base : Nat} {spare : Nat → Bool} {held : Bool} {v : Value} {d : DataW H} {p : List MemPlace}
    (hv : Value.okWide Tryz.prog w r b0 25 v) (h : DataW.Trod enc Tryz.prog w base spare held 25 v d p) : ∃ a c, ∃ l : List Pl, v = .agg #[.slice a l.length c] ∧ l.length ≤ maxLen ∧ SlP w a l := by
  obtain ⟨cs, rfl, hsz⟩ := okWide_struct Tryz.underlying25 hv
  have hC : Tryz.prog.cellsOf 25 = 1 := by kernel_rfl
  have hD : Tryz.prog.cellsOf 23 = 1 := by kernel_rfl
  rw [hC] at hsz
  obtain ⟨c0, rfl⟩ : ∃ c0, cs = #[c0] := by
    have h1 : cs.toList.length = 1 := by simpa using hsz
    obtain ⟨x, hx⟩ := List.length_eq_one_iff.1 h1
    exact ⟨x, by cases cs; simp_all⟩
  obtain ⟨fuel, hf⟩ := h
  obtain ⟨y0, n, _, _, h0⟩ := trod_struct1 Tryz.underlying25 hf
  simp [Value.cells, hD] at h0
  obtain ⟨a, c, l, rfl, h1, h2⟩ := open_places h0
  exact ⟨a, c, l, rfl, h1, h2⟩
end Go.Proofs.YthlhnokgcnieeadGreat

/- Operations and steps that came in as arguments. -/
namespace Go.Proofs.YthlhnokgcnieeadGreat
open Go.ChangeShapes Go.WideShapes Go.ChangeAt Go.RowKit
open Orangery (Pl Mv Stp)

theorem list7 {cs : List Value} (h : cs.length = 7) : ∃ a b c d e f g, cs = [a, b, c, d, e, f, g] := by
  match cs, h with
  | [a, b, c, d, e, f, g], _ => exact ⟨a, b, c, d, e, f, g, rfl⟩
theorem list11 {cs : List Value} (h : cs.length = 11) : ∃ a b c d e f g i j k l, cs = [a, b, c, d, e, f, g, i, j, k, l] := by
  match cs, h with
  | [a, b, c, d, e, f, g, i, j, k, l], _ => exact ⟨a, b, c, d, e, f, g, i, j, k, l, rfl⟩

set_option maxRecDepth 100000 in
theorem open_opC {H : Type} {enc : TypeId × Value → H} {w : World} {base fuel : Nat} {spare : Nat → Bool} {held : Bool} {cs : List Value} {x : DataW H × List MemPlace}
    (h : DataW.trod enc Tryz.prog w base spare held fuel 35 cs = some x) : ∃ o : Mv, cs = opC o := by
  obtain ⟨xs, n, _, _, hl, hlen, hf⟩ := DataW.trod_struct Tryz.underlying35 h
  have hC : Tryz.prog.cellsOf 35 = 7 := by kernel_rfl
  have hI : Tryz.prog.cellsOf 3 = 1 := by kernel_rfl
  have hT : Tryz.prog.cellsOf 33 = 2 := by kernel_rfl
  rw [hC] at hl
  obtain ⟨c0, c1, c2, c3, c4, c5, c6, rfl⟩ := list7 hl
  have hx : xs.length = 6 := hlen
  have g0 := hf 0 _ rfl
  have g1 := hf 1 _ rfl
  have g2 := hf 2 _ rfl
  have g3 := hf 3 _ rfl
  have g4 := hf 4 _ rfl
  have g5 := hf 5 _ rfl
  simp [hI, hT] at g0 g1 g2 g3 g4 g5
  rw [List.getElem?_eq_getElem (by omega)] at g0 g1 g2 g3 g4 g5
  obtain ⟨o3, e3, _, _⟩ := DataW.trod_int Tryz.underlying3 g1
  obtain ⟨o4, e4, _, _⟩ := DataW.trod_int Tryz.underlying3 g2
  obtain ⟨o5, e5, _, _⟩ := DataW.trod_int Tryz.underlying3 g3
  obtain ⟨o6, e6, _, _⟩ := DataW.trod_int Tryz.underlying3 g4
  obtain ⟨o7, e7, _, _⟩ := DataW.trod_int Tryz.underlying3 g5
  obtain ⟨y0, y1, n', _, _, t0, t1⟩ := trod_struct2 Tryz.underlying33 g0
  simp [hI] at t0 t1
  obtain ⟨o1, e1, _, _⟩ := DataW.trod_int Tryz.underlying3 t0
  obtain ⟨o2, e2, _, _⟩ := DataW.trod_int Tryz.underlying3 t1
  simp at e1 e2 e3 e4 e5 e6 e7
  subst e1 e2 e3 e4 e5 e6 e7
  exact ⟨(o1, o2, (o3, o4, o5), o6, o7), rfl⟩

set_option maxRecDepth 100000 in
/-- an operation that came in -/
theorem open_op {H : Type} {enc : TypeId × Value → H} {w : World} {r : Reach} {b0 base : Nat} {spare : Nat → Bool} {held : Bool} {v : Value} {d : DataW H} {p : List MemPlace}
    (hv : Value.okWide Tryz.prog w r b0 35 v) (h : DataW.Trod enc Tryz.prog w base spare held 35 v d p) : ∃ o : Mv, v = opV o := by
  obtain ⟨cs, rfl, hsz⟩ := okWide_struct Tryz.underlying35 hv
  obtain ⟨fuel, hf⟩ := h
  obtain ⟨o, ho⟩ := open_opC hf
  refine ⟨o, ?_⟩
  have : cs = (opC o).toArray := by rw [← ho]; simp [Value.cells]
  rw [this]
  rfl

set_option maxRecDepth 100000 in
theorem open_stC {H : Type} {enc : TypeId × Value → H} {w : World} {base fuel : Nat} {spare : Nat → Bool} {held : Bool} {cs : List Value} {x : DataW H × List MemPlace}
    (h : DataW.trod enc Tryz.prog w base spare held fuel 95 cs = some x) : ∃ s : Stp, cs = stC s := by
  obtain ⟨y0, y1, y2, n, _, hl, t0, t1, t2⟩ := Go.Deep.trod_struct3 Tryz.underlying95 h
  have hC : Tryz.prog.cellsOf 95 = 11 := by kernel_rfl
  have hO : Tryz.prog.cellsOf 35 = 7 := by kernel_rfl
  have hB : Tryz.prog.cellsOf 4 = 1 := by kernel_rfl
  have hP : Tryz.prog.cellsOf 64 = 3 := by kernel_rfl
  have hI : Tryz.prog.cellsOf 3 = 1 := by kernel_rfl
  rw [hC] at hl
  obtain ⟨c0, c1, c2, c3, c4, c5, c6, c7, c8, c9, c10, rfl⟩ := list11 hl
  simp [hO, hB, hP] at t0 t1 t2
  obtain ⟨o, ho⟩ := open_opC t0
  obtain ⟨b, hb, _⟩ := DataW.trod_bool Tryz.underlying4 t1
  obtain ⟨z0, z1, z2, n', _, _, q0, q1, q2⟩ := Go.Deep.trod_struct3 Tryz.underlying64 t2
  simp [hI] at q0 q1 q2
  obtain ⟨p1, e1, _, _⟩ := DataW.trod_int Tryz.underlying3 q0
  obtain ⟨p2, e2, _, _⟩ := DataW.trod_int Tryz.underlying3 q1
  obtain ⟨p3, e3, _, _⟩ := DataW.trod_int Tryz.underlying3 q2
  simp at e1 e2 e3 hb
  subst e1 e2 e3 hb
  simp [opC] at ho
  obtain ⟨rfl, rfl, rfl, rfl, rfl, rfl, rfl⟩ := ho
  exact ⟨(o, b, (p1, p2, p3)), rfl⟩

set_option maxRecDepth 100000 in
/-- a step that came in -/
theorem open_step {H : Type} {enc : TypeId × Value → H} {w : World} {r : Reach} {b0 base : Nat} {spare : Nat → Bool} {held : Bool} {v : Value} {d : DataW H} {p : List MemPlace}
    (hv : Value.okWide Tryz.prog w r b0 95 v) (h : DataW.Trod enc Tryz.prog w base spare held 95 v d p) : ∃ s : Stp, v = stV s := by
  obtain ⟨cs, rfl, hsz⟩ := okWide_struct Tryz.underlying95 hv
  obtain ⟨fuel, hf⟩ := h
  obtain ⟨o, ho⟩ := open_stC hf
  refine ⟨o, ?_⟩
  have : cs = (stC o).toArray := by rw [← ho]; simp [Value.cells]
  rw [this]
  rfl
end Go.Proofs.YthlhnokgcnieeadGreat

/- Slices of operations and histories that came in as arguments, and what they weigh. -/
namespace Go.Proofs.YthlhnokgcnieeadGreat
open Go.ChangeShapes Go.WideShapes Go.ChangeAt Go.RowKit
open Orangery (Pl Mv Stp)

/-- a slice of such elements that came in, with what it weighs -/
theorem open_slW {α : Type} [Inhabited α] {enc : α → List Value} {k : Nat} {H : Type} {en : TypeId × Value → H} {w : World} {base fuel : Nat} {spare : Nat → Bool} {held : Bool} {v : Value} {x : DataW H × List MemPlace} {t e : TypeId}
    (hk : ∀ x, (enc x).length = k) (hpos : 0 < k) (ht : Tryz.prog.underlying t = some (.slice e)) (hC : Tryz.prog.cellsOf e = k)
    (hel : ∀ (n : Nat) (cs : List Value) (y : DataW H × List MemPlace), DataW.trod en Tryz.prog w base spare held n e cs = some y → ∃ z : α, cs = enc z)
    (h : DataW.trod en Tryz.prog w base spare held fuel t [v] = some x) : ∃ a c, ∃ l : List α, v = .slice a l.length c ∧ l.length ≤ maxLen ∧ l.length ≤ c ∧ (c ≤ maxLen ∧ (a = none → c = 0)) ∧ SlE enc w a l ∧ (l = [] ∨ ∃ m, l.length ≤ m ∧ m * Tryz.prog.bytesOf e ∈ x.1.weights Tryz.prog t) := by
  rcases Go.Deep.open_slice ht h with ⟨hcs, _⟩ | ⟨a, len, cap, m, n, D, Pq, hcs, _, hle, hm, hmm, hxx, hx⟩
  · simp at hcs
    subst hcs
    exact ⟨none, 0, [], rfl, by simp, by simp, ⟨by simp, fun _ => rfl⟩, Or.inl rfl, Or.inl rfl⟩
  · simp at hcs
    subst hcs
    have hlm : len ≤ m := by rw [hmm]; split <;> omega
    have key : ∀ i, i < len → ∃ z : α, ∀ (j : Nat) (v : Value), (enc z)[j]? = some v → w.cell? ((a.add (i * k)).add j) = some v := by
      intro i hi
      obtain ⟨cs', h1, h2⟩ := hx i (by omega)
      rw [hC] at h1
      obtain ⟨z, rfl⟩ := hel _ _ _ h2
      exact ⟨z, (cells_range h1).2⟩
    obtain ⟨f, hf⟩ := Go.Deep.choose_lt key
    refine ⟨some a, cap, (List.range len).map f, by simp, by simp; omega, by simp; omega, ⟨hm, fun e => by simp at e⟩, ?_, Or.inr ⟨m, by simpa using hlm, ?_⟩⟩
    · by_cases hz : len = 0
      · exact Or.inl (by simp [hz])
      · right
        obtain ⟨u, hu⟩ : ∃ u, (enc (f 0))[0]? = some u := ⟨_, List.getElem?_eq_getElem (by rw [hk]; exact hpos)⟩
        have h0 := hf 0 (by omega) 0 u hu
        obtain ⟨b, off, spot⟩ := a
        have hspot : spot = none := by simpa [Addr.add] using World.cell?_spot h0
        subst hspot
        have hb : b < w.heap.size := by
          have := World.block_lt_of_cell? w _ h0
          rw [Addr.add_mid, Addr.add_mid] at this
          exact this
        refine ⟨b, off, rfl, hb, fun j v hv => ?_⟩
        have hj : j < len * k := by
          have := (List.getElem?_eq_some_iff.1 hv).1
          rw [flatE_len hk] at this
          simpa using this
        have hi : j / k < len := (Nat.div_lt_iff_lt_mul hpos).2 hj
        have hc : j % k < k := Nat.mod_lt _ hpos
        have e1 : j / k * k + j % k = j := by rw [Nat.mul_comm]; exact Nat.div_add_mod j k
        have e2 := flatE_get hk ((List.range len).map f) (j / k) (by simpa using hi) (j % k) hc
        rw [e1, hv] at e2
        have e3 := hf (j / k) hi (j % k) v (by simpa using e2.symm)
        rw [Addr.add_mid, Addr.add_mid] at e3
        rw [show off + j = off + j / k * k + j % k by omega]
        exact e3
    · subst hxx
      simp only [DataW.weights, ht]
      have e : ((List.range len).map D).length + ((List.range (m - len)).map fun j => D (len + j)).length = m := by simp; omega
      rw [e]
      exact List.mem_cons_self

set_option maxRecDepth 100000 in
/-- operations that came in -/
theorem open_ops {H : Type} {enc : TypeId × Value → H} {w : World} {r : Reach} {b0 base : Nat} {spare : Nat → Bool} {held : Bool} {v : Value} {d : DataW H} {p : List MemPlace}
    (hv : Value.okWide Tryz.prog w r b0 58 v) (h : DataW.Trod enc Tryz.prog w base spare held 58 v d p) : ∃ a c, ∃ l : List Mv, v = .slice a l.length c ∧ l.length ≤ maxLen ∧ l.length ≤ c ∧ SlE opC w a l := by
  obtain ⟨a', n', c', rfl⟩ := okWide_slice Tryz.underlying58 hv
  obtain ⟨fuel, hf⟩ := h
  obtain ⟨a, c, l, e, h1, h2, _, h3, _⟩ := open_slW opC_len (by omega) Tryz.underlying58 (by kernel_rfl) (fun n cs y hy => open_opC hy) hf
  exact ⟨a, c, l, e, h1, h2, h3⟩

set_option maxRecDepth 100000 in
/-- operations that came in, and the room behind them -/
theorem open_opsN {H : Type} {enc : TypeId × Value → H} {w : World} {r : Reach} {b0 base : Nat} {spare : Nat → Bool} {held : Bool} {v : Value} {d : DataW H} {p : List MemPlace}
    (hv : Value.okWide Tryz.prog w r b0 58 v) (h : DataW.Trod enc Tryz.prog w base spare held 58 v d p) : ∃ a c, ∃ l : List Mv, v = .slice a l.length c ∧ l.length ≤ maxLen ∧ l.length ≤ c ∧ c ≤ maxLen ∧ (a = none → c = 0) ∧ SlE opC w a l := by
  obtain ⟨a', n', c', rfl⟩ := okWide_slice Tryz.underlying58 hv
  obtain ⟨fuel, hf⟩ := h
  obtain ⟨a, c, l, e, h1, h2, ⟨h4, h5⟩, h3, _⟩ := open_slW opC_len (by omega) Tryz.underlying58 (by kernel_rfl) (fun n cs y hy => open_opC hy) hf
  exact ⟨a, c, l, e, h1, h2, h4, h5, h3⟩

set_option maxRecDepth 100000 in
/-- a history that came in -/
theorem open_hist {H : Type} {enc : TypeId × Value → H} {w : World} {r : Reach} {b0 base : Nat} {spare : Nat → Bool} {held : Bool} {v : Value} {d : DataW H} {p : List MemPlace}
    (hv : Value.okWide Tryz.prog w r b0 27 v) (h : DataW.Trod enc Tryz.prog w base spare held 27 v d p) :
    ∃ aL aT cL cT, ∃ (L : List Stp) (T : List Pl), v = hiV (.slice aL L.length cL) (.slice aT T.length cT) ∧ T.length ≤ maxLen ∧ SlE stC w aL L ∧ SlP w aT T ∧ (L = [] ∨ ∃ m, L.length ≤ m ∧ m * 88 ∈ d.weights Tryz.prog 27) := by
  obtain ⟨cs, rfl, hsz⟩ := okWide_struct Tryz.underlying27 hv
  have hC : Tryz.prog.cellsOf 27 = 2 := by kernel_rfl
  have hD : Tryz.prog.cellsOf 22 = 1 := by kernel_rfl
  have hE : Tryz.prog.cellsOf 25 = 1 := by kernel_rfl
  have hF : Tryz.prog.cellsOf 23 = 1 := by kernel_rfl
  have hby : Tryz.prog.bytesOf 95 = 88 := by kernel_rfl
  rw [hC] at hsz
  obtain ⟨c0, c1, rfl⟩ : ∃ c0 c1, cs = #[c0, c1] := by
    have h1 : cs.toList.length = 2 := by simpa using hsz
    cases cs with
    | mk l =>
      match l, h1 with
      | [x, y], _ => exact ⟨x, y, rfl⟩
  obtain ⟨fuel, hf⟩ := h
  obtain ⟨y0, y1, n, hd, _, h0, h1⟩ := trod_struct2 Tryz.underlying27 hf
  simp [Value.cells, hD, hE] at h0 h1
  obtain ⟨aL, cL, L, rfl, _, _, _, hL, hw⟩ := open_slW stC_len (by omega) Tryz.underlying22 (by kernel_rfl) (fun n cs y hy => open_stC hy) h0
  obtain ⟨z0, n', _, _, h2⟩ := trod_struct1 Tryz.underlying25 h1
  simp [hF] at h2
  obtain ⟨aT, cT, T, rfl, hT1, hT2⟩ := open_places h2
  refine ⟨aL, aT, cL, cT, L, T, rfl, hT1, hL, hT2, ?_⟩
  rcases hw with hw | ⟨m, hm, hw⟩
  · exact Or.inl hw
  · right
    refine ⟨m, hm, ?_⟩
    have e : d = .agg [y0.1, y1.1] := congrArg Prod.fst hd
    rw [e]
    rw [hby] at hw
    simp only [DataW.weights, Tryz.underlying27]
    exact DataW.weights_mem_each (j := 0) rfl rfl _ hw

theorem sized_hist {H : Type} {ts : List TypeId} {ds : List (DataW H)} (h : (DataW.weightsEach Tryz.prog ts ds).all (· ≤ reachBytes) = true) {j : Nat} {d : DataW H} (ht : ts[j]? = some 27) (hd : ds[j]? = some d) {L : List Stp}
    (hw : L = [] ∨ ∃ m, L.length ≤ m ∧ m * 88 ∈ d.weights Tryz.prog 27) : L.length * 88 ≤ 140737488351232 := by
  rcases hw with rfl | ⟨m, hm, hw⟩
  · simp
  · have := List.all_eq_true.1 h _ (DataW.weights_mem_each ht hd _ hw)
    have h2 : m * 88 ≤ reachBytes := by simpa using this
    unfold reachBytes at h2
    omega
end Go.Proofs.YthlhnokgcnieeadGreat

