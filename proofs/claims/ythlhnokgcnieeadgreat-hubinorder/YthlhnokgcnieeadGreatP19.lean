/- 5 texts of the proof: orangerylaw.HubInOrder: the walk. A tree that came in as an argument: which places it holds. Operations and steps that came in as arguments. Slices of operations and histories that came in as arguments, and what they weigh. Ints, places with the room behind them, and views that came in as arguments. -/
import Derived.Deep.Slices
import Derived.Deep.Strs
import Derived.ChangeOld
import Derived.SizedLaws
import Derived.Test.YthlhnokgcnieeadGreatP18
import Derived.Test.YthlhnokgcnieeadGreatP01
import Derived.Test.YthlhnokgcnieeadGreatP03
import Derived.Test.YthlhnokgcnieeadGreatP05
import Derived.Test.YthlhnokgcnieeadGreatP10
/- orangerylaw.HubInOrder: the walk. -/
namespace Go.Proofs.YthlhnokgcnieeadGreat
open Go.ChangeShapes Go.WideShapes Go.ChangeAt Go.RowKit
open Orangery (Pl Mv Stp Rc Pr Hb peerE peersE rootsOk hubE histE newHb prOf stepE stepH noHb insE insL insT checkRec nextE nextH orI ofE ofR ofK ofW runE runH replayE replayH noOp accL accH accG opsOfR foldE foldL foldT sameB)

/-- an array of three numbers -/
def Arr (W : World) (b : Nat) (f : Int → Int) : Prop := Blk W b [.int .i64 (f 0), .int .i64 (f 1), .int .i64 (f 2)]
theorem Arr.at {W : World} {b : Nat} {f : Int → Int} (h : Arr W b f) (k : Nat) (hk : k < 3) : W.cell? ⟨b, k, none⟩ = some (.int .i64 (f k)) := by
  match k, hk with
  | 0, _ => exact Blk.at h 0 rfl
  | 1, _ => exact Blk.at h 1 rfl
  | 2, _ => exact Blk.at h 2 rfl
theorem Arr.set {W : World} {b : Nat} {f g : Int → Int} (h : Arr W b f) (k : Nat) (hk : k < 3) (v : Int) (hg : ∀ i : Int, 0 ≤ i → i ≤ 2 → g i = if i = (k : Int) then v else f i) : Arr (W.setCell ⟨b, k, none⟩ (.int .i64 v)) b g := by
  have g0 := hg 0 (by omega) (by omega)
  have g1 := hg 1 (by omega) (by omega)
  have g2 := hg 2 (by omega) (by omega)
  unfold Arr
  match k, hk with
  | 0, _ => rw [g0, g1, g2]; exact Blk.set h 0 (by simp) _
  | 1, _ => rw [g0, g1, g2]; exact Blk.set h 1 (by simp) _
  | 2, _ => rw [g0, g1, g2]; exact Blk.set h 2 (by simp) _
theorem Arr.same {W : World} {b : Nat} {f g : Int → Int} (h : Arr W b f) (hg : ∀ i : Int, 0 ≤ i → i ≤ 2 → g i = f i) : Arr W b g := by
  unfold Arr
  rw [hg 0 (by omega) (by omega), hg 1 (by omega) (by omega), hg 2 (by omega) (by omega)]
  exact h
theorem Arr.keep {W W' : World} {b : Nat} {f : Int → Int} (h : Arr W b f) (hb : Below W.heap.size W W') : Arr W' b f := Blk.keep h hb
theorem Arr.grown {W W' : World} {b : Nat} {f : Int → Int} {row : Option Nat} (h : Arr W b f) (hg : W.grownBy W' row) (hne : some b ≠ row) : Arr W' b f := Blk.grown h hg hne
theorem Arr.other {W : World} {b g : Nat} {f : Int → Int} (h : Arr W b f) (hne : b ≠ g) (j : Nat) (v : Value) : Arr (W.setCell ⟨g, j, none⟩ v) b f := Blk.other h hne j v
theorem HuX.belowB {n B : Nat} {h : Hb} {w w' : World} {vs : List Value} (hx : HuX (· < n) h w vs) (hb : Below B w w') (hn : n ≤ B) : HuX (· < n) h w' vs := by
  obtain ⟨a, c, p, d, q, g, X, rfl, hx, hd⟩ := hx
  have hk : ∀ {α : Type} {a : Option Addr} {l : List α}, InL (· < n) a l → l = [] ∨ ∀ b off, a = some ⟨b, off, none⟩ → w'.heap[b]? = w.heap[b]? := by
    intro α a l h
    rcases h with h | h
    · exact Or.inl h
    · exact Or.inr (fun b off e => hb.block b (by have := h b off e; omega))
  have kE : ∀ {α : Type} {enc : α → List Value} {a : Option Addr} {l : List α}, SlE enc w a l → InL (· < n) a l → SlE enc w' a l := by
    intro α enc a l h1 h2
    rcases hk h2 with h3 | h3
    · exact Or.inl h3
    · exact h1.apartH hb.size (fun b off e _ => h3 b off e)
  refine ⟨a, c, p, d, q, g, X, rfl, ⟨kE hx.steps hd.steps, ?_, ⟨kE hx.peers.reads hd.peers, fun x hm => ⟨?_, (hx.peers.roots x hm).2⟩⟩, hx.are, hx.few1, hx.few2, hx.few3⟩, hd⟩
  · rcases hk hd.places with h3 | h3
    · exact Or.inl h3
    · exact hx.places.apartH hb.size (fun b off e _ => h3 b off e)
  · rcases hk (hd.roots x hm) with h3 | h3
    · exact Or.inl h3
    · exact (hx.peers.roots x hm).1.apartH hb.size (fun b off e _ => h3 b off e)
theorem ops_more (l : List Rc) (k : Nat) (hk : k < l.length) : opsOfR (l.take (k + 1)) = opsOfR (l.take k) ++ (if l[k].1 = 1 then [l[k].2.2.2.2] else []) := by
  rw [List.take_succ_eq_append_getElem hk, Orangery.opsOfR_app]
  congr 1
  unfold opsOfR
  by_cases h : l[k].1 = 1 <;> simp [h]
theorem ops_few (l : List Rc) : (opsOfR l).length ≤ l.length := by
  unfold opsOfR
  exact List.length_filterMap_le _ _

set_option maxHeartbeats 8000000 in
set_option maxRecDepth 100000 in
theorem hubInOrder_any (w : World) (a : Option Addr) (c : Nat) (X : List Rq) (hm : X.length ≤ maxLen) (hX : SlC w a X) :
    Calls Tryz.prog 5 #[.slice a X.length c] w fun e w' => e = .returned (.bool true) ∧ Below w.heap.size w w' := by
  obtain ⟨i0, hi, hz0, hz1, hz2⟩ := info_parts infoOp
  have hm' : X.length ≤ 9223372036854775807 := hm
  have HX := Lib.hid hX
  obtain ⟨l, hl⟩ : ∃ l, X.map (·.1) = l := ⟨_, rfl⟩
  have HAT : Hid (∀ k, (hk : k < X.length) → ∃ hp : k < l.length, l[k] = X[k].1) := fun k hk => rec_at hl k hk
  have HLL : Hid (X.length = l.length) := by show _ = _; rw [← hl]; simp
  have HC := Lib.hid (ureplay_any w a c X l hl hm hX)
  have HM := Lib.hid hm
  clear hX hl hm
  go_enter Tryz.func5, Tryz.ntmps5
  go_wp2_with fail
  refine HC.out.mono ?_
  rintro e w1 ⟨vs, rfl, hH, hb1⟩
  clear HC
  obtain ⟨a0, n0, c0, a1, n1, c1, a3, n3, c3, rfl⟩ := hH.four
  by_cases hz : replayE l = 0
  case neg =>
    have d1 : (replayE l != 0) = true := by simpa using hz
    clear hz hH
    generalize replayE l = RE at *
    generalize (replayH l).2.1 = RV at *
    have HB1 := Lib.hid hb1
    clear hb1
    go_wp2_with fail
    refine (accepted_any _).mono ?_
    rintro e w2 ⟨rfl, hb2⟩
    have HB2 := Lib.hid (HB1.out.trans (((Go.Joins.below_alloc1 w1 _).trans (hb2.mono (by simp))).mono HB1.out.size))
    clear hb2 HB1
    go_wp2_with fail
    refine (accepted_any _).mono ?_
    rintro e w3 ⟨rfl, hb3⟩
    have HB3 := Lib.hid (HB2.out.trans (hb3.mono HB2.out.size))
    clear hb3 HB2
    go_wp2
    go_ret
    exact ⟨rfl, HB3.out⟩
  have HREP : Hid (runE newHb l = 0 ∧ l.length ≤ 60 ∧ replayH l = runH newHb l) := by
    have hs : ¬ 60 < l.length := by
      intro hs
      rw [(replay_big hs).1] at hz
      omega
    exact ⟨by rw [← replay_small hs]; exact hz, by omega, replay_ok hz⟩
  rw [hz]
  clear hz
  have hlen60 : X.length ≤ 60 := by have := HREP.out.2.1; have := HLL.out; omega
  generalize hRH : replayH l = RH at *
  have HRH : Hid (RH = runH newHb l) := HREP.out.2.2
  clear hRH
  obtain ⟨W2, hW, hP2, hB2, -⟩ := laid1 w1 [Value.slice a0 n0 c0, .slice a1 n1 c1, .int .i64 RH.2.1, .slice a3 n3 c3] 30
  have hH2 := hH.keep hB2
  have HB2 := Lib.hid (hb1.trans (hB2.mono hb1.size))
  clear hb1 hB2 hH
  go_wp2_with fail
  clear hW
  refine (accepted_any W2).mono ?_
  rintro e w3 ⟨rfl, hb3⟩
  have hP3 := hP2.keep hb3
  have hH3 := hH2.keep hb3
  have HB3 := Lib.hid (HB2.out.trans (hb3.mono HB2.out.size))
  clear hb3 HB2 hP2 hH2
  obtain ⟨W4, hW, hL4, hS4, hB4, -⟩ := laid2 w3 [Value.int .i64 0, .int .i64 0, .int .i64 0] 57 [Value.int .i64 0, .int .i64 0, .int .i64 0] 57
  have hP4 := hP3.keep hB4
  have hH4 := hH3.keep hB4
  have HB4 := Lib.hid (HB3.out.trans (hB4.mono HB3.out.size))
  have hw3 : w.heap.size ≤ w3.heap.size := HB3.out.size
  have hb4 : w3.heap.size + 1 < W4.heap.size := hS4.lt
  have hP3l := hP3.lt
  have hH5 := (hH3.low.keep hB4)
  clear HB3 hP3 hH3 hB4 hH4
  generalize hq1 : w1.heap.size = B3 at *
  go_wp2
  clear hW
  have hB3l : B3 < W4.heap.size := hP4.lt
  have hB3n : B3 < w3.heap.size := hP3l
  go_loopw [26, 7] (fun i v W => ∃ (k : Nat), k ≤ X.length ∧ i = .int .i64 k ∧ OwnE opC 7 35 W W4.heap.size v (opsOfR (l.take k)) ∧ Arr W w3.heap.size (fun i => (prOf (runH newHb (l.take k)) i).1) ∧ Arr W (w3.heap.size + 1) (fun i => (prOf (runH newHb (l.take k)) i).2.1) ∧ HuX (· < w3.heap.size) RH W [Value.slice a0 n0 c0, .slice a1 n1 c1, .int .i64 RH.2.1, .slice a3 n3 c3] ∧ Blk W B3 [Value.slice a0 n0 c0, .slice a1 n1 c1, .int .i64 RH.2.1, .slice a3 n3 c3] ∧ Below w3.heap.size W4 W) (fun i _ _ => X.length - (intOf i).toNat)
  case atStart =>
    refine ⟨0, Nat.zero_le _, rfl, OwnE.nil _ _, ?_, ?_, hH5, hP4, Below.refl _ _⟩
    · exact hL4
    · exact hS4
  case round =>
    obtain ⟨k, hk, rfl, hO, hAl, hAs, hHr, hPr, hb⟩ := hrel
    have HBr := Lib.hid hb
    have HBw := Lib.hid (HB4.out.trans (hb.mono hw3))
    clear hL4 hS4 hH5 hP4 hb
    by_cases hlt : k < X.length
    case neg =>
      have hkl : l.take k = l := List.take_of_length_le (by have := HLL.out; omega)
      rw [hkl] at hO
      obtain ⟨e1, e2⟩ := Orangery.run_hist l HREP.out.1
      have e3 : RH.2.1 = (l.length : Int) := by rw [HRH.out, Orangery.run_version]; simp [newHb]
      have HF : Hid (foldE (opsOfR l) = 0 ∧ RH.1.1 = foldL (opsOfR l) ∧ RH.1.2 = foldT (opsOfR l) ∧ RH.2.1 = (X.length : Int)) := ⟨e1, by rw [HRH.out, e2], by rw [HRH.out, e2], by rw [e3, HLL.out]⟩
      have hof := ops_few l
      have hL60 : (opsOfR l).length ≤ 60 := by have := HREP.out.2.1; omega
      obtain ⟨aO, cO, rfl, hOr, hOc⟩ := hO.val
      clear e1 e2 e3 hAl hAs hO hkl hof
      generalize opsOfR l = O at *
      go_wp2_with fail
      refine (fold_any wr aO cO O (by unfold maxLen; omega) hOc hOr).mono ?_
      rintro e w5 hfo
      obtain ⟨us, rfl, hU, hb5⟩ := folds_gives 0 hfo
      rw [HF.out.1]
      obtain ⟨uL, dL, uT, dT, rfl, hUL, hUT, -, -⟩ := hU
      rw [← HF.out.2.1] at hUL
      rw [← HF.out.2.2.1] at hUT
      have HUL := Lib.hid hUL
      have HUT := Lib.hid hUT
      rw [← HF.out.2.1, ← HF.out.2.2.1]
      have HH5 := Lib.hid (hHr.keep hb5)
      have hP5 := hPr.keep hb5
      have HB5 := Lib.hid (HBw.out.trans (hb5.mono HBw.out.size))
      obtain ⟨b0, m0, b1, m1, b3, m3, Y, hvs, hat, -⟩ := HH5.out
      simp only [List.cons.injEq, Value.slice.injEq, true_and, and_true] at hvs
      obtain ⟨⟨rfl, rfl, rfl⟩, ⟨rfl, rfl, rfl⟩, rfl, rfl, rfl⟩ := hvs
      have HAT5 := Lib.hid hat
      clear hfo hUL hUT hHr hPr hb5 HH5 HBr HBw hOr hOc hat
      obtain ⟨W6, hW, hN6, hB6, -⟩ := laid1 w5 [Value.slice uL RH.1.1.length dL, .slice uT RH.1.2.length dT] 27
      have hP6 := hP5.keep hB6
      have HB6 := Lib.hid (HB5.out.trans (hB6.mono HB5.out.size))
      have y0 := hN6.at 0 rfl
      have y1 := hN6.at 1 rfl
      have z0 := hP6.at 0 rfl
      have z1 := hP6.at 1 rfl
      have CS : Hid (Calls Tryz.prog 22 #[hiV (.slice uL RH.1.1.length dL) (.slice uT RH.1.2.length dT), hiV (.slice a0 RH.1.1.length c0) (.slice a1 RH.1.2.length c1)] W6 fun e w' => e = .returned (.bool true) ∧ Below W6.heap.size W6 w') := by
        have hc := same_any W6 uL a0 uT a1 dL c0 dT c1 RH.1.1 RH.1.1 RH.1.2 RH.1.2 (by have := HAT5.out.few1; unfold maxLen; omega) HAT5.out.few2 (HUL.out.below hB6) (HAT5.out.keep hB6).steps (HUT.out.below hB6) (HAT5.out.keep hB6).places
        rw [(Orangery.sameB_iff _ _ _ _).2 ⟨rfl, rfl⟩] at hc
        exact hc
      have d9 : (RH.2.1 == (X.length : Int)) = true := by simp [HF.out.2.2.2]
      clear hP5 hB6 HB5 hN6
      go_wp2_with fail
      refine CS.out.mono ?_
      rintro e w7 ⟨rfl, hb7⟩
      have hP7 := hP6.keep hb7
      have HB7 := Lib.hid (HB6.out.trans (hb7.mono HB6.out.size))
      have z2 := hP7.at 2 rfl
      clear hP6 HB6 hb7 y0 y1 z0 z1 hP7 CS hW
      go_wp2
      go_ret
      exact ⟨rfl, HB7.out⟩
    obtain ⟨hp, hpe⟩ := HAT.out k hlt
    obtain ⟨hn1, hn2⟩ := Orangery.run_at HREP.out.1 k hp
    rw [hpe] at hn1 hn2
    have HOM : Hid (opsOfR (l.take (k + 1)) = opsOfR (l.take k) ++ (if X[k].1.1 = 1 then [X[k].1.2.2.2.2] else [])) := by show _ = _; rw [ops_more l k hp, hpe]
    have hof : (opsOfR (l.take k)).length ≤ 60 := by have h1 := ops_few (l.take k); rw [List.length_take] at h1; have := HREP.out.2.1; omega
    have hXr := HX.out.keep HBw.out
    obtain ⟨bx, ox, rfl, hbx, hrx⟩ := hXr.reads.at rqC_len k hlt
    obtain ⟨g0, g1, g2, g3, g4, g5, g6, g7, g8, g9, g10⟩ := rqC_cells hrx
    have HN1 := Lib.hid hn1
    have HN2 := Lib.hid hn2
    clear hrx hXr hpe hn1 hn2
    have HNEXT : Hid (∀ (v : Value) (W : World), OwnE opC 7 35 W W4.heap.size v (opsOfR (l.take (k + 1))) → Arr W w3.heap.size (fun i => (prOf (stepH (runH newHb (l.take k)) X[k].1) i).1) → Arr W (w3.heap.size + 1) (fun i => (prOf (stepH (runH newHb (l.take k)) X[k].1) i).2.1) → HuX (· < w3.heap.size) RH W [Value.slice a0 n0 c0, .slice a1 n1 c1, .int .i64 RH.2.1, .slice a3 n3 c3] → Blk W B3 [Value.slice a0 n0 c0, .slice a1 n1 c1, .int .i64 RH.2.1, .slice a3 n3 c3] → Below w3.heap.size W4 W →
        ∃ (k' : Nat), k' ≤ X.length ∧ Value.int .i64 ((k : Int) + 1) = .int .i64 k' ∧ OwnE opC 7 35 W W4.heap.size v (opsOfR (l.take k')) ∧ Arr W w3.heap.size (fun i => (prOf (runH newHb (l.take k')) i).1) ∧ Arr W (w3.heap.size + 1) (fun i => (prOf (runH newHb (l.take k')) i).2.1) ∧ HuX (· < w3.heap.size) RH W [Value.slice a0 n0 c0, .slice a1 n1 c1, .int .i64 RH.2.1, .slice a3 n3 c3] ∧ Blk W B3 [Value.slice a0 n0 c0, .slice a1 n1 c1, .int .i64 RH.2.1, .slice a3 n3 c3] ∧ Below w3.heap.size W4 W) := by
      intro v W h1 h2 h3 h4 h5 h6
      exact ⟨k + 1, hlt, rfl, h1, by rw [HN2.out]; exact h2, by rw [HN2.out]; exact h3, h4, h5, h6⟩
    clear HN2
    generalize runH newHb (l.take k) = H at *
    generalize opsOfR (l.take (k + 1)) = O' at *
    generalize opsOfR (l.take k) = O at *
    generalize X[k] = x at *
    obtain ⟨⟨q1, q2, q3, q4, ⟨o1, o2, ⟨o3, o4, o5⟩, o6, o7⟩⟩, ar, cr⟩ := x
    simp only at g0 g1 g2 g3 g4 g5 g6 g7 g8 g9 g10 HOM HN1 HNEXT
    have hlti : (k : Int) < (X.length : Int) := by omega
    obtain ⟨W5, hW, hR5, hB5, -⟩ := laid1 wr (rcL q1 q2 q3 (.slice ar q4.length cr) (o1, o2, (o3, o4, o5), o6, o7)) 37
    change (wr.alloc (Obj.cells #[Value.int IntKind.i64 q1, .int .i64 q2, .int .i64 q3, .slice ar q4.length cr, .int .i64 o1, .int .i64 o2, .int .i64 o3, .int .i64 o4, .int .i64 o5, .int .i64 o6, .int .i64 o7] 37)) = W5 at hW
    have u0 := hR5.at 0 rfl
    have u1 := hR5.at 1 rfl
    have u2 := hR5.at 2 rfl
    have hO5 := hO.keep hB5
    have hAl5 : Arr W5 w3.heap.size (fun i => (prOf H i).1) := Blk.keep hAl hB5
    have hAs5 : Arr W5 (w3.heap.size + 1) (fun i => (prOf H i).2.1) := Blk.keep hAs hB5
    have hH5 := hHr.keep hB5
    have hP5 := hPr.keep hB5
    have HB5 : Hid (Below w3.heap.size W4 W5) := HBr.out.trans (hB5.mono (by have := Blk.lt hAs; omega))
    have hwr : w3.heap.size + 1 < wr.heap.size := Blk.lt hAs
    clear hO hAl hAs hHr hPr hB5 HBr
    have HOK := Lib.hid (Orangery.next_ok HN1.out).1
    by_cases hk2 : q1 = 2
    · subst hk2
      obtain ⟨hw, hlf, hst⟩ := Orangery.order_life HN1.out rfl
      try simp only at hw
      try simp only at hlf
      try simp only at hst
      obtain ⟨j, rfl⟩ : ∃ j : Nat, q2 = (j : Int) := ⟨q2.toNat, by omega⟩
      have hj3 : j < 3 := by omega
      obtain ⟨b1, b2, -, -⟩ := pr_bounds HOK.out hj3
      have HST := Lib.hid hst
      have d1 : (q3 != (prOf H j).1 + 1) = false := by simp [hlf]
      have HOE : Hid (O' = O) := by show _ = _; rw [HOM.out]; simp
      have cl := hAl5.at j hj3
      have cs := hAs5.at j hj3
      try simp only at cl
      try simp only at cs
      have hjlt : (j : Int) < 3 := by omega
      clear hst hlf hw HN1 HOM
      go_wp2
      clear hW g0 g1 g2 g3 g4 g5 g6 g7 g8 g9 g10
      have HWs : Hid (w3.heap.size ≤ W5.heap.size) := by have := Blk.lt hAs5; show _ ≤ _; omega
      go_quiet (fail)
      have hDq : Below W5.heap.size W5 (W5.drewN nq) := below_drewN_any _ _ _
      change (W5.drewN nq).cell? _ = _ at u0
      change (W5.drewN nq).cell? _ = _ at u1
      change (W5.drewN nq).cell? _ = _ at u2
      change (W5.drewN nq).cell? _ = _ at cl
      change (W5.drewN nq).cell? _ = _ at cs
      replace hR5 := hR5.keep hDq
      replace hO5 := hO5.keep hDq
      replace hAl5 := hAl5.keep hDq
      replace hAs5 := hAs5.keep hDq
      replace hH5 := hH5.keep hDq
      replace hP5 := hP5.keep hDq
      have HB6 := Lib.hid (HB5.out.trans (hDq.mono HWs.out))
      clear hDq
      generalize W5.drewN nq = W6 at *
      clear nq
      go_upto_region 13 with fail
      refine wp_region_held_drew (S := fun w' => w'.cell? ⟨wr.heap.size, 1, none⟩ = some (.int .i64 j) ∧ w'.cell? ⟨wr.heap.size, 2, none⟩ = some (.int .i64 q3)) (by kernel_rfl) ⟨u1, u2⟩ (fun hHeld => ?_)
      refine take_yes 0 42 (v := ?_) rfl rfl (by kernel_rfl) (by kernel_rfl) (by kernel_rfl) (fun _ _ _ h => h) (by rfl) ?_ hHeld ?_
      rotate_left 1
      · (intro w hSw; obtain ⟨s1, s2⟩ := hSw; go_simp; try with_reducible rfl)
      simp only [Act.put, List.setIfInBounds_toArray, List.set_cons_succ, List.set_cons_zero]
      refine take_yes 1 43 (v := ?_) rfl rfl (by kernel_rfl) (by kernel_rfl) (by kernel_rfl) (fun _ _ _ h => h) (by rfl) ?_ hHeld ?_
      rotate_left 1
      · (intro w hSw; obtain ⟨s1, s2⟩ := hSw; go_simp; try with_reducible rfl)
      simp only [Act.put, List.setIfInBounds_toArray, List.set_cons_succ, List.set_cons_zero]
      refine take_yes 2 44 (v := ?_) rfl rfl (by kernel_rfl) (by kernel_rfl) (by kernel_rfl) (fun _ _ _ h => h) (by rfl) ?_ hHeld ?_
      rotate_left 1
      · (intro w hSw; obtain ⟨s1, s2⟩ := hSw; go_simp; try with_reducible rfl)
      simp only [Act.put, List.setIfInBounds_toArray, List.set_cons_succ, List.set_cons_zero]
      refine take_yes 3 45 (v := ?_) rfl rfl (by kernel_rfl) (by kernel_rfl) (by kernel_rfl) (fun _ _ _ h => h) (by rfl) ?_ hHeld ?_
      rotate_left 1
      · (intro w hSw; obtain ⟨s1, s2⟩ := hSw; go_simp; try with_reducible rfl)
      simp only [Act.put, List.setIfInBounds_toArray, List.set_cons_succ, List.set_cons_zero]
      refine take_yes 4 46 (v := ?_) rfl rfl (by kernel_rfl) (by kernel_rfl) (by kernel_rfl) (fun _ _ _ h => h) (by rfl) ?_ hHeld ?_
      rotate_left 1
      · (intro w hSw; obtain ⟨s1, s2⟩ := hSw; go_simp; try with_reducible rfl)
      simp only [Act.put, List.setIfInBounds_toArray, List.set_cons_succ, List.set_cons_zero]
      refine take_yes 5 47 (v := ?_) rfl rfl (by kernel_rfl) (by kernel_rfl) (by kernel_rfl) (fun _ _ _ h => h) (by rfl) ?_ hHeld ?_
      rotate_left 1
      · (intro w hSw; obtain ⟨s1, s2⟩ := hSw; go_simp; try with_reducible rfl)
      simp only [Act.put, List.setIfInBounds_toArray, List.set_cons_succ, List.set_cons_zero]
      refine take_yes 6 48 (v := ?_) rfl rfl (by kernel_rfl) (by kernel_rfl) (by kernel_rfl) (fun _ _ _ h => h) (by rfl) ?_ hHeld ?_
      rotate_left 1
      · (intro w hSw; obtain ⟨s1, s2⟩ := hSw; go_simp; try with_reducible rfl)
      simp only [Act.put, List.setIfInBounds_toArray, List.set_cons_succ, List.set_cons_zero]
      have hDd : Below W6.heap.size W6 W6.drew := (Below.refl _ W6).drew
      have hR6 := hR5.keep hDd
      have hO6 := hO5.keep hDd
      have hAl6 := hAl5.keep hDd
      have hAs6 := hAs5.keep hDd
      have hH6 := hH5.keep hDd
      have hP6 := hP5.keep hDd
      have HB7 := Lib.hid HB6.out.drew
      have cl6 := hAl6.at j hj3
      have fz6 := Blk.frz hAl6 j
      clear hR5 hO5 hAl5 hAs5 hH5 hP5 HB6 hDd u0 cl cs
      generalize W6.drew = W7 at *
      have hR7 := hR6.other (by omega : wr.heap.size ≠ w3.heap.size) j (.int .i64 q3)
      refine wpAnyH_ready (rs := [7]) (by kernel_rfl) (by simp) ?_
      refine AllReadyH.cons rfl (fun KK hKK => ?_) AllReadyH.nil
      go_simp
      refine hKK.out _ _ (⟨hR7.at 1 rfl, hR7.at 2 rfl⟩) (fun hHeld => ?_)
      clear hKK KK
      refine take_yes 8 49 (v := ?_) rfl rfl (by kernel_rfl) (by kernel_rfl) (by kernel_rfl) (fun _ _ _ h => h) (by rfl) ?_ hHeld ?_
      rotate_left 1
      · (intro w hSw; obtain ⟨s1, s2⟩ := hSw; go_simp; try with_reducible rfl)
      simp only [Act.put, List.setIfInBounds_toArray, List.set_cons_succ, List.set_cons_zero]
      have hO7 := OwnE.other hO6 w3.heap.size (by omega) j (.int .i64 q3)
      have hAl7 := hAl6.set j hj3 q3 (g := fun i => (prOf (stepH H (2, (j : Int), q3, q4, (o1, o2, (o3, o4, o5), o6, o7))) i).1) (fun i h0 h2 => by show _ = _; rw [HST.out i h0 h2]; split <;> rfl)
      have hAs7 := hAs6.other (by omega : w3.heap.size + 1 ≠ w3.heap.size) j (.int .i64 q3)
      have hH7 : HuX (· < w3.heap.size) RH (W7.setCell ⟨w3.heap.size, j, none⟩ (.int .i64 q3)) _ := hH6.sets w3.heap.size (fun b hb => by omega) [.int .i64 q3] j
      have hP7 := hP6.other (by omega : B3 ≠ w3.heap.size) j (.int .i64 q3)
      have HB8 : Hid (Below w3.heap.size W4 (W7.setCell ⟨w3.heap.size, j, none⟩ (.int .i64 q3))) := below_sets HB7.out w3.heap.size (Nat.le_refl _) [.int .i64 q3] j
      have cs7 := hAs7.at j hj3
      have fz7 := Blk.frz hAs7 j
      clear hO6 hAl6 hAs6 hH6 hP6 HB7 hR6 cl6 fz6
      generalize W7.setCell ⟨w3.heap.size, j, none⟩ (.int .i64 q3) = W8 at *
      have hR8 := hR7.other (by omega : wr.heap.size ≠ w3.heap.size + 1) j (.int .i64 0)
      refine wpAnyH_ready (rs := [9]) (by kernel_rfl) (by simp) ?_
      refine AllReadyH.cons rfl (fun KK hKK => ?_) AllReadyH.nil
      go_simp
      refine hKK.out _ _ (⟨hR8.at 1 rfl, hR8.at 2 rfl⟩) (fun hHeld => ?_)
      clear hKK KK
      refine wpAnyH_done (by kernel_rfl) ?_ _
      have hO8 := OwnE.other hO7 (w3.heap.size + 1) (by omega) j (.int .i64 0)
      have hAs8 := hAs7.set j hj3 0 (g := fun i => (prOf (stepH H (2, (j : Int), q3, q4, (o1, o2, (o3, o4, o5), o6, o7))) i).2.1) (fun i h0 h2 => by show _ = _; rw [HST.out i h0 h2]; split <;> rfl)
      have hAl8 := hAl7.other (by omega : w3.heap.size ≠ w3.heap.size + 1) j (.int .i64 0)
      have hH8 : HuX (· < w3.heap.size) RH (W8.setCell ⟨w3.heap.size + 1, j, none⟩ (.int .i64 0)) _ := hH7.sets (w3.heap.size + 1) (fun b hb => by omega) [.int .i64 0] j
      have hP8 := hP7.other (by omega : B3 ≠ w3.heap.size + 1) j (.int .i64 0)
      have HB9 : Hid (Below w3.heap.size W4 (W8.setCell ⟨w3.heap.size + 1, j, none⟩ (.int .i64 0))) := below_sets HB8.out (w3.heap.size + 1) (by omega) [.int .i64 0] j
      rw [← HOE.out] at hO8
      have HEND := Lib.hid (HNEXT.out _ _ hO8 hAl8 hAs8 hH8 hP8 HB9.out)
      clear hO7 hAl7 hAs7 hH7 hP7 HB8 hR7 cs7 fz7 hO8 hAl8 hAs8 hH8 hP8 HB9 hHeld hR8
      generalize W8.setCell ⟨w3.heap.size + 1, j, none⟩ (.int .i64 0) = W9 at *
      go_wp2
      go_roundw
      case rel => exact HEND.out
      case measure => simp [intOf]; omega
    by_cases hk1 : q1 = 1
    · subst hk1
      obtain ⟨hw, hlf, hsq, hst⟩ := Orangery.order_op HN1.out rfl
      try simp only at hw
      try simp only at hlf
      try simp only at hsq
      try simp only at hst
      obtain ⟨j, rfl⟩ : ∃ j : Nat, o2 = (j : Int) := ⟨o2.toNat, by omega⟩
      have hj3 : j < 3 := by omega
      obtain ⟨b1, b2, b3, b4⟩ := pr_bounds HOK.out hj3
      have HST := Lib.hid hst
      have d1 : (o6 != (prOf H j).1) = false := by simp [hlf]
      have d2 : (o7 != (prOf H j).2.1 + 1) = false := by simp [hsq]
      have HOE : Hid (O' = O ++ [(o1, (j : Int), (o3, o4, o5), o6, o7)]) := by show _ = _; rw [HOM.out]; simp
      have cs := hAs5.at j hj3
      have fz := Blk.frz hAs5 j
      have cl := hAl5.at j hj3
      try simp only at cl
      try simp only at cs
      have u5 := hR5.at 5 rfl
      have hjlt : (j : Int) < 3 := by omega
      have hO6 := OwnE.other hO5 (w3.heap.size + 1) (by omega) j (.int .i64 ((prOf H j).2.1 + 1))
      have hAs6 := hAs5.set j hj3 ((prOf H j).2.1 + 1) (g := fun i => (prOf (stepH H (1, q2, q3, q4, (o1, (j : Int), (o3, o4, o5), o6, o7))) i).2.1) (fun i h0 h2 => by show _ = _; rw [HST.out i h0 h2]; split <;> rfl)
      have hAl6 := (hAl5.other (by omega : w3.heap.size ≠ w3.heap.size + 1) j (.int .i64 ((prOf H j).2.1 + 1))).same (g := fun i => (prOf (stepH H (1, q2, q3, q4, (o1, (j : Int), (o3, o4, o5), o6, o7))) i).1) (fun i h0 h2 => by show _ = _; rw [HST.out i h0 h2]; by_cases e : i = (j : Int); (rw [if_pos e, e]); (rw [if_neg e]))
      have hH6 : HuX (· < w3.heap.size) RH (W5.setCell ⟨w3.heap.size + 1, j, none⟩ (.int .i64 ((prOf H j).2.1 + 1))) _ := hH5.sets (w3.heap.size + 1) (fun b hb => by omega) [.int .i64 ((prOf H j).2.1 + 1)] j
      have hP6 := hP5.other (by omega : B3 ≠ w3.heap.size + 1) j (.int .i64 ((prOf H j).2.1 + 1))
      have hR6 := hR5.other (by omega : wr.heap.size ≠ w3.heap.size + 1) j (.int .i64 ((prOf H j).2.1 + 1))
      have HB6 : Hid (Below w3.heap.size W4 (W5.setCell ⟨w3.heap.size + 1, j, none⟩ (.int .i64 ((prOf H j).2.1 + 1)))) := below_sets HB5.out (w3.heap.size + 1) (by omega) [.int .i64 ((prOf H j).2.1 + 1)] j
      have hsj := hAs6.at j hj3
      have hlj := hAl6.at j hj3
      have e1 : (prOf (stepH H (1, q2, q3, q4, (o1, (j : Int), (o3, o4, o5), o6, o7))) (j : Int)).2.1 = (prOf H j).2.1 + 1 := by rw [HST.out _ (by omega) (by omega), if_pos rfl]
      have e2 : (prOf (stepH H (1, q2, q3, q4, (o1, (j : Int), (o3, o4, o5), o6, o7))) (j : Int)).1 = (prOf H j).1 := by rw [HST.out _ (by omega) (by omega), if_pos rfl]
      try simp only at hsj
      try simp only at hlj
      rw [e1] at hsj
      rw [e2] at hlj
      clear hst hlf hsq hw HN1 HOM e1 e2 hO5 hAl5 hAs5 hH5 hP5 HB5
      go_wp2
      clear hW g0 g1 g2 g3 g4 g5 g6 g7 g8 g9 g10 u0 u1 u2 u5 cs cl fz
      generalize W5.setCell ⟨w3.heap.size + 1, j, none⟩ (.int .i64 ((prOf H j).2.1 + 1)) = W6 at *
      have u9 := hR6.at 9 rfl
      have u10 := hR6.at 10 rfl
      have HWs : Hid (w3.heap.size ≤ W6.heap.size) := by have := Blk.lt hAs6; show _ ≤ _; omega
      go_quiet (fail)
      have hDq : Below W6.heap.size W6 (W6.drewN nq) := below_drewN_any _ _ _
      change (W6.drewN nq).cell? _ = _ at u9
      change (W6.drewN nq).cell? _ = _ at u10
      change (W6.drewN nq).cell? _ = _ at hsj
      change (W6.drewN nq).cell? _ = _ at hlj
      replace hR6 := hR6.keep hDq
      replace hO6 := hO6.keep hDq
      replace hAl6 := hAl6.keep hDq
      replace hAs6 := hAs6.keep hDq
      replace hH6 := hH6.keep hDq
      replace hP6 := hP6.keep hDq
      have HB7 := Lib.hid (HB6.out.trans (hDq.mono HWs.out))
      clear hDq
      generalize W6.drewN nq = W7 at *
      clear nq
      clear u9 u10 hsj hlj
      obtain ⟨aO, cO, rfl, -, hOc⟩ := OwnE.val hO6
      obtain ⟨W8, hW8, hN, hB8, -⟩ := laid1 W7 [Value.int IntKind.i64 o1, .int .i64 j, .int .i64 o3, .int .i64 o4, .int .i64 o5, .int .i64 o6, .int .i64 o7] 35
      have hown : W8.ownsRow W4.heap.size 35 7 (.slice aO O.length cO) O.length (O.flatMap opC) := OwnE.keep hO6 hB8
      have hAl8 := hAl6.keep hB8
      have hAs8 := hAs6.keep hB8
      have hH8 := hH6.keep hB8
      have hP8 := hP6.keep hB8
      have hA7l := Blk.lt hAs6
      have HB8 : Hid (Below w3.heap.size W4 W8) := HB7.out.trans (hB8.mono (by omega))
      have HN := Lib.hid hN
      have m4 := hR6.at 4 rfl
      have m5 := hR6.at 5 rfl
      have m6 := hR6.at 6 rfl
      have m7 := hR6.at 7 rfl
      have m8 := hR6.at 8 rfl
      have m9 := hR6.at 9 rfl
      have m10 := hR6.at 10 rfl
      have hsz8 : W4.heap.size ≤ W8.heap.size := HB8.out.size
      have hgb : ∀ g, (Value.slice aO O.length cO).ownBlock = some g → W4.heap.size ≤ g := fun g hg => (hown.lt g hg).1
      have HGB := Lib.hid hgb
      clear hO6 hAl6 hAs6 hH6 hP6 HB7 hR6 hN hB8 hgb
      go_wp2_with (at_builtin; refine wpList_append_own _ rfl _ _ 58 rfl W4.heap.size 35 i0 _ 7 56 Tryz.underlying58 hi hz0 hz1 hz2 rfl (by decide) _ _ _ rfl hown ⟨W7.heap.size, 0, none⟩ 1 1 [Value.int IntKind.i64 o1, .int .i64 j, .int .i64 o3, .int .i64 o4, .int .i64 o5, .int .i64 o6, .int .i64 o7] rfl rfl ?c1 ?c2 ?c3 ?c4 ?c5 ?_)
      case c1 => intro j' u hj; first | exact HN.out.at j' hj | (rw [Addr.add_mid, Nat.zero_add]; exact HN.out.at j' hj)
      case c2 => first | exact ⟨rfl, rfl, rfl, rfl, rfl, rfl, rfl⟩ | exact opC_one (o1, (j : Int), (o3, o4, o5), o6, o7)
      case c3 => unfold maxLen; omega
      case c4 => omega
      intro v9 w9 hown' hgrow _
      have hO9 : OwnE opC 7 35 w9 W4.heap.size v9 O' := by
        rw [HOE.out]
        show World.ownsRow _ _ _ _ _ _ _
        simpa [opC] using hown'
      have hAl9 := hAl8.grown hgrow (by intro e; have := HGB.out _ e.symm; omega)
      have hAs9 := hAs8.grown hgrow (by intro e; have := HGB.out _ e.symm; omega)
      have hP9 := hP8.grown hgrow (by intro e; have := HGB.out _ e.symm; omega)
      have hb9 : Below W4.heap.size W8 w9 := below_grown hown hsz8 hgrow
      have hH9 := hH8.belowB hb9 (by omega)
      have HB9 : Hid (Below w3.heap.size W4 w9) := HB8.out.trans (hb9.mono (by omega))
      have HEND := Lib.hid (HNEXT.out _ _ hO9 hAl9 hAs9 hH9 hP9 HB9.out)
      clear hown hown' hgrow hO9 hAl9 hAs9 hP9 hH9 HB9 hb9 hAl8 hAs8 hH8 hP8 HB8 m4 m5 m6 m7 m8 m9 m10 hW8
      go_wp2
      go_roundw
      case rel => exact HEND.out
      case measure => simp [intOf]; omega
    · have e2 : (q1 == 2) = false := by simpa using hk2
      have e1 : (q1 == 1) = false := by simpa using hk1
      have hst := Orangery.order_roots HN1.out hk1 hk2
      have HOE : Hid (O' = O) := by show _ = _; rw [HOM.out]; simp [hk1]
      rw [← HOE.out] at hO5
      have HEND := Lib.hid (HNEXT.out _ _ hO5 (hAl5.same (fun i h0 h2 => (hst i h0 h2).1)) (hAs5.same (fun i h0 h2 => (hst i h0 h2).2)) hH5 hP5 HB5.out)
      clear hO5 hAl5 hAs5 hH5 hP5 HB5 hst HN1 HOM hk1 hk2
      go_wp2
      go_roundw
      case rel => exact HEND.out
      case measure => simp [intOf]; omega
end Go.Proofs.YthlhnokgcnieeadGreat

/- A tree that came in as an argument: which places it holds. -/
namespace Go.Proofs.YthlhnokgcnieeadGreat
open Go.ChangeShapes Go.WideShapes Go.ChangeAt Go.RowKit
open Orangery (Pl)

theorem cells3_of {w : World} {base : Nat} {a : Addr} {cs : List Value} (h : w.cells? base a 3 = some cs) :
    ∃ x y z, cs = [x, y, z] ∧ w.cell? (a.add 0) = some x ∧ w.cell? (a.add 1) = some y ∧ w.cell? (a.add 2) = some z := by
  unfold World.cells? at h
  split at h
  · simp only [show List.range 3 = [0, 1, 2] from rfl, List.mapM_cons, List.mapM_nil] at h
    cases h0 : w.cell? (a.add 0) with
    | none => simp [h0] at h
    | some x =>
      cases h1 : w.cell? (a.add 1) with
      | none => simp [h0, h1] at h
      | some y =>
        cases h2 : w.cell? (a.add 2) with
        | none => simp [h0, h1, h2] at h
        | some z =>
          simp [h0, h1, h2] at h
          exact ⟨x, y, z, h.symm, rfl, rfl, rfl⟩
  · simp at h

theorem add_at (b off i : Nat) : (⟨b, off, none⟩ : Addr).add i = ⟨b, off + i, none⟩ := by
  unfold Addr.add
  by_cases hz : i = 0 <;> simp [hz]

/-- a slice of places that is read -/
theorem open_places {H : Type} {enc : TypeId × Value → H} {w : World} {base fuel : Nat} {spare : Nat → Bool} {held : Bool} {v : Value} {x : DataW H × List MemPlace}
    (h : DataW.trod enc Tryz.prog w base spare held fuel 23 [v] = some x) : ∃ a c, ∃ l : List Pl, v = .slice a l.length c ∧ l.length ≤ maxLen ∧ SlP w a l := by
  rcases Go.Deep.open_slice Tryz.underlying23 h with ⟨hcs, _⟩ | ⟨a, len, cap, m, n, D, Pq, hcs, _, hle, hm, hmm, _, hel⟩
  · simp at hcs
    subst hcs
    exact ⟨none, 0, [], rfl, by simp, Or.inl rfl⟩
  · simp at hcs
    subst hcs
    have hlm : len ≤ m := by rw [hmm]; split <;> omega
    have hC : Tryz.prog.cellsOf 64 = 3 := by kernel_rfl
    have hI : Tryz.prog.cellsOf 3 = 1 := by kernel_rfl
    have key : ∀ i, i < len → ∃ q : Pl, w.cell? ((a.add (i * 3)).add 0) = some (.int .i64 q.1) ∧ w.cell? ((a.add (i * 3)).add 1) = some (.int .i64 q.2.1) ∧ w.cell? ((a.add (i * 3)).add 2) = some (.int .i64 q.2.2) := by
      intro i hi
      obtain ⟨cs', h1, h2⟩ := hel i (by omega)
      rw [hC] at h1
      obtain ⟨x, y, z, rfl, c0, c1, c2⟩ := cells3_of h1
      obtain ⟨y0, y1, y2, n', _, _, t0, t1, t2⟩ := Go.Deep.trod_struct3 Tryz.underlying64 h2
      simp [hI] at t0 t1 t2
      obtain ⟨q0, e0, _, _⟩ := DataW.trod_int Tryz.underlying3 t0
      obtain ⟨q1, e1, _, _⟩ := DataW.trod_int Tryz.underlying3 t1
      obtain ⟨q2, e2, _, _⟩ := DataW.trod_int Tryz.underlying3 t2
      simp at e0 e1 e2
      subst e0 e1 e2
      exact ⟨(q0, q1, q2), c0, c1, c2⟩
    obtain ⟨f, hf⟩ := Go.Deep.choose_lt key
    refine ⟨some a, cap, (List.range len).map f, by simp, by simp; omega, ?_⟩
    by_cases hz : len = 0
    · exact Or.inl (by simp [hz])
    · right
      have h0 := (hf 0 (by omega)).1
      obtain ⟨b, off, spot⟩ := a
      have hspot : spot = none := by simpa [Addr.add] using World.cell?_spot h0
      subst hspot
      have hb : b < w.heap.size := by
        have := World.block_lt_of_cell? w _ h0
        rw [add_at, add_at] at this
        exact this
      refine ⟨b, off, rfl, hb, fun i hi => ?_⟩
      have hi' : i < len := by simpa using hi
      have := hf i hi'
      rw [add_at, add_at, add_at, add_at] at this
      simpa using this

set_option maxRecDepth 100000 in
/-- a tree that came in -/
theorem open_tree {H : Type} {enc : TypeId × Value → H} {w : World} {r : Reach} {b0 base : Nat} {spare : Nat → Bool} {held : Bool} {v : Value} {d : DataW H} {p : List MemPlace}
    (hv : Value.okWide Tryz.prog w r b0 25 v) (h : DataW.Trod enc Tryz.prog w base spare held 25 v d p) : ∃ a c, ∃ l : List Pl, v = .agg #[.slice a l.length c] ∧ l.length ≤ maxLen ∧ SlP w a l := by
  obtain ⟨cs, rfl, hsz⟩ := okWide_struct Tryz.underlying25 hv
  have hC : Tryz.prog.cellsOf 25 = 1 := by kernel_rfl
  have hD : Tryz.prog.cellsOf 23 = 1 := by kernel_rfl
  rw [hC] at hsz
  obtain ⟨c0, rfl⟩ : ∃ c0, cs = #[c0] := by
    have h1 : cs.toList.length = 1 := by simpa using hsz
    obtain ⟨x, hx⟩ := List.length_eq_one_iff.1 h1
    exact ⟨x, by cases cs; simp_all⟩
  obtain ⟨fuel, hf⟩ := h
  obtain ⟨y0, n, _, _, h0⟩ := trod_struct1 Tryz.underlying25 hf
  simp [Value.cells, hD] at h0
  obtain ⟨a, c, l, rfl, h1, h2⟩ := open_places h0
  exact ⟨a, c, l, rfl, h1, h2⟩
end Go.Proofs.YthlhnokgcnieeadGreat

/- Operations and steps that came in as arguments. -/
namespace Go.Proofs.YthlhnokgcnieeadGreat
open Go.ChangeShapes Go.WideShapes Go.ChangeAt Go.RowKit
open Orangery (Pl Mv Stp)

theorem list7 {cs : List Value} (h : cs.length = 7) : ∃ a b c d e f g, cs = [a, b, c, d, e, f, g] := by
  match cs, h with
  | [a, b, c, d, e, f, g], _ => exact ⟨a, b, c, d, e, f, g, rfl⟩
theorem list11 {cs : List Value} (h : cs.length = 11) : ∃ a b c d e f g i j k l, cs = [a, b, c, d, e, f, g, i, j, k, l] := by
  match cs, h with
  | [a, b, c, d, e, f, g, i, j, k, l], _ => exact ⟨a, b, c, d, e, f, g, i, j, k, l, rfl⟩

set_option maxRecDepth 100000 in
theorem open_opC {H : Type} {enc : TypeId × Value → H} {w : World} {base fuel : Nat} {spare : Nat → Bool} {held : Bool} {cs : List Value} {x : DataW H × List MemPlace}
    (h : DataW.trod enc Tryz.prog w base spare held fuel 35 cs = some x) : ∃ o : Mv, cs = opC o := by
  obtain ⟨xs, n, _, _, hl, hlen, hf⟩ := DataW.trod_struct Tryz.underlying35 h
  have hC : Tryz.prog.cellsOf 35 = 7 := by kernel_rfl
  have hI : Tryz.prog.cellsOf 3 = 1 := by kernel_rfl
  have hT : Tryz.prog.cellsOf 33 = 2 := by kernel_rfl
  rw [hC] at hl
  obtain ⟨c0, c1, c2, c3, c4, c5, c6, rfl⟩ := list7 hl
  have hx : xs.length = 6 := hlen
  have g0 := hf 0 _ rfl
  have g1 := hf 1 _ rfl
  have g2 := hf 2 _ rfl
  have g3 := hf 3 _ rfl
  have g4 := hf 4 _ rfl
  have g5 := hf 5 _ rfl
  simp [hI, hT] at g0 g1 g2 g3 g4 g5
  rw [List.getElem?_eq_getElem (by omega)] at g0 g1 g2 g3 g4 g5
  obtain ⟨o3, e3, _, _⟩ := DataW.trod_int Tryz.underlying3 g1
  obtain ⟨o4, e4, _, _⟩ := DataW.trod_int Tryz.underlying3 g2
  obtain ⟨o5, e5, _, _⟩ := DataW.trod_int Tryz.underlying3 g3
  obtain ⟨o6, e6, _, _⟩ := DataW.trod_int Tryz.underlying3 g4
  obtain ⟨o7, e7, _, _⟩ := DataW.trod_int Tryz.underlying3 g5
  obtain ⟨y0, y1, n', _, _, t0, t1⟩ := trod_struct2 Tryz.underlying33 g0
  simp [hI] at t0 t1
  obtain ⟨o1, e1, _, _⟩ := DataW.trod_int Tryz.underlying3 t0
  obtain ⟨o2, e2, _, _⟩ := DataW.trod_int Tryz.underlying3 t1
  simp at e1 e2 e3 e4 e5 e6 e7
  subst e1 e2 e3 e4 e5 e6 e7
  exact ⟨(o1, o2, (o3, o4, o5), o6, o7), rfl⟩

set_option maxRecDepth 100000 in
/-- an operation that came in -/
theorem open_op {H : Type} {enc : TypeId × Value → H} {w : World} {r : Reach} {b0 base : Nat} {spare : Nat → Bool} {held : Bool} {v : Value} {d : DataW H} {p : List MemPlace}
    (hv : Value.okWide Tryz.prog w r b0 35 v) (h : DataW.Trod enc Tryz.prog w base spare held 35 v d p) : ∃ o : Mv, v = opV o := by
  obtain ⟨cs, rfl, hsz⟩ := okWide_struct Tryz.underlying35 hv
  obtain ⟨fuel, hf⟩ := h
  obtain ⟨o, ho⟩ := open_opC hf
  refine ⟨o, ?_⟩
  have : cs = (opC o).toArray := by rw [← ho]; simp [Value.cells]
  rw [this]
  rfl

set_option maxRecDepth 100000 in
theorem open_stC {H : Type} {enc : TypeId × Value → H} {w : World} {base fuel : Nat} {spare : Nat → Bool} {held : Bool} {cs : List Value} {x : DataW H × List MemPlace}
    (h : DataW.trod enc Tryz.prog w base spare held fuel 95 cs = some x) : ∃ s : Stp, cs = stC s := by
  obtain ⟨y0, y1, y2, n, _, hl, t0, t1, t2⟩ := Go.Deep.trod_struct3 Tryz.underlying95 h
  have hC : Tryz.prog.cellsOf 95 = 11 := by kernel_rfl
  have hO : Tryz.prog.cellsOf 35 = 7 := by kernel_rfl
  have hB : Tryz.prog.cellsOf 4 = 1 := by kernel_rfl
  have hP : Tryz.prog.cellsOf 64 = 3 := by kernel_rfl
  have hI : Tryz.prog.cellsOf 3 = 1 := by kernel_rfl
  rw [hC] at hl
  obtain ⟨c0, c1, c2, c3, c4, c5, c6, c7, c8, c9, c10, rfl⟩ := list11 hl
  simp [hO, hB, hP] at t0 t1 t2
  obtain ⟨o, ho⟩ := open_opC t0
  obtain ⟨b, hb, _⟩ := DataW.trod_bool Tryz.underlying4 t1
  obtain ⟨z0, z1, z2, n', _, _, q0, q1, q2⟩ := Go.Deep.trod_struct3 Tryz.underlying64 t2
  simp [hI] at q0 q1 q2
  obtain ⟨p1, e1, _, _⟩ := DataW.trod_int Tryz.underlying3 q0
  obtain ⟨p2, e2, _, _⟩ := DataW.trod_int Tryz.underlying3 q1
  obtain ⟨p3, e3, _, _⟩ := DataW.trod_int Tryz.underlying3 q2
  simp at e1 e2 e3 hb
  subst e1 e2 e3 hb
  simp [opC] at ho
  obtain ⟨rfl, rfl, rfl, rfl, rfl, rfl, rfl⟩ := ho
  exact ⟨(o, b, (p1, p2, p3)), rfl⟩

set_option maxRecDepth 100000 in
/-- a step that came in -/
theorem open_step {H : Type} {enc : TypeId × Value → H} {w : World} {r : Reach} {b0 base : Nat} {spare : Nat → Bool} {held : Bool} {v : Value} {d : DataW H} {p : List MemPlace}
    (hv : Value.okWide Tryz.prog w r b0 95 v) (h : DataW.Trod enc Tryz.prog w base spare held 95 v d p) : ∃ s : Stp, v = stV s := by
  obtain ⟨cs, rfl, hsz⟩ := okWide_struct Tryz.underlying95 hv
  obtain ⟨fuel, hf⟩ := h
  obtain ⟨o, ho⟩ := open_stC hf
  refine ⟨o, ?_⟩
  have : cs = (stC o).toArray := by rw [← ho]; simp [Value.cells]
  rw [this]
  rfl
end Go.Proofs.YthlhnokgcnieeadGreat

/- Slices of operations and histories that came in as arguments, and what they weigh. -/
namespace Go.Proofs.YthlhnokgcnieeadGreat
open Go.ChangeShapes Go.WideShapes Go.ChangeAt Go.RowKit
open Orangery (Pl Mv Stp)

/-- a slice of such elements that came in, with what it weighs -/
theorem open_slW {α : Type} [Inhabited α] {enc : α → List Value} {k : Nat} {H : Type} {en : TypeId × Value → H} {w : World} {base fuel : Nat} {spare : Nat → Bool} {held : Bool} {v : Value} {x : DataW H × List MemPlace} {t e : TypeId}
    (hk : ∀ x, (enc x).length = k) (hpos : 0 < k) (ht : Tryz.prog.underlying t = some (.slice e)) (hC : Tryz.prog.cellsOf e = k)
    (hel : ∀ (n : Nat) (cs : List Value) (y : DataW H × List MemPlace), DataW.trod en Tryz.prog w base spare held n e cs = some y → ∃ z : α, cs = enc z)
    (h : DataW.trod en Tryz.prog w base spare held fuel t [v] = some x) : ∃ a c, ∃ l : List α, v = .slice a l.length c ∧ l.length ≤ maxLen ∧ l.length ≤ c ∧ (c ≤ maxLen ∧ (a = none → c = 0)) ∧ SlE enc w a l ∧ (l = [] ∨ ∃ m, l.length ≤ m ∧ m * Tryz.prog.bytesOf e ∈ x.1.weights Tryz.prog t) := by
  rcases Go.Deep.open_slice ht h with ⟨hcs, _⟩ | ⟨a, len, cap, m, n, D, Pq, hcs, _, hle, hm, hmm, hxx, hx⟩
  · simp at hcs
    subst hcs
    exact ⟨none, 0, [], rfl, by simp, by simp, ⟨by simp, fun _ => rfl⟩, Or.inl rfl, Or.inl rfl⟩
  · simp at hcs
    subst hcs
    have hlm : len ≤ m := by rw [hmm]; split <;> omega
    have key : ∀ i, i < len → ∃ z : α, ∀ (j : Nat) (v : Value), (enc z)[j]? = some v → w.cell? ((a.add (i * k)).add j) = some v := by
      intro i hi
      obtain ⟨cs', h1, h2⟩ := hx i (by omega)
      rw [hC] at h1
      obtain ⟨z, rfl⟩ := hel _ _ _ h2
      exact ⟨z, (cells_range h1).2⟩
    obtain ⟨f, hf⟩ := Go.Deep.choose_lt key
    refine ⟨some a, cap, (List.range len).map f, by simp, by simp; omega, by simp; omega, ⟨hm, fun e => by simp at e⟩, ?_, Or.inr ⟨m, by simpa using hlm, ?_⟩⟩
    · by_cases hz : len = 0
      · exact Or.inl (by simp [hz])
      · right
        obtain ⟨u, hu⟩ : ∃ u, (enc (f 0))[0]? = some u := ⟨_, List.getElem?_eq_getElem (by rw [hk]; exact hpos)⟩
        have h0 := hf 0 (by omega) 0 u hu
        obtain ⟨b, off, spot⟩ := a
        have hspot : spot = none := by simpa [Addr.add] using World.cell?_spot h0
        subst hspot
        have hb : b < w.heap.size := by
          have := World.block_lt_of_cell? w _ h0
          rw [Addr.add_mid, Addr.add_mid] at this
          exact this
        refine ⟨b, off, rfl, hb, fun j v hv => ?_⟩
        have hj : j < len * k := by
          have := (List.getElem?_eq_some_iff.1 hv).1
          rw [flatE_len hk] at this
          simpa using this
        have hi : j / k < len := (Nat.div_lt_iff_lt_mul hpos).2 hj
        have hc : j % k < k := Nat.mod_lt _ hpos
        have e1 : j / k * k + j % k = j := by rw [Nat.mul_comm]; exact Nat.div_add_mod j k
        have e2 := flatE_get hk ((List.range len).map f) (j / k) (by simpa using hi) (j % k) hc
        rw [e1, hv] at e2
        have e3 := hf (j / k) hi (j % k) v (by simpa using e2.symm)
        rw [Addr.add_mid, Addr.add_mid] at e3
        rw [show off + j = off + j / k * k + j % k by omega]
        exact e3
    · subst hxx
      simp only [DataW.weights, ht]
      have e : ((List.range len).map D).length + ((List.range (m - len)).map fun j => D (len + j)).length = m := by simp; omega
      rw [e]
      exact List.mem_cons_self

set_option maxRecDepth 100000 in
/-- operations that came in -/
theorem open_ops {H : Type} {enc : TypeId × Value → H} {w : World} {r : Reach} {b0 base : Nat} {spare : Nat → Bool} {held : Bool} {v : Value} {d : DataW H} {p : List MemPlace}
    (hv : Value.okWide Tryz.prog w r b0 58 v) (h : DataW.Trod enc Tryz.prog w base spare held 58 v d p) : ∃ a c, ∃ l : List Mv, v = .slice a l.length c ∧ l.length ≤ maxLen ∧ l.length ≤ c ∧ SlE opC w a l := by
  obtain ⟨a', n', c', rfl⟩ := okWide_slice Tryz.underlying58 hv
  obtain ⟨fuel, hf⟩ := h
  obtain ⟨a, c, l, e, h1, h2, _, h3, _⟩ := open_slW opC_len (by omega) Tryz.underlying58 (by kernel_rfl) (fun n cs y hy => open_opC hy) hf
  exact ⟨a, c, l, e, h1, h2, h3⟩

set_option maxRecDepth 100000 in
/-- operations that came in, and the room behind them -/
theorem open_opsN {H : Type} {enc : TypeId × Value → H} {w : World} {r : Reach} {b0 base : Nat} {spare : Nat → Bool} {held : Bool} {v : Value} {d : DataW H} {p : List MemPlace}
    (hv : Value.okWide Tryz.prog w r b0 58 v) (h : DataW.Trod enc Tryz.prog w base spare held 58 v d p) : ∃ a c, ∃ l : List Mv, v = .slice a l.length c ∧ l.length ≤ maxLen ∧ l.length ≤ c ∧ c ≤ maxLen ∧ (a = none → c = 0) ∧ SlE opC w a l := by
  obtain ⟨a', n', c', rfl⟩ := okWide_slice Tryz.underlying58 hv
  obtain ⟨fuel, hf⟩ := h
  obtain ⟨a, c, l, e, h1, h2, ⟨h4, h5⟩, h3, _⟩ := open_slW opC_len (by omega) Tryz.underlying58 (by kernel_rfl) (fun n cs y hy => open_opC hy) hf
  exact ⟨a, c, l, e, h1, h2, h4, h5, h3⟩

set_option maxRecDepth 100000 in
/-- a history that came in -/
theorem open_hist {H : Type} {enc : TypeId × Value → H} {w : World} {r : Reach} {b0 base : Nat} {spare : Nat → Bool} {held : Bool} {v : Value} {d : DataW H} {p : List MemPlace}
    (hv : Value.okWide Tryz.prog w r b0 27 v) (h : DataW.Trod enc Tryz.prog w base spare held 27 v d p) :
    ∃ aL aT cL cT, ∃ (L : List Stp) (T : List Pl), v = hiV (.slice aL L.length cL) (.slice aT T.length cT) ∧ T.length ≤ maxLen ∧ SlE stC w aL L ∧ SlP w aT T ∧ (L = [] ∨ ∃ m, L.length ≤ m ∧ m * 88 ∈ d.weights Tryz.prog 27) := by
  obtain ⟨cs, rfl, hsz⟩ := okWide_struct Tryz.underlying27 hv
  have hC : Tryz.prog.cellsOf 27 = 2 := by kernel_rfl
  have hD : Tryz.prog.cellsOf 22 = 1 := by kernel_rfl
  have hE : Tryz.prog.cellsOf 25 = 1 := by kernel_rfl
  have hF : Tryz.prog.cellsOf 23 = 1 := by kernel_rfl
  have hby : Tryz.prog.bytesOf 95 = 88 := by kernel_rfl
  rw [hC] at hsz
  obtain ⟨c0, c1, rfl⟩ : ∃ c0 c1, cs = #[c0, c1] := by
    have h1 : cs.toList.length = 2 := by simpa using hsz
    cases cs with
    | mk l =>
      match l, h1 with
      | [x, y], _ => exact ⟨x, y, rfl⟩
  obtain ⟨fuel, hf⟩ := h
  obtain ⟨y0, y1, n, hd, _, h0, h1⟩ := trod_struct2 Tryz.underlying27 hf
  simp [Value.cells, hD, hE] at h0 h1
  obtain ⟨aL, cL, L, rfl, _, _, _, hL, hw⟩ := open_slW stC_len (by omega) Tryz.underlying22 (by kernel_rfl) (fun n cs y hy => open_stC hy) h0
  obtain ⟨z0, n', _, _, h2⟩ := trod_struct1 Tryz.underlying25 h1
  simp [hF] at h2
  obtain ⟨aT, cT, T, rfl, hT1, hT2⟩ := open_places h2
  refine ⟨aL, aT, cL, cT, L, T, rfl, hT1, hL, hT2, ?_⟩
  rcases hw with hw | ⟨m, hm, hw⟩
  · exact Or.inl hw
  · right
    refine ⟨m, hm, ?_⟩
    have e : d = .agg [y0.1, y1.1] := congrArg Prod.fst hd
    rw [e]
    rw [hby] at hw
    simp only [DataW.weights, Tryz.underlying27]
    exact DataW.weights_mem_each (j := 0) rfl rfl _ hw

theorem sized_hist {H : Type} {ts : List TypeId} {ds : List (DataW H)} (h : (DataW.weightsEach Tryz.prog ts ds).all (· ≤ reachBytes) = true) {j : Nat} {d : DataW H} (ht : ts[j]? = some 27) (hd : ds[j]? = some d) {L : List Stp}
    (hw : L = [] ∨ ∃ m, L.length ≤ m ∧ m * 88 ∈ d.weights Tryz.prog 27) : L.length * 88 ≤ 140737488351232 := by
  rcases hw with rfl | ⟨m, hm, hw⟩
  · simp
  · have := List.all_eq_true.1 h _ (DataW.weights_mem_each ht hd _ hw)
    have h2 : m * 88 ≤ reachBytes := by simpa using this
    unfold reachBytes at h2
    omega
end Go.Proofs.YthlhnokgcnieeadGreat

/- Ints, places with the room behind them, and views that came in as arguments. -/
namespace Go.Proofs.YthlhnokgcnieeadGreat
open Go.ChangeShapes Go.WideShapes Go.ChangeAt Go.RowKit
open Orangery (Pl)

def intC (x : Int) : List Value := [.int .i64 x]
theorem intC_len (x : Int) : (intC x).length = 1 := rfl

theorem sli_of {w : World} {a : Option Addr} {l : List Int} (h : SlE intC w a l) : SlI w a l := by
  rcases h with h | ⟨b, off, ha, hlt, hp⟩
  · exact Or.inl h
  · refine Or.inr ⟨b, off, ha, hlt, fun i hi => ?_⟩
    have := elemE intC_len hp i hi 0 (.int .i64 l[i]) rfl
    rw [Nat.mul_one, Nat.add_zero] at this
    exact this
theorem slp_of {w : World} {a : Option Addr} {l : List Pl} (h : SlE encPl w a l) : SlP w a l := by
  rcases h with h | ⟨b, off, ha, hlt, hp⟩
  · exact Or.inl h
  · refine Or.inr ⟨b, off, ha, hlt, fun i hi => ?_⟩
    have hr := elemE encPl_len hp i hi
    exact ⟨hr 0 _ rfl, hr 1 _ rfl, hr 2 _ rfl⟩

theorem open_intC {H : Type} {enc : TypeId × Value → H} {w : World} {base fuel : Nat} {spare : Nat → Bool} {held : Bool} {cs : List Value} {x : DataW H × List MemPlace}
    (h : DataW.trod enc Tryz.prog w base spare held fuel 3 cs = some x) : ∃ z : Int, cs = intC z := by
  obtain ⟨q, e, _, _⟩ := DataW.trod_int Tryz.underlying3 h
  exact ⟨q, e⟩
set_option maxRecDepth 100000 in
theorem open_plC {H : Type} {enc : TypeId × Value → H} {w : World} {base fuel : Nat} {spare : Nat → Bool} {held : Bool} {cs : List Value} {x : DataW H × List MemPlace}
    (h : DataW.trod enc Tryz.prog w base spare held fuel 64 cs = some x) : ∃ z : Pl, cs = encPl z := by
  obtain ⟨y0, y1, y2, n', _, hl, t0, t1, t2⟩ := Go.Deep.trod_struct3 Tryz.underlying64 h
  have hC : Tryz.prog.cellsOf 64 = 3 := by kernel_rfl
  have hI : Tryz.prog.cellsOf 3 = 1 := by kernel_rfl
  rw [hC] at hl
  obtain ⟨c0, c1, c2, rfl⟩ : ∃ c0 c1 c2, cs = [c0, c1, c2] := by
    match cs, hl with
    | [x, y, z], _ => exact ⟨x, y, z, rfl⟩
  simp [hI] at t0 t1 t2
  obtain ⟨q0, e0, _, _⟩ := DataW.trod_int Tryz.underlying3 t0
  obtain ⟨q1, e1, _, _⟩ := DataW.trod_int Tryz.underlying3 t1
  obtain ⟨q2, e2, _, _⟩ := DataW.trod_int Tryz.underlying3 t2
  simp at e0 e1 e2
  subst e0 e1 e2
  exact ⟨(q0, q1, q2), rfl⟩

set_option maxRecDepth 100000 in
/-- ints that came in -/
theorem open_ints {H : Type} {enc : TypeId × Value → H} {w : World} {r : Reach} {b0 base : Nat} {spare : Nat → Bool} {held : Bool} {v : Value} {d : DataW H} {p : List MemPlace}
    (hv : Value.okWide Tryz.prog w r b0 31 v) (h : DataW.Trod enc Tryz.prog w base spare held 31 v d p) : ∃ a c, ∃ l : List Int, v = .slice a l.length c ∧ l.length ≤ maxLen ∧ (l.length ≤ c ∧ c ≤ maxLen) ∧ SlI w a l := by
  obtain ⟨a', n', c', rfl⟩ := okWide_slice Tryz.underlying31 hv
  obtain ⟨fuel, hf⟩ := h
  obtain ⟨a, c, l, e, h1, h2, ⟨h4, _⟩, h3, _⟩ := open_slW intC_len (by omega) Tryz.underlying31 (by kernel_rfl) (fun n cs y hy => open_intC hy) hf
  exact ⟨a, c, l, e, h1, ⟨h2, h4⟩, sli_of h3⟩

set_option maxRecDepth 100000 in
theorem open_view {H : Type} {enc : TypeId × Value → H} {w : World} {r : Reach} {b0 base : Nat} {spare : Nat → Bool} {held : Bool} {v : Value} {d : DataW H} {p : List MemPlace}
    (hv : Value.okWide Tryz.prog w r b0 42 v) (h : DataW.Trod enc Tryz.prog w base spare held 42 v d p) :
    ∃ aR aK aW cR cK cW, ∃ (R : List Int) (K W : List Pl), v = .agg #[.slice aR R.length cR, .slice aK K.length cK, .slice aW W.length cW] ∧ (R.length ≤ maxLen ∧ K.length ≤ maxLen ∧ W.length ≤ maxLen) ∧ ((aK = none → cK = 0) ∧ (aW = none → cW = 0)) ∧ SlI w aR R ∧ SlP w aK K ∧ SlP w aW W := by
  obtain ⟨cs, rfl, hsz⟩ := okWide_struct Tryz.underlying42 hv
  have hC : Tryz.prog.cellsOf 42 = 3 := by kernel_rfl
  have hD : Tryz.prog.cellsOf 31 = 1 := by kernel_rfl
  have hF : Tryz.prog.cellsOf 23 = 1 := by kernel_rfl
  rw [hC] at hsz
  obtain ⟨c0, c1, c2, rfl⟩ : ∃ c0 c1 c2, cs = #[c0, c1, c2] := by
    have h1 : cs.toList.length = 3 := by simpa using hsz
    cases cs with
    | mk l =>
      match l, h1 with
      | [x, y, z], _ => exact ⟨x, y, z, rfl⟩
  obtain ⟨fuel, hf⟩ := h
  obtain ⟨y0, y1, y2, n, _, _, h0, h1, h2⟩ := Go.Deep.trod_struct3 Tryz.underlying42 hf
  simp [Value.cells, hD, hF] at h0 h1 h2
  obtain ⟨aR, cR, R, rfl, m0, _, _, hR, _⟩ := open_slW intC_len (by omega) Tryz.underlying31 (by kernel_rfl) (fun n cs y hy => open_intC hy) h0
  obtain ⟨aK, cK, K, rfl, m1, _, ⟨_, n1⟩, hK, _⟩ := open_slW encPl_len (by omega) Tryz.underlying23 (by kernel_rfl) (fun n cs y hy => open_plC hy) h1
  obtain ⟨aW, cW, W, rfl, m2, _, ⟨_, n2⟩, hW, _⟩ := open_slW encPl_len (by omega) Tryz.underlying23 (by kernel_rfl) (fun n cs y hy => open_plC hy) h2
  exact ⟨aR, aK, aW, cR, cK, cW, R, K, W, rfl, ⟨m0, m1, m2⟩, ⟨n1, n2⟩, sli_of hR, slp_of hK, slp_of hW⟩
end Go.Proofs.YthlhnokgcnieeadGreat

