/- 5 texts of the proof: orangeryref.CheckHistory. hub.Check, orangeryref.CheckHub; hub.New, orangeryref.FreshHub. note.Check, orangeryref.CheckRec: what they answer of whatever record. hub.New, orangeryref.FreshHub; hub.Next, hub.Sees. orangeryref.Inserted. -/
import Derived.Test.YthlhnokgcnieeadGreatP14
import Derived.Test.YthlhnokgcnieeadGreatP10
import Derived.Test.YthlhnokgcnieeadGreatP12
import Derived.Test.YthlhnokgcnieeadGreatP06
/- orangeryref.CheckHistory. -/
namespace Go.Proofs.YthlhnokgcnieeadGreat
open Go.ChangeShapes Go.WideShapes Go.ChangeAt Go.RowKit
open Orangery (Pl Mv Stp check checkOp foldE foldL foldT histE sameB)

set_option maxHeartbeats 2000000 in
set_option maxRecDepth 100000 in
theorem rcheck_any (w : World) (a p : Option Addr) (c d : Nat) (l : List Stp) (t : List Pl) (hl : l.length * 88 ≤ 140737488351232) (h1 : SlE stC w a l) (h3 : SlP w p t) :
    Calls Tryz.prog 35 #[hiV (.slice a l.length c) (.slice p t.length d)] w
      fun e w' => e = .returned (.int .i64 (histE l t)) ∧ Below w.heap.size w w' := by
  obtain ⟨W0, hW, hH, hB, hS⟩ := laid1 w [Value.slice a l.length c, Value.slice p t.length d] 27
  have hP := h1.below hB
  have hT := h3.below hB
  have x0 := hH.at 0 rfl
  have x1 := hH.at 1 rfl
  have HB : Hid (Below w.heap.size w W0) := hB
  have hlen : (l.map (·.1)).length ≤ maxLen := by simp; unfold maxLen; omega
  clear h1 h3 hB
  go_enter Tryz.func35, Tryz.ntmps35
  go_wp2_with fail
  refine (rops_any W0 a c l (.slice p t.length d) hl hP).mono ?_
  rintro e w1 ⟨v1, rfl, hO1, hb1⟩
  obtain ⟨a1, c1, rfl, hP1, hc1⟩ := hO1.val
  have hH1 := hH.keep hb1
  have hPa := hP.below hb1
  have hTa := hT.below hb1
  have HB1 : Hid (Below w.heap.size w w1) := HB.out.trans (hb1.mono HB.out.size)
  generalize hm : l.map (·.1) = m at *
  have HM : Hid (l.map (·.1) = m) := hm
  clear hm hO1 hb1 hH hP hT HB hS hW x0 x1
  go_wp2_with fail
  refine (rfold_any w1 a1 c1 m hlen hP1).mono ?_
  rintro e w2 ⟨vL, aT, cT, rfl, hL2, hST, hb2⟩
  have hPT := hST.slp
  clear hST
  obtain ⟨aL, cL, rfl, hPL, _⟩ := hL2.val
  have hH2 := hH1.keep hb2
  have hPb := hPa.below hb2
  have hTb := hTa.below hb2
  have HB2 : Hid (Below w.heap.size w w2) := HB1.out.trans (hb2.mono HB1.out.size)
  have hLl := foldL_len m
  have hTl := foldT_len m
  clear hL2 hP1 hPa hTa HB1 hH1 hb2 hlen hc1
  by_cases hz : foldE m = 0
  · have HE : Hid (histE l t = if sameB (foldL m) l (foldT m) t = true then 0 else 4) := by show _ = _; rw [histE_ok HM.out hz, sameB_comm]
    rw [hz]
    clear hz HM
    generalize foldL m = L at *
    generalize foldT m = T at *
    obtain ⟨W3, hW3, hN, hBn, _⟩ := laid1 w2 [Value.slice aL L.length cL, Value.slice aT T.length cT] 27
    have hH3 := hH2.keep hBn
    have x0 := hH3.at 0 rfl
    have x1 := hH3.at 1 rfl
    have y0 := hN.at 0 rfl
    have y1 := hN.at 1 rfl
    have hl2 : L.length ≤ maxLen := by unfold maxLen; omega
    have hl3 : T.length ≤ maxLen := by unfold maxLen; omega
    have HB3 : Hid (Below w.heap.size w W3) := HB2.out.trans (hBn.mono HB2.out.size)
    have hPL3 := hPL.below hBn
    have hPT3 := hPT.below hBn
    have hPb3 := hPb.below hBn
    have hTb3 := hTb.below hBn
    clear hH2 hH3 hN hBn hPL hPT hPb hTb HB2
    go_wp2_with fail
    refine (rsame_any W3 aL a aT p cL c cT d L l T t hl2 hl3 hPL3 hPb3 hPT3 hTb3).mono ?_
    rintro e w4 ⟨rfl, hb4⟩
    have HB4 : Hid (Below w.heap.size w w4) := HB3.out.trans (hb4.mono HB3.out.size)
    clear hb4 hPL3 hPT3 hPb3 hTb3 HB3 x0 x1 y0 y1
    cases hq : sameB L l T t
    · go_wp2
      go_ret
      exact ⟨ret_int (by rw [HE.out, hq]; rfl), HB4.out⟩
    · go_wp2
      go_ret
      exact ⟨ret_int (by rw [HE.out, hq]; rfl), HB4.out⟩
  · have hz' : (foldE m == 0) = false := by simpa using hz
    have HE : Hid (histE l t = foldE m) := histE_bad HM.out hz
    have HBx : Hid (Below w.heap.size w (w2.alloc (.cells #[Value.slice aL (foldL m).length cL, Value.slice aT (foldT m).length cT] 27))) := HB2.out.alloc HB2.out.size _
    clear hz HM
    generalize foldE m = E at *
    go_wp2
    go_ret
    exact ⟨ret_int (by rw [HE.out]), HBx.out⟩
end Go.Proofs.YthlhnokgcnieeadGreat

/- hub.Check, orangeryref.CheckHub; hub.New, orangeryref.FreshHub. -/
namespace Go.Proofs.YthlhnokgcnieeadGreat
open Go.ChangeShapes Go.WideShapes Go.ChangeAt Go.RowKit
open Orangery (Pl Mv Stp Rc Pr Hb peerE peersE rootsOk hubE histE newHb prOf stepE stepH noHb insE insL insT checkRec)

theorem hubE_1 {h : Hb} (e : histE h.1.1 h.1.2 ≠ 0) : hubE h = histE h.1.1 h.1.2 := by unfold hubE; rw [if_pos e]
theorem hubE_2 {h : Hb} (e : histE h.1.1 h.1.2 = 0) (e2 : ¬ (0 ≤ h.2.1 ∧ h.2.1 ≤ 60)) : hubE h = 3 := by unfold hubE; rw [if_neg (by simp [e]), if_pos e2]
theorem hubE_3 {h : Hb} (e : histE h.1.1 h.1.2 = 0) (e2 : 0 ≤ h.2.1 ∧ h.2.1 ≤ 60) (e3 : h.2.2.length ≠ 3) : hubE h = 4 := by unfold hubE; rw [if_neg (by simp [e]), if_neg (by simp [e2]), if_pos e3]
theorem hubE_4 {h : Hb} (e : histE h.1.1 h.1.2 = 0) (e2 : 0 ≤ h.2.1 ∧ h.2.1 ≤ 60) (e3 : h.2.2.length = 3) : hubE h = peersE h.2.2 := by unfold hubE; rw [if_neg (by simp [e]), if_neg (by simp [e2]), if_neg (by simp [e3])]
theorem peersE_first {l : List Pr} {k : Nat} (hk : k < l.length) (h1 : ∀ j, (hj : j < l.length) → j < k → peerE l[j] = 0) (h2 : peerE l[k] ≠ 0) : peersE l = peerE l[k] := by
  induction l generalizing k with
  | nil => simp at hk
  | cons p l ih =>
    unfold peersE
    cases k with
    | zero => simp only [List.getElem_cons_zero] at h2 ⊢; rw [if_pos h2]
    | succ k =>
      have h0 := h1 0 (by simp) (by omega)
      simp only [List.getElem_cons_zero] at h0
      rw [if_neg (by simp [h0])]
      simp only [List.getElem_cons_succ] at h2 ⊢
      refine ih (by simpa using hk) ?_ h2
      intro j hj hjk
      have := h1 (j + 1) (by simpa using hj) (by omega)
      simpa using this
theorem peersE_none {l : List Pr} (h1 : ∀ j, (hj : j < l.length) → peerE l[j] = 0) : peersE l = 0 := by
  rw [Orangery.peersE_zero]
  intro p hp
  obtain ⟨j, hj, rfl⟩ := List.getElem_of_mem hp
  exact h1 j hj
theorem peers_at {X : List Pm} {P : List Pr} (e : X.map (·.1) = P) (k : Nat) (hk : k < X.length) : ∃ h : k < P.length, P[k] = X[k].1 := by
  subst e
  exact ⟨by simpa using hk, by simp⟩


set_option maxHeartbeats 2000000 in
set_option maxRecDepth 100000 in
theorem ucheck_any (w : World) (v : Value) (h : Hb) (hh : HuIs w v h) :
    Calls Tryz.prog 12 #[v] w fun e w' => e = .returned (.int .i64 (hubE h)) ∧ Below w.heap.size w w' := by
  obtain ⟨a, c, p, d, q, gc, X, rfl, hX⟩ := hh
  have HX := Lib.hid hX
  have H1 := Lib.hid (@hubE_1 h)
  have H2 := Lib.hid (@hubE_2 h)
  have H3 := Lib.hid (@hubE_3 h)
  have H4 := Lib.hid (@hubE_4 h)
  have HLEN : Hid (X.length = h.2.2.length) := by show _ = _; rw [← hX.are]; simp
  have HAT : Hid (∀ k, (hk : k < X.length) → ∃ hp : k < h.2.2.length, h.2.2[k] = X[k].1) := fun k hk => peers_at hX.are k hk
  have hf3 : X.length ≤ 9223372036854775807 := hX.few3
  clear hX
  obtain ⟨⟨L, T⟩, n, P⟩ := h
  go_enter Tryz.func12, Tryz.ntmps12
  go_wp2_with fail
  obtain ⟨W0, hW, hA, hB, -⟩ := laid1 w [Value.slice a L.length c, .slice p T.length d, .int .i64 n, .slice q X.length gc] 30
  have HB0 := Lib.hid hB
  rw [hW]
  clear hW
  refine (hcheck_any W0 a p c d L T HX.out.few1 HX.out.few2 (HX.out.keep HB0.out).steps (HX.out.keep HB0.out).places).mono ?_
  rintro e w1 ⟨rfl, hb⟩
  have hA1 := hA.keep hb
  have HB1 : Hid (Below w.heap.size w w1) := hB.trans (hb.mono hB.size)
  clear hA hb hB HB0
  have x2 := hA1.at 2 rfl
  have x3 := hA1.at 3 rfl
  by_cases hz : histE L T = 0
  case neg =>
    have d1 : (histE L T != 0) = true := by simpa using hz
    have HE : Hid (hubE ((L, T), n, P) = histE L T) := H1.out hz
    clear hz H1 H2 H3 H4
    generalize histE L T = IE at *
    go_wp2
    go_ret
    exact ⟨ret_int HE.out.symm, HB1.out⟩
  have HZ0 : Hid (histE L T = 0) := hz
  rw [hz]
  clear hz
  go_wp2_with fail
  refine (uwithin_any _ n 60).mono ?_
  rintro e w2 ⟨rfl, rfl⟩
  by_cases hn : 0 ≤ n ∧ n ≤ 60
  case neg =>
    have d1 : decide (0 ≤ n ∧ n ≤ 60) = false := decide_eq_false hn
    have HE := Lib.hid (H2.out HZ0.out hn)
    rw [d1]
    clear hn d1
    go_wp2
    go_ret
    exact ⟨ret_int HE.out.symm, HB1.out⟩
  have d1 : decide (0 ≤ n ∧ n ≤ 60) = true := decide_eq_true hn
  rw [d1]
  have HN := Lib.hid hn
  clear d1 hn
  by_cases hl : X.length = 3
  case neg =>
    have d1 : ((X.length : Int) != 3) = true := by simp; omega
    have HE := Lib.hid (H3.out HZ0.out HN.out (by have := HLEN.out; omega))
    clear hl
    go_wp2
    go_ret
    exact ⟨ret_int HE.out.symm, HB1.out⟩
  have HE0 : Hid (hubE ((L, T), n, P) = peersE P) := (H4.out HZ0.out HN.out (by have := HLEN.out; omega))
  have HL3 := Lib.hid hl
  have hf4 : X.length < 4 := by omega
  have d1 : ((X.length : Int) != 3) = false := by simp; omega
  clear H1 H2 H3 H4 hl
  go_wp2
  clear x2 x3 d1
  go_loopw [24] (fun i W => ∃ k : Nat, k ≤ X.length ∧ i = .int .i64 k ∧ (∀ j, (hj : j < P.length) → j < k → peerE P[j] = 0) ∧ Below w2.heap.size w2 W) (fun i _ => X.length - (intOf i).toNat)
  case atStart => exact ⟨0, Nat.zero_le _, rfl, fun j _ hj => absurd hj (Nat.not_lt_zero _), Below.refl _ _⟩
  case round =>
    obtain ⟨k, hk, rfl, hno, hb⟩ := hrel
    have HNO := Lib.hid hno
    have HBL0 := Lib.hid hb
    have HBr : Hid (Below w.heap.size w wr) := HB1.out.trans (hb.mono HB1.out.size)
    clear hno hb
    by_cases hlt : k < X.length
    case neg =>
      have HE : Hid (peersE P = 0) := peersE_none (fun j hj => HNO.out j hj (by have := HLEN.out; omega))
      clear HNO
      go_wp2
      go_ret
      exact ⟨ret_int (by rw [HE0.out, HE.out]), HBr.out⟩
    have hXr := HX.out.peers.keep HBr.out
    obtain ⟨hp, hpe⟩ := HAT.out k hlt
    obtain ⟨bx, ox, rfl, hbx, hrx⟩ := hXr.reads.at prC_len k hlt
    have HRX := Lib.hid (hXr.roots _ (List.getElem_mem hlt))
    obtain ⟨g0, g1, g2⟩ := pr_cells hrx
    have HFI : Hid (peerE X[k].1 ≠ 0 → peersE P = peerE X[k].1) := by
      intro e
      rw [← hpe] at e ⊢
      exact peersE_first hp HNO.out e
    have HNX : Hid (peerE X[k].1 = 0 → ∀ j, (hj : j < P.length) → j < k + 1 → peerE P[j] = 0) := by
      intro e j hj hjk
      by_cases hjk' : j < k
      · exact HNO.out j hj hjk'
      · have : j = k := by omega
        subst this
        rw [← hpe] at e
        exact e
    clear hrx hXr hpe HNO
    generalize X[k] = x at *
    obtain ⟨⟨f1, q1, R1⟩, a1, c1⟩ := x
    simp only at g0 g1 g2
    have hlti : (k : Int) < (X.length : Int) := by omega
    go_wp2_with fail
    obtain ⟨W3, hW, -, hB3, -⟩ := laid1 wr [Value.int IntKind.i64 f1, .int .i64 q1, .slice a1 R1.length c1] 52
    rw [hW]
    clear hW g0 g1 g2
    refine (ucheckPeer_any W3 ((f1, q1, R1), a1, c1) (HRX.out.keep hB3)).mono ?_
    rintro e w4 ⟨rfl, hb4⟩
    have HB4 : Hid (Below w.heap.size w w4) := HBr.out.trans ((hB3.trans (hb4.mono hB3.size)).mono HBr.out.size)
    have HBL : Hid (Below w2.heap.size w2 w4) := HBL0.out.trans ((hB3.trans (hb4.mono hB3.size)).mono HBL0.out.size)
    clear hB3 hb4 HRX
    skip
    by_cases hz : peerE (f1, q1, R1) = 0
    · have HZ := Lib.hid (HNX.out hz)
      rw [hz]
      clear hz HFI HNX
      go_wp2
      go_roundw
      case rel => exact ⟨k + 1, hlt, by go_num, HZ.out, HBL.out⟩
      case measure => simp [intOf]; omega
    · have HZ := Lib.hid (HFI.out hz)
      have d1 : (peerE (f1, q1, R1) != 0) = true := by simpa using hz
      clear hz HFI HNX
      generalize peerE (f1, q1, R1) = PE at *
      go_wp2
      go_ret
      exact ⟨ret_int (by rw [HE0.out, HZ.out]), HB4.out⟩


set_option maxHeartbeats 2000000 in
set_option maxRecDepth 100000 in
theorem rcheckHub_any (w : World) (v : Value) (h : Hb) (hh : HuIs w v h) :
    Calls Tryz.prog 10 #[v] w fun e w' => e = .returned (.int .i64 (hubE h)) ∧ Below w.heap.size w w' := by
  obtain ⟨a, c, p, d, q, gc, X, rfl, hX⟩ := hh
  have HX := Lib.hid hX
  have H1 := Lib.hid (@hubE_1 h)
  have H2 := Lib.hid (@hubE_2 h)
  have H3 := Lib.hid (@hubE_3 h)
  have H4 := Lib.hid (@hubE_4 h)
  have HLEN : Hid (X.length = h.2.2.length) := by show _ = _; rw [← hX.are]; simp
  have HAT : Hid (∀ k, (hk : k < X.length) → ∃ hp : k < h.2.2.length, h.2.2[k] = X[k].1) := fun k hk => peers_at hX.are k hk
  have hf3 : X.length ≤ 9223372036854775807 := hX.few3
  clear hX
  obtain ⟨⟨L, T⟩, n, P⟩ := h
  go_enter Tryz.func10, Tryz.ntmps10
  go_wp2_with fail
  obtain ⟨W0, hW, hA, hB, -⟩ := laid1 w [Value.slice a L.length c, .slice p T.length d, .int .i64 n, .slice q X.length gc] 30
  have HB0 := Lib.hid hB
  rw [hW]
  clear hW
  refine (rcheck_any W0 a p c d L T HX.out.few1 (HX.out.keep HB0.out).steps (HX.out.keep HB0.out).places).mono ?_
  rintro e w1 ⟨rfl, hb⟩
  have hA1 := hA.keep hb
  have HB1 : Hid (Below w.heap.size w w1) := hB.trans (hb.mono hB.size)
  clear hA hb hB HB0
  have x2 := hA1.at 2 rfl
  have x3 := hA1.at 3 rfl
  by_cases hz : histE L T = 0
  case neg =>
    have d1 : (histE L T != 0) = true := by simpa using hz
    have HE : Hid (hubE ((L, T), n, P) = histE L T) := H1.out hz
    clear hz H1 H2 H3 H4
    generalize histE L T = IE at *
    go_wp2
    go_ret
    exact ⟨ret_int HE.out.symm, HB1.out⟩
  have HZ0 : Hid (histE L T = 0) := hz
  rw [hz]
  clear hz
  go_wp2_with fail
  refine (rin_any _ n 0 60).mono ?_
  rintro e w2 ⟨rfl, rfl⟩
  by_cases hn : 0 ≤ n ∧ n ≤ 60
  case neg =>
    have d1 : inB n 0 60 = false := by simp [inB]; omega
    have HE := Lib.hid (H2.out HZ0.out hn)
    rw [d1]
    clear hn d1
    go_wp2
    go_ret
    exact ⟨ret_int HE.out.symm, HB1.out⟩
  have d1 : inB n 0 60 = true := by simp [inB]; omega
  rw [d1]
  have HN := Lib.hid hn
  clear d1 hn
  by_cases hl : X.length = 3
  case neg =>
    have d1 : ((X.length : Int) != 3) = true := by simp; omega
    have HE := Lib.hid (H3.out HZ0.out HN.out (by have := HLEN.out; omega))
    clear hl
    go_wp2
    go_ret
    exact ⟨ret_int HE.out.symm, HB1.out⟩
  have HE0 : Hid (hubE ((L, T), n, P) = peersE P) := (H4.out HZ0.out HN.out (by have := HLEN.out; omega))
  have HL3 := Lib.hid hl
  have hf4 : X.length < 4 := by omega
  have d1 : ((X.length : Int) != 3) = false := by simp; omega
  clear H1 H2 H3 H4 hl
  go_wp2
  clear x2 x3 d1
  go_loopw [24] (fun i W => ∃ k : Nat, k ≤ X.length ∧ i = .int .i64 k ∧ (∀ j, (hj : j < P.length) → j < k → peerE P[j] = 0) ∧ Below w2.heap.size w2 W) (fun i _ => X.length - (intOf i).toNat)
  case atStart => exact ⟨0, Nat.zero_le _, rfl, fun j _ hj => absurd hj (Nat.not_lt_zero _), Below.refl _ _⟩
  case round =>
    obtain ⟨k, hk, rfl, hno, hb⟩ := hrel
    have HNO := Lib.hid hno
    have HBL0 := Lib.hid hb
    have HBr : Hid (Below w.heap.size w wr) := HB1.out.trans (hb.mono HB1.out.size)
    clear hno hb
    by_cases hlt : k < X.length
    case neg =>
      have HE : Hid (peersE P = 0) := peersE_none (fun j hj => HNO.out j hj (by have := HLEN.out; omega))
      clear HNO
      go_wp2
      go_ret
      exact ⟨ret_int (by rw [HE0.out, HE.out]), HBr.out⟩
    have hXr := HX.out.peers.keep HBr.out
    obtain ⟨hp, hpe⟩ := HAT.out k hlt
    obtain ⟨bx, ox, rfl, hbx, hrx⟩ := hXr.reads.at prC_len k hlt
    have HRX := Lib.hid (hXr.roots _ (List.getElem_mem hlt))
    obtain ⟨g0, g1, g2⟩ := pr_cells hrx
    have HFI : Hid (peerE X[k].1 ≠ 0 → peersE P = peerE X[k].1) := by
      intro e
      rw [← hpe] at e ⊢
      exact peersE_first hp HNO.out e
    have HNX : Hid (peerE X[k].1 = 0 → ∀ j, (hj : j < P.length) → j < k + 1 → peerE P[j] = 0) := by
      intro e j hj hjk
      by_cases hjk' : j < k
      · exact HNO.out j hj hjk'
      · have : j = k := by omega
        subst this
        rw [← hpe] at e
        exact e
    clear hrx hXr hpe HNO
    generalize X[k] = x at *
    obtain ⟨⟨f1, q1, R1⟩, a1, c1⟩ := x
    simp only at g0 g1 g2
    have hlti : (k : Int) < (X.length : Int) := by omega
    by_cases h1 : 0 ≤ f1 ∧ f1 ≤ 50
    case neg =>
      have HZ := Lib.hid (HFI.out (by rw [peerE_life h1]; omega))
      rw [peerE_life h1] at HZ
      have d1 : inB f1 0 50 = false := by simp [inB]; omega
      clear h1 HFI HNX
      go_wp2_with fail
      refine (rin_any _ f1 0 50).mono ?_
      rintro e w4 ⟨rfl, rfl⟩
      rw [d1]
      have HB4 : Hid (Below w.heap.size w (wr.alloc (Obj.cells #[Value.int IntKind.i64 f1, .int .i64 q1, .slice a1 R1.length c1] 52))) := HBr.out.trans ((Go.Joins.below_alloc1 wr _).mono HBr.out.size)
      clear d1
      go_wp2
      go_ret
      exact ⟨ret_int (by rw [HE0.out, HZ.out]), HB4.out⟩
    have d1 : inB f1 0 50 = true := by simp [inB]; omega
    by_cases h2 : 0 ≤ q1 ∧ q1 ≤ 30
    case neg =>
      have HZ := Lib.hid (HFI.out (by rw [peerE_seq h2]; omega))
      rw [peerE_seq h2] at HZ
      have d2 : inB q1 0 30 = false := by simp [inB]; omega
      clear h1 h2 HFI HNX
      go_wp2_with fail
      refine (rin_any _ f1 0 50).mono ?_
      rintro e w4 ⟨rfl, rfl⟩
      rw [d1]
      go_wp2_with fail
      refine (rin_any _ q1 0 30).mono ?_
      rintro e w4 ⟨rfl, rfl⟩
      rw [d2]
      have HB4 : Hid (Below w.heap.size w (wr.alloc (Obj.cells #[Value.int IntKind.i64 f1, .int .i64 q1, .slice a1 R1.length c1] 52))) := HBr.out.trans ((Go.Joins.below_alloc1 wr _).mono HBr.out.size)
      clear d1 d2
      go_wp2
      go_ret
      exact ⟨ret_int (by rw [HE0.out, HZ.out]), HB4.out⟩
    have d2 : inB q1 0 30 = true := by simp [inB]; omega
    have H12 : Hid ((0 ≤ f1 ∧ f1 ≤ 50) ∧ (0 ≤ q1 ∧ q1 ≤ 30)) := ⟨h1, h2⟩
    clear h1 h2
    have HB4 : Hid (Below w.heap.size w (wr.alloc (Obj.cells #[Value.int IntKind.i64 f1, .int .i64 q1, .slice a1 R1.length c1] 52))) := HBr.out.trans ((Go.Joins.below_alloc1 wr _).mono HBr.out.size)
    have HBL : Hid (Below w2.heap.size w2 (wr.alloc (Obj.cells #[Value.int IntKind.i64 f1, .int .i64 q1, .slice a1 R1.length c1] 52))) := HBL0.out.trans ((Go.Joins.below_alloc1 wr _).mono HBL0.out.size)
    go_wp2_with fail
    refine (rin_any _ f1 0 50).mono ?_
    rintro e w4 ⟨rfl, rfl⟩
    rw [d1]
    go_wp2_with fail
    refine (rin_any _ q1 0 30).mono ?_
    rintro e w4 ⟨rfl, rfl⟩
    rw [d2]
    clear d1 d2
    by_cases h3 : f1 = 0 ∧ (q1 ≠ 0 ∨ R1 ≠ [])
    · have HZ := Lib.hid (HFI.out (by rw [peerE_form H12.out.1 H12.out.2 h3.1 h3.2]; omega))
      rw [peerE_form H12.out.1 H12.out.2 h3.1 h3.2] at HZ
      obtain ⟨h4, h5⟩ := h3
      have e4 : (f1 == 0) = true := by simpa using h4
      clear HFI HNX
      by_cases h6 : q1 = 0
      · have h7 : 0 < R1.length := by
          cases R1 with
          | nil => simp [h6] at h5
          | cons x R => simp
        have e6 : (q1 != 0) = false := by simpa using h6
        have d7 : ((R1.length : Int) != 0) = true := by rw [bne_iff_ne]; omega
        clear h4 h5 h6
        go_wp2
        go_ret
        exact ⟨ret_int (by rw [HE0.out, HZ.out]), HB4.out⟩
      · have e6 : (q1 != 0) = true := by simpa using h6
        clear h4 h5 h6
        go_wp2
        go_ret
        exact ⟨ret_int (by rw [HE0.out, HZ.out]), HB4.out⟩
    have HPE := Lib.hid (peerE_rest H12.out.1 H12.out.2 h3)
    have HR2 := Lib.hid (HRX.out.keep (Go.Joins.below_alloc1 wr (Obj.cells #[Value.int IntKind.i64 f1, .int .i64 q1, .slice a1 R1.length c1] 52)))
    have hgo : (f1 == 0) = false ∨ ((f1 == 0) = true ∧ (q1 != 0) = false ∧ ((R1.length : Int) != 0) = false) := by
      by_cases h4 : f1 = 0
      · refine Or.inr ⟨by simpa using h4, ?_, ?_⟩
        · have : q1 = 0 := by
            by_cases h5 : q1 = 0
            · exact h5
            · exact absurd ⟨h4, Or.inl h5⟩ h3
          simp [this]
        · have : R1 = [] := by
            by_cases h5 : R1 = []
            · exact h5
            · exact absurd ⟨h4, Or.inr h5⟩ h3
          simp [this]
      · exact Or.inl (by simpa using h4)
    rw [HPE.out] at HFI HNX
    clear h3 HRX HPE
    have hrest : ∀ z : Nat, z = z := fun _ => rfl
    clear hrest
    rcases hgo with e4 | ⟨e4, e6, d7⟩
    · go_wp2_with fail
      refine (rroots_any _ a1 c1 R1 HR2.out.2 HR2.out.1).mono ?_
      rintro e w5 ⟨rfl, rfl⟩
      by_cases hz : rootsOk R1 = 0
      · have HZ := Lib.hid (HNX.out hz)
        rw [hz]
        clear hz HFI HNX
        go_wp2
        go_roundw
        case rel => exact ⟨k + 1, hlt, by go_num, HZ.out, HBL.out⟩
        case measure => simp [intOf]; omega
      · have HZ := Lib.hid (HFI.out hz)
        have d1 : (rootsOk R1 != 0) = true := by simpa using hz
        clear hz HFI HNX
        generalize rootsOk R1 = PE at *
        go_wp2
        go_ret
        exact ⟨ret_int (by rw [HE0.out, HZ.out]), HB4.out⟩
    · go_wp2_with fail
      refine (rroots_any _ a1 c1 R1 HR2.out.2 HR2.out.1).mono ?_
      rintro e w5 ⟨rfl, rfl⟩
      by_cases hz : rootsOk R1 = 0
      · have HZ := Lib.hid (HNX.out hz)
        rw [hz]
        clear hz HFI HNX
        go_wp2
        go_roundw
        case rel => exact ⟨k + 1, hlt, by go_num, HZ.out, HBL.out⟩
        case measure => simp [intOf]; omega
      · have HZ := Lib.hid (HFI.out hz)
        have d1 : (rootsOk R1 != 0) = true := by simpa using hz
        clear hz HFI HNX
        generalize rootsOk R1 = PE at *
        go_wp2
        go_ret
        exact ⟨ret_int (by rw [HE0.out, HZ.out]), HB4.out⟩

end Go.Proofs.YthlhnokgcnieeadGreat

/- note.Check, orangeryref.CheckRec: what they answer of whatever record. -/
namespace Go.Proofs.YthlhnokgcnieeadGreat
open Go.ChangeShapes Go.WideShapes Go.ChangeAt Go.RowKit
open Orangery (Pl Mv Rc noOp checkRec checkOp rootsOk)

theorem checkRec_1 (u f : Int) (R : List Int) (o : Mv) : checkRec (1, u, f, R, o) = opRecE u f R o := rfl
theorem checkRec_2 (u f : Int) (R : List Int) (o : Mv) : checkRec (2, u, f, R, o) = cliE 2 u f R o := by
  unfold checkRec cliE
  simp only [if_neg (show ¬ (2 : Int) = 1 by decide), if_true]
  by_cases h1 : o = noOp
  · by_cases h2 : R = []
    · subst h1 h2
      simp
      split
      · rfl
      · rfl
    · simp [h1, h2]
  · simp [h1]
theorem checkRec_3 (u f : Int) (R : List Int) (o : Mv) : checkRec (3, u, f, R, o) = cliE 3 u f R o := by
  unfold checkRec cliE
  simp only [if_neg (show ¬ (3 : Int) = 1 by decide), if_neg (show ¬ (3 : Int) = 2 by decide), if_true]
  simp
theorem checkRec_0 {k : Int} (h1 : k ≠ 1) (h2 : k ≠ 2) (h3 : k ≠ 3) (u f : Int) (R : List Int) (o : Mv) : checkRec (k, u, f, R, o) = 4 := by
  unfold checkRec
  simp only
  rw [if_neg h1, if_neg h2, if_neg h3]

set_option maxHeartbeats 1000000 in
theorem ncheck_any (w : World) (k u f : Int) (a : Option Addr) (c : Nat) (R : List Int) (o : Mv) (hl : R.length ≤ maxLen) (h : SlI w a R) :
    Calls Tryz.prog 29 #[rcV k u f (.slice a R.length c) o] w fun e w' => e = .returned (.int .i64 (checkRec (k, u, f, R, o))) ∧ Below w.heap.size w w' := by
  by_cases h1 : k = 1
  · subst h1
    rw [checkRec_1]
    go_enter Tryz.func29, Tryz.ntmps29
    go_wp2_with fail
    refine (ncheckOp_any _ 1 u f a c R o).mono ?_
    rintro e w1 ⟨rfl, hb⟩
    have hb1 : Below w.heap.size w w1 := (Go.Joins.below_alloc1 w _).trans (hb.mono (by simp))
    clear hb
    go_wp2
    go_ret
    exact ⟨rfl, hb1⟩
  by_cases h2 : k = 2
  · subst h2
    rw [checkRec_2]
    clear h1
    go_enter Tryz.func29, Tryz.ntmps29
    go_wp2_with fail
    refine (ncheckOfClient_any _ 2 u f a c R o hl (h.below (Go.Joins.below_alloc1 w _))).mono ?_
    rintro e w1 ⟨rfl, hb⟩
    have hb1 : Below w.heap.size w w1 := (Go.Joins.below_alloc1 w _).trans (hb.mono (by simp))
    clear hb
    go_wp2
    go_ret
    exact ⟨rfl, hb1⟩
  by_cases h3 : k = 3
  · subst h3
    rw [checkRec_3]
    clear h1 h2
    go_enter Tryz.func29, Tryz.ntmps29
    go_wp2_with fail
    refine (ncheckOfClient_any _ 3 u f a c R o hl (h.below (Go.Joins.below_alloc1 w _))).mono ?_
    rintro e w1 ⟨rfl, hb⟩
    have hb1 : Below w.heap.size w w1 := (Go.Joins.below_alloc1 w _).trans (hb.mono (by simp))
    clear hb
    go_wp2
    go_ret
    exact ⟨rfl, hb1⟩
  have HE : Hid (checkRec (k, u, f, R, o) = 4) := checkRec_0 h1 h2 h3 u f R o
  have e1 : (k == 1) = false := by simpa using h1
  have e2 : (k == 2) = false := by simpa using h2
  have e3 : (k == 3) = false := by simpa using h3
  clear h1 h2 h3
  go_enter Tryz.func29, Tryz.ntmps29
  go_wp2
  go_ret
  exact ⟨ret_int HE.out.symm, Go.Joins.below_alloc1 w _⟩

theorem cli2_range {u f : Int} {o : Mv} (ho : o = noOp) (h2 : ¬ (0 ≤ u ∧ u ≤ 2) ∨ ¬ (1 ≤ f ∧ f ≤ 50)) : cliE 2 u f [] o = 3 := by
  refine cliE_range (by simp [ho]) ?_
  rcases h2 with h2 | h2
  · exact Or.inl h2
  · exact Or.inr ⟨rfl, h2⟩
theorem cli2_ok {u f : Int} {o : Mv} (ho : o = noOp) (h1 : 0 ≤ u ∧ u ≤ 2) (h2 : 1 ≤ f ∧ f ≤ 50) : cliE 2 u f [] o = rootsOk [] := cliE_ok (by simp [ho]) (by omega)

theorem in02 (u : Int) : (inB u 0 2 = false → ¬ (0 ≤ u ∧ u ≤ 2)) ∧ (inB u 0 2 = true → 0 ≤ u ∧ u ≤ 2) := by
  constructor <;> intro h <;> simpa [inB] using h
theorem in150 (u : Int) : (inB u 1 50 = false → ¬ (1 ≤ u ∧ u ≤ 50)) ∧ (inB u 1 50 = true → 1 ≤ u ∧ u ≤ 50) := by
  constructor <;> intro h <;> simpa [inB] using h

set_option maxHeartbeats 2000000 in
theorem rcheckRec_any (w : World) (k u f : Int) (a : Option Addr) (c : Nat) (R : List Int) (o : Mv) (hl : R.length ≤ maxLen) (h : SlI w a R) :
    Calls Tryz.prog 33 #[rcV k u f (.slice a R.length c) o] w fun e w' => e = .returned (.int .i64 (checkRec (k, u, f, R, o))) ∧ Below w.heap.size w w' := by
  have hne : ∀ w, (binOp .neq 35 (opV o) (.agg #[.int .i64 0, .int .i64 0, .int .i64 0, .int .i64 0, .int .i64 0, .int .i64 0, .int .i64 0])).run Tryz.prog w = .ok (.bool (!decide (o = noOp))) w := run_neq_opg o noOp
  have hgd := guard_op
  by_cases h1 : k = 1
  · subst h1
    rw [checkRec_1]
    clear hne hgd
    by_cases hu : u = 0
    case neg =>
      have HE : Hid (opRecE u f R o = 4) := opRecE_bad (Or.inl hu)
      have d1 : (u != 0) = true := by simpa using hu
      go_enter Tryz.func33, Tryz.ntmps33
      go_wp2
      go_ret
      exact ⟨ret_int HE.out.symm, Go.Joins.below_alloc1 w _⟩
    by_cases hf : f = 0
    case neg =>
      have HE : Hid (opRecE u f R o = 4) := opRecE_bad (Or.inr (Or.inl hf))
      have d1 : (u != 0) = false := by simpa using hu
      have d2 : (f != 0) = true := by simpa using hf
      clear hu
      go_enter Tryz.func33, Tryz.ntmps33
      go_wp2
      go_ret
      exact ⟨ret_int HE.out.symm, Go.Joins.below_alloc1 w _⟩
    by_cases hr : R = []
    case neg =>
      have HE : Hid (opRecE u f R o = 4) := opRecE_bad (Or.inr (Or.inr hr))
      have d1 : (u != 0) = false := by simpa using hu
      have d2 : (f != 0) = false := by simpa using hf
      have d3 : 0 < R.length := List.length_pos_iff.2 hr
      have d4 : ((R.length : Int) != 0) = true := by simp; exact hr
      clear hu hf hr
      go_enter Tryz.func33, Tryz.ntmps33
      go_wp2
      go_ret
      exact ⟨ret_int HE.out.symm, Go.Joins.below_alloc1 w _⟩
    subst hu hf hr
    obtain ⟨o1, o2, ⟨o3, o4, o5⟩, o6, o7⟩ := o
    go_enter Tryz.func33, Tryz.ntmps33
    go_wp2_with fail
    refine (refCheckOp_any _ (o1, o2, (o3, o4, o5), o6, o7)).mono ?_
    rintro e w1 ⟨rfl, hb⟩
    have hb1 : Below w.heap.size w w1 := (Go.Joins.below_alloc1 w _).trans (hb.mono (by simp))
    clear hb
    go_wp2
    go_ret
    exact ⟨rfl, hb1⟩
  by_cases h2 : k = 2
  · subst h2
    rw [checkRec_2]
    clear h1
    by_cases ho : o = noOp
    case neg =>
      have HE : Hid (cliE 2 u f R o = 4) := cliE_form (Or.inl ho)
      have d0 : decide (o = noOp) = false := by simpa using ho
      clear ho
      go_enter Tryz.func33, Tryz.ntmps33
      go_wp2
      go_ret
      exact ⟨ret_int HE.out.symm, Go.Joins.below_alloc1 w _⟩
    have d0 : decide (o = noOp) = true := by simpa using ho
    have HO : Hid (o = noOp) := ho
    clear ho
    by_cases hr : R = []
    case neg =>
      have HE : Hid (cliE 2 u f R o = 4) := cliE_form (Or.inr (Or.inr ⟨rfl, hr⟩))
      have d3 : 0 < R.length := List.length_pos_iff.2 hr
      have d4 : ((R.length : Int) != 0) = true := by simp; exact hr
      clear hr
      go_enter Tryz.func33, Tryz.ntmps33
      go_wp2
      go_ret
      exact ⟨ret_int HE.out.symm, Go.Joins.below_alloc1 w _⟩
    subst hr
    go_enter Tryz.func33, Tryz.ntmps33
    go_wp2_with fail
    refine (rin_any _ u _ _).mono ?_
    rintro e w1 ⟨rfl, rfl⟩
    have HU : Hid ((inB u 0 2 = false → ¬ (0 ≤ u ∧ u ≤ 2)) ∧ (inB u 0 2 = true → 0 ≤ u ∧ u ≤ 2)) := in02 u
    cases q1 : inB u 0 2
    · have HE : Hid (cliE 2 u f [] o = 3) := cli2_range HO.out (Or.inl (HU.out.1 q1))
      go_wp2
      go_ret
      exact ⟨ret_int HE.out.symm, Go.Joins.below_alloc1 w _⟩
    go_wp2_with fail
    refine (rin_any _ f _ _).mono ?_
    rintro e w1 ⟨rfl, rfl⟩
    have HV : Hid ((inB f 1 50 = false → ¬ (1 ≤ f ∧ f ≤ 50)) ∧ (inB f 1 50 = true → 1 ≤ f ∧ f ≤ 50)) := in150 f
    cases q2 : inB f 1 50
    · have HE : Hid (cliE 2 u f [] o = 3) := cli2_range HO.out (Or.inr (HV.out.1 q2))
      go_wp2
      go_ret
      exact ⟨ret_int HE.out.symm, Go.Joins.below_alloc1 w _⟩
    have HE : Hid (cliE 2 u f [] o = rootsOk []) := cli2_ok HO.out (HU.out.2 q1) (HV.out.2 q2)
    go_wp2
    go_ret
    exact ⟨ret_int HE.out.symm, Go.Joins.below_alloc1 w _⟩
  by_cases h3 : k = 3
  · subst h3
    rw [checkRec_3]
    clear h1 h2
    by_cases ho : o = noOp
    case neg =>
      have HE : Hid (cliE 3 u f R o = 4) := cliE_form (Or.inl ho)
      have d0 : decide (o = noOp) = false := by simpa using ho
      clear ho
      go_enter Tryz.func33, Tryz.ntmps33
      go_wp2
      go_ret
      exact ⟨ret_int HE.out.symm, Go.Joins.below_alloc1 w _⟩
    have d0 : decide (o = noOp) = true := by simpa using ho
    have HO : Hid (o = noOp) := ho
    clear ho
    by_cases hf : f = 0
    case neg =>
      have HE : Hid (cliE 3 u f R o = 4) := cliE_form (Or.inr (Or.inl ⟨by decide, hf⟩))
      have d3 : (f != 0) = true := by simpa using hf
      go_enter Tryz.func33, Tryz.ntmps33
      go_wp2
      go_ret
      exact ⟨ret_int HE.out.symm, Go.Joins.below_alloc1 w _⟩
    have HF : Hid (¬ (o ≠ noOp ∨ ((3 : Int) ≠ 2 ∧ f ≠ 0) ∨ ((3 : Int) = 2 ∧ R ≠ []))) := by
      show ¬ _
      have h1 := HO.out
      simp [h1, hf]
    subst hf
    go_enter Tryz.func33, Tryz.ntmps33
    go_wp2_with fail
    refine (rin_any _ u _ _).mono ?_
    rintro e w1 ⟨rfl, rfl⟩
    have HU : Hid ((inB u 0 2 = false → ¬ (0 ≤ u ∧ u ≤ 2)) ∧ (inB u 0 2 = true → 0 ≤ u ∧ u ≤ 2)) := in02 u
    cases q1 : inB u 0 2
    · have HE : Hid (cliE 3 u 0 R o = 3) := cliE_range HF.out (Or.inl (HU.out.1 q1))
      go_wp2
      go_ret
      exact ⟨ret_int HE.out.symm, Go.Joins.below_alloc1 w _⟩
    have HE : Hid (cliE 3 u 0 R o = rootsOk R) := cliE_ok HF.out (by have := HU.out.2 q1; omega)
    go_wp2_with fail
    refine (rroots_any _ a c R hl (h.below (Go.Joins.below_alloc1 w _))).mono ?_
    rintro e w1 ⟨rfl, rfl⟩
    go_wp2
    go_ret
    exact ⟨ret_int HE.out.symm, Go.Joins.below_alloc1 w _⟩
  have HE : Hid (checkRec (k, u, f, R, o) = 4) := checkRec_0 h1 h2 h3 u f R o
  have e1 : (k == 1) = false := by simpa using h1
  have e2 : (k == 2) = false := by simpa using h2
  have e3 : (k == 3) = false := by simpa using h3
  clear h1 h2 h3
  go_enter Tryz.func33, Tryz.ntmps33
  go_wp2
  go_ret
  exact ⟨ret_int HE.out.symm, Go.Joins.below_alloc1 w _⟩
end Go.Proofs.YthlhnokgcnieeadGreat

/- hub.New, orangeryref.FreshHub; hub.Next, hub.Sees. -/
namespace Go.Proofs.YthlhnokgcnieeadGreat
open Go.ChangeShapes Go.WideShapes Go.ChangeAt Go.RowKit
open Orangery (Pl Mv Stp Rc Pr Hb peerE peersE rootsOk hubE histE newHb prOf stepE stepH noHb insE insL insT checkRec nextE nextH orI)

theorem sizeRecH : (Tryz.prog.info? 37).map (·.size) = some 11 := by kernel_rfl
theorem row_blk {w : World} {base g cap n k : Nat} {e : TypeId} {cs : List Value} (h : w.ownsRow base e k (.slice (some ⟨g, 0, none⟩) n cap) n cs) : Blk w g cs := by
  rcases h.2 with ⟨h', _⟩ | ⟨g', cap', cur, h', hb, hg, hn, hm, hs, ht⟩
  · simp at h'
  · obtain ⟨rfl, rfl⟩ : g = g' ∧ cap = cap' := by simpa using h'
    refine ⟨blk_lt hg, fun j => ?_, fun i v hv => ?_⟩
    · unfold World.frozen?
      simp only [hg]
      simp
    · rw [← ht] at hv
      rw [Go.Joins.cell_of_block hg]
      have hi : i < n * k := by
        have := (List.getElem?_eq_some_iff.1 hv).1
        simp at this
        omega
      rw [List.getElem?_take_of_lt hi] at hv
      simpa using hv
theorem newRow {w : World} {g : Nat} {cs : List Value} (hc : cs = [.int .i64 0, .int .i64 0, .slice none 0 0, .int .i64 0, .int .i64 0, .slice none 0 0, .int .i64 0, .int .i64 0, .slice none 0 0]) (h : Blk w g cs) : HuX (g ≤ ·) newHb w [.slice none 0 0, .slice none 0 0, .int .i64 0, .slice (some ⟨g, 0, none⟩) 3 3] := by
  subst hc
  have hb : Blk w g (([((0, 0, []), none, 0), ((0, 0, []), none, 0), ((0, 0, []), none, 0)] : List Pm).flatMap prC) := h
  refine ⟨none, 0, none, 0, some ⟨g, 0, none⟩, 3, [((0, 0, []), none, 0), ((0, 0, []), none, 0), ((0, 0, []), none, 0)], rfl, ⟨Or.inl rfl, Or.inl rfl, ⟨Or.inr ⟨g, 0, rfl, h.lt, hb.range⟩, ?_⟩, rfl, by simp [newHb], by simp [newHb, maxLen], by simp [maxLen]⟩, ⟨Or.inl rfl, Or.inl rfl, Or.inr ?_, ?_⟩⟩
  · intro x hx
    simp at hx
    subst hx
    exact PIn.nil _ _ _ _
  · intro b off e
    obtain ⟨rfl, _⟩ : g = b ∧ 0 = off := by simpa using e
    exact Nat.le_refl _
  · intro x hx
    simp at hx
    subst hx
    exact Or.inl rfl


set_option maxHeartbeats 1000000 in
theorem unew_any (w : World) : Calls Tryz.prog 15 #[] w fun e w' => ∃ vs, e = .returned (.agg vs.toArray) ∧ HuX (w.heap.size ≤ ·) newHb w' vs ∧ Below w.heap.size w w' := by
  obtain ⟨i0, hi, hz0, hz1, hz2⟩ := info_parts infoPeer
  obtain ⟨W0, hW, hA, hB, hS⟩ := laid1 w [Value.slice none 0 0, .slice none 0 0, .int .i64 0, .slice none 0 0] 30
  go_enter Tryz.func15, Tryz.ntmps15
  go_wp2_with (at_make; refine wpList_make_full _ rfl _ _ 28 rfl w.heap.size 52 i0 _ 3 Tryz.underlying28 hi hz0 hz1 .i64 .i64 _ _ 3 rfl rfl rfl rfl ?c1 ?c2 ?c3 ?_)
  case c1 => rw [hz2]; omega
  case c2 => unfold maxLen; omega
  case c3 => exact hB.size
  intro w1 hown hgrow
  clear hW
  have hb1 : Below w.heap.size w w1 := hB.trans (below_grown (v := .slice none 0 0) (World.ownsRow_nil _ _ 52 3) hB.size hgrow)
  have hA1 := hA.grown hgrow (by simp)
  have emade : (madeCells #[Value.int IntKind.i64 0, Value.int IntKind.i64 0, Value.slice none 0 0] 9).toList = [.int .i64 0, .int .i64 0, .slice none 0 0, .int .i64 0, .int .i64 0, .slice none 0 0, .int .i64 0, .int .i64 0, .slice none 0 0] := by kernel_rfl
  rw [emade] at hown
  have hblk : Blk w1 (w.heap.size + 1) [.int .i64 0, .int .i64 0, .slice none 0 0, .int .i64 0, .int .i64 0, .slice none 0 0, .int .i64 0, .int .i64 0, .slice none 0 0] := row_blk hown
  have HN := Lib.hid (((newRow rfl hblk).sets w.heap.size (fun b hb => by omega) [.slice none 0 0, .slice none 0 0, .int .i64 0, .slice (some ⟨w.heap.size + 1, 0, none⟩) 3 3] 0).imp (D' := fun b => w.heap.size ≤ b) (fun b hb => by omega))
  have HB1 := Lib.hid (below_sets hb1 w.heap.size (Nat.le_refl _) [.slice none 0 0, .slice none 0 0, .int .i64 0, .slice (some ⟨w.heap.size + 1, 0, none⟩) 3 3] 0)
  have rf := hA1.frz
  have r0 := hA1.at 0 rfl
  have r1 := hA1.at 1 rfl
  have r2 := hA1.at 2 rfl
  have r3 := hA1.at 3 rfl
  clear hown hgrow hblk hA hB hb1 hS
  go_wp2
  refine ret_cell Tryz.results15 rfl ((hA1.sets [.slice none 0 0, .slice none 0 0, .int .i64 0, .slice (some ⟨w.heap.size + 1, 0, none⟩) 3 3] rfl).load Tryz.underlying30 rfl sizeHub) ?_
  exact ⟨_, rfl, HN.out, HB1.out⟩


set_option maxHeartbeats 1000000 in
theorem rfresh_any (w : World) : Calls Tryz.prog 16 #[] w fun e w' => ∃ vs, e = .returned (.agg vs.toArray) ∧ HuX (w.heap.size ≤ ·) newHb w' vs ∧ Below w.heap.size w w' := by
  obtain ⟨i0, hi, hz0, hz1, hz2⟩ := info_parts infoPeer
  obtain ⟨W0, hW, hA, hB, hS⟩ := laid1 w [Value.slice none 0 0, .slice none 0 0, .int .i64 0, .slice none 0 0] 30
  go_enter Tryz.func16, Tryz.ntmps16
  go_wp2_with (at_make; refine wpList_make_full _ rfl _ _ 28 rfl w.heap.size 52 i0 _ 3 Tryz.underlying28 hi hz0 hz1 .i64 .i64 _ _ 3 rfl rfl rfl rfl ?c1 ?c2 ?c3 ?_)
  case c1 => rw [hz2]; omega
  case c2 => unfold maxLen; omega
  case c3 => exact hB.size
  intro w1 hown hgrow
  clear hW
  have hb1 : Below w.heap.size w w1 := hB.trans (below_grown (v := .slice none 0 0) (World.ownsRow_nil _ _ 52 3) hB.size hgrow)
  have hA1 := hA.grown hgrow (by simp)
  have emade : (madeCells #[Value.int IntKind.i64 0, Value.int IntKind.i64 0, Value.slice none 0 0] 9).toList = [.int .i64 0, .int .i64 0, .slice none 0 0, .int .i64 0, .int .i64 0, .slice none 0 0, .int .i64 0, .int .i64 0, .slice none 0 0] := by kernel_rfl
  rw [emade] at hown
  have hblk : Blk w1 (w.heap.size + 1) [.int .i64 0, .int .i64 0, .slice none 0 0, .int .i64 0, .int .i64 0, .slice none 0 0, .int .i64 0, .int .i64 0, .slice none 0 0] := row_blk hown
  have HN := Lib.hid (((newRow rfl hblk).sets w.heap.size (fun b hb => by omega) [.slice none 0 0, .slice none 0 0, .int .i64 0, .slice (some ⟨w.heap.size + 1, 0, none⟩) 3 3] 0).imp (D' := fun b => w.heap.size ≤ b) (fun b hb => by omega))
  have HB1 := Lib.hid (below_sets hb1 w.heap.size (Nat.le_refl _) [.slice none 0 0, .slice none 0 0, .int .i64 0, .slice (some ⟨w.heap.size + 1, 0, none⟩) 3 3] 0)
  have rf := hA1.frz
  have r0 := hA1.at 0 rfl
  have r1 := hA1.at 1 rfl
  have r2 := hA1.at 2 rfl
  have r3 := hA1.at 3 rfl
  clear hown hgrow hblk hA hB hb1 hS
  go_wp2
  refine ret_cell Tryz.results16 rfl ((hA1.sets [.slice none 0 0, .slice none 0 0, .int .i64 0, .slice (some ⟨w.heap.size + 1, 0, none⟩) 3 3] rfl).load Tryz.underlying30 rfl sizeHub) ?_
  exact ⟨_, rfl, HN.out, HB1.out⟩


theorem next_or {h : Hb} {r : Rc} (e : orI (hubE h) (checkRec r) ≠ 0) : nextE h r = orI (hubE h) (checkRec r) := by
  unfold nextE
  unfold orI at e ⊢
  by_cases h1 : hubE h = 0
  · rw [if_neg (by simp [h1])] at e
    rw [if_neg (by simp [h1]), if_pos e, if_neg (by simp [h1])]
  · rw [if_pos h1, if_pos h1]
theorem next_then {h : Hb} {r : Rc} (h1 : hubE h = 0) (h2 : checkRec r = 0) : nextE h r = stepE h r := by
  unfold nextE
  rw [if_neg (by simp [h1]), if_neg (by simp [h2])]
theorem nextH_bad {h : Hb} {r : Rc} (e : nextE h r ≠ 0) : nextH h r = noHb := by unfold nextH; rw [if_pos e]
theorem nextH_ok {h : Hb} {r : Rc} (e : nextE h r = 0) : nextH h r = stepH h r := by unfold nextH; rw [if_neg (by simp [e])]

set_option maxHeartbeats 4000000 in
set_option maxRecDepth 100000 in
theorem unext_any (w : World) (v : Value) (h : Hb) (r : Rc) (ar : Option Addr) (cr : Nat) (hh : HuIs w v h) (hl : r.2.2.2.1.length ≤ maxLen) (hr : SlI w ar r.2.2.2.1) :
    Calls Tryz.prog 7 #[v, rcV r.1 r.2.1 r.2.2.1 (.slice ar r.2.2.2.1.length cr) r.2.2.2.2] w (Gives (HuX (w.heap.size ≤ ·) (nextH h r)) w (nextE h r)) := by
  have HH := Lib.hid hh
  have HR := Lib.hid hr
  have HRL := Lib.hid hl
  obtain ⟨a, c, p, d, q, gc, X, rfl, -⟩ := hh
  clear hr hl
  have HBAD : Hid (∀ E w', E = nextE h r → E ≠ 0 → Below w.heap.size w w' → Gives (HuX (w.heap.size ≤ ·) (nextH h r)) w (nextE h r) (.returned (.tuple #[.agg [Value.slice none 0 0, .slice none 0 0, .int .i64 0, .slice none 0 0].toArray, .int .i64 E])) w') := by
    intro E w' e hne hb
    subst e
    exact ⟨_, rfl, by rw [nextH_bad hne]; exact HuX.no _ _, hb⟩
  have CK1 : Hid (∀ W', Below w.heap.size w W' → Calls Tryz.prog 12 #[huV (.slice a h.1.1.length c) (.slice p h.1.2.length d) h.2.1 (.slice q X.length gc)] W' fun e w' => e = .returned (.int .i64 (hubE h)) ∧ Below W'.heap.size W' w') := fun W' hw => ucheck_any W' _ h (HH.out.keep hw)
  have CK2 : Hid (∀ W', Below w.heap.size w W' → Calls Tryz.prog 29 #[rcV r.1 r.2.1 r.2.2.1 (.slice ar r.2.2.2.1.length cr) r.2.2.2.2] W' fun e w' => e = .returned (.int .i64 (checkRec r)) ∧ Below W'.heap.size W' w') := fun W' hw => ncheck_any W' _ _ _ ar cr _ _ HRL.out (HR.out.below hw)
  have CL : Hid (hubE h = 0 → ∀ W', Below w.heap.size w W' → Calls Tryz.prog 30 #[huV (.slice a h.1.1.length c) (.slice p h.1.2.length d) h.2.1 (.slice q X.length gc)] W' (Cloned W' h)) := fun hok W' hw => uclone_any W' _ h hok (HH.out.keep hw)
  have HOR := Lib.hid (@next_or h r)
  have HTH := Lib.hid (@next_then h r)
  have HNB := Lib.hid (@nextH_ok h r)
  have HRT : Hid (∀ W', Below w.heap.size w W' → SlI W' ar r.2.2.2.1) := fun W' hw => HR.out.below hw
  obtain ⟨W0, hW, hA, hC, hZ, hB, hS⟩ := laid3 w [Value.slice a h.1.1.length c, .slice p h.1.2.length d, .int .i64 h.2.1, .slice q X.length gc] 30 (rcL r.1 r.2.1 r.2.2.1 (.slice ar r.2.2.2.1.length cr) r.2.2.2.2) 37 [Value.slice none 0 0, .slice none 0 0, .int .i64 0, .slice none 0 0] 30
  have HB0 := Lib.hid hB
  clear hB HR HH HRL
  go_enter Tryz.func7, Tryz.ntmps7
  go_wp2_with fail
  clear hW
  refine wp_region_held_drew (S := fun w' => Below W0.heap.size W0 w') (by kernel_rfl) ((Below.refl _ W0).drew) (fun hHeld => ?_)
  refine take_load 0 9 30 w.heap.size [Value.slice a h.1.1.length c, .slice p h.1.2.length d, .int .i64 h.2.1, .slice q X.length gc] rfl rfl (by kernel_rfl) (by kernel_rfl) (by kernel_rfl) (fun _ _ _ h => h) (by rfl) (by rfl) (by rfl) (fun w hw => (hA.keep hw).range) Tryz.underlying30 rfl sizeHub hHeld ?_
  simp only [Act.put, List.setIfInBounds_toArray, List.set_cons_succ, List.set_cons_zero]
  refine take_load 2 11 37 (w.heap.size + 1) (rcL r.1 r.2.1 r.2.2.1 (.slice ar r.2.2.2.1.length cr) r.2.2.2.2) rfl rfl (by kernel_rfl) (by kernel_rfl) (by kernel_rfl) (fun _ _ _ h => h) (by rfl) (by rfl) (by rfl) (fun w hw => (hC.keep hw).range) Tryz.underlying37 rfl sizeRecH hHeld ?_
  simp only [Act.put, List.setIfInBounds_toArray, List.set_cons_succ, List.set_cons_zero]
  refine wpAnyH_ready (rs := [1]) (by kernel_rfl) (by simp) ?_
  refine AllReadyH.cons rfl (fun KK hKK => ?_) AllReadyH.nil
  go_simp
  refine (CK1.out _ (HB0.out.trans (hHeld.mono HB0.out.size))).mono ?_
  rintro e w1 ⟨rfl, hb1⟩
  have hS1 : Below W0.heap.size W0 w1 := hHeld.trans (hb1.mono hHeld.size)
  go_wp2_with fail
  refine hKK.out _ _ (hS1) (fun hHeld => ?_)
  clear hKK KK
  refine wpAnyH_ready (rs := [3]) (by kernel_rfl) (by simp) ?_
  refine AllReadyH.cons rfl (fun KK hKK => ?_) AllReadyH.nil
  go_simp
  refine (CK2.out _ (HB0.out.trans (hHeld.mono HB0.out.size))).mono ?_
  rintro e w2 ⟨rfl, hb2⟩
  have hS2 : Below W0.heap.size W0 w2 := hHeld.trans (hb2.mono hHeld.size)
  go_wp2_with fail
  refine hKK.out _ _ (hS2) (fun hHeld => ?_)
  clear hKK KK
  refine wpAnyH_ready (rs := [4]) (by kernel_rfl) (by simp) ?_
  refine AllReadyH.cons rfl (fun KK hKK => ?_) AllReadyH.nil
  go_simp
  have hE2 := Blk.new w2 [Value.int IntKind.i64 (hubE h), .int .i64 (checkRec r)] 38
  refine hKK.out _ _ (hHeld.alloc hHeld.size _) (fun hHeld => ?_)
  clear hKK KK
  refine wpAnyH_ready (rs := [5]) (by kernel_rfl) (by simp) ?_
  refine AllReadyH.cons rfl (fun KK hKK => ?_) AllReadyH.nil
  go_simp
  refine (orE_any _ w2.heap.size _ (hubE h) (checkRec r) (hE2.at 0 rfl) (hE2.at 1 rfl)).mono ?_
  rintro e w3 ⟨rfl, rfl⟩
  go_wp2_with fail
  refine hKK.out _ _ (hHeld) (fun hHeld => ?_)
  clear hKK KK
  refine take_yes 6 6 (v := ?_) rfl rfl (by kernel_rfl) (by kernel_rfl) (by kernel_rfl) (fun _ _ _ h => h) (by rfl) ?_ hHeld ?_
  rotate_left 1
  · (intro w hSw; go_simp; try with_reducible rfl)
  simp only [Act.put, List.setIfInBounds_toArray, List.set_cons_succ, List.set_cons_zero]
  refine wpAnyH_done (by kernel_rfl) ?_ _
  have HB3 := Lib.hid (HB0.out.trans (hHeld.mono HB0.out.size))
  have hA3 := hA.keep hHeld
  have hC3 := hC.keep hHeld
  have hZ3 := hZ.keep hHeld
  clear hHeld hE2 hS1 hS2 hb1 hb2 HB0 hA hC hZ CK1 CK2
  generalize (w2.alloc (Obj.cells #[Value.int IntKind.i64 (hubE h), Value.int IntKind.i64 (checkRec r)] 38)) = W3 at *
  by_cases hz : orI (hubE h) (checkRec r) = 0
  case neg =>
    have d1 : (orI (hubE h) (checkRec r) != 0) = true := by simpa using hz
    have HE := Lib.hid (HOR.out hz)
    have HZ := Lib.hid hz
    clear hz HOR HTH HNB CL HRT
    generalize orI (hubE h) (checkRec r) = OE at *
    have rf := hZ3.frz
    have r0 := hZ3.at 0 rfl
    have r1 := hZ3.at 1 rfl
    have r2 := hZ3.at 2 rfl
    have r3 := hZ3.at 3 rfl
    go_wp2
    have hRf := hZ3.sets [Value.slice none 0 0, .slice none 0 0, .int .i64 0, .slice none 0 0] rfl
    refine ret_cell_tmp Tryz.results7 rfl rfl (hRf.load Tryz.underlying30 rfl sizeHub) ?_
    exact HBAD.out OE _ HE.out.symm HZ.out (below_sets HB3.out (w.heap.size + 2) (by omega) [Value.slice none 0 0, .slice none 0 0, .int .i64 0, .slice none 0 0] 0)
  have hz1 : hubE h = 0 ∧ checkRec r = 0 := or_zero hz
  have HOK : Hid (hubE h = 0) := hz1.1
  have HCR : Hid (checkRec r = 0) := hz1.2
  have HST := Lib.hid (HTH.out hz1.1 hz1.2)
  have CLO := Lib.hid (CL.out hz1.1)
  rw [hz]
  clear hz hz1 HOR HTH CL
  by_cases hv : h.2.1 = 60
  · have d1 : (h.2.1 == 60) = true := by simpa using hv
    have HE : Hid (2 = nextE h r) := by show _ = _; rw [HST.out]; unfold stepE; rw [if_pos hv]
    clear hv HNB CLO HRT
    have rf := hZ3.frz
    have r0 := hZ3.at 0 rfl
    have r1 := hZ3.at 1 rfl
    have r2 := hZ3.at 2 rfl
    have r3 := hZ3.at 3 rfl
    have x2 := hA3.at 2 rfl
    go_wp2
    have hRf := hZ3.sets [Value.slice none 0 0, .slice none 0 0, .int .i64 0, .slice none 0 0] rfl
    refine ret_cell_tmp Tryz.results7 rfl rfl (hRf.load Tryz.underlying30 rfl sizeHub) ?_
    exact HBAD.out 2 _ HE.out (by omega) (below_sets HB3.out (w.heap.size + 2) (by omega) [Value.slice none 0 0, .slice none 0 0, .int .i64 0, .slice none 0 0] 0)
  have d1 : (h.2.1 == 60) = false := by simpa using hv
  have HV : Hid (h.2.1 ≠ 60) := hv
  have hn60 : 0 ≤ h.2.1 ∧ h.2.1 ≤ 60 := ((Orangery.hubE_zero h).1 HOK.out).2.1
  have hn1 := hn60.1
  have hn2 := hn60.2
  clear hv hn60
  have x0 := hA3.at 0 rfl
  have x1 := hA3.at 1 rfl
  have x2 := hA3.at 2 rfl
  have x3 := hA3.at 3 rfl
  go_wp2_with fail
  refine (CLO.out W3 HB3.out).mono ?_
  rintro e w4 ⟨g, cap, aL, cL, aT, cT, Y, rfl, hg, hR4, hM4, hL4, hT4, og1, og2, ⟨in1, in2, in3⟩, hb4⟩
  have hZ4 := hZ3.keep hb4
  have hC4 := hC3.keep hb4
  have HB4 := Lib.hid (HB3.out.trans (hb4.mono HB3.out.size))
  have hlz : w.heap.size + 2 < W3.heap.size := hZ3.lt
  have hsz4 := hb4.size
  clear hA3 hC3 hZ3 x0 x1 x2 x3 CLO hb4 d1
  obtain ⟨W5, hW5, hN5, hB5, hS5⟩ := laid1 w4 [Value.slice aL h.1.1.length cL, .slice aT h.1.2.length cT, .int .i64 h.2.1, .slice (some ⟨g, 0, none⟩) 3 cap] 30
  have hgl : g < w4.heap.size := hR4.blk.lt
  have HBOX : Hid (BoxAt W3.heap.size (W5.setCell ⟨w4.heap.size, 2, none⟩ (.int .i64 (h.2.1 + 1))) w4.heap.size g cap aL cL aT cT Y (h.1, h.2.1 + 1, h.2.2)) := by
    refine ⟨hN5.set 2 (by simp) _, (hR4.keep hB5).other (by omega) (fun x hx => ((hR4.roots x hx).1.off (Nat.le_refl _))) [_] 2, hM4, (hL4.below hB5).sets (hL4.off (Nat.le_refl _)) [_] 2, (hT4.below hB5).sets (hT4.off (Nat.le_refl _)) [_] 2, og1, hL4.off (Nat.le_refl _), og2, hT4.off (Nat.le_refl _), fun x hx => ((hR4.roots x hx).1.off (Nat.le_refl _)), by omega, in1, in2, in3⟩
  have hZ5 := (hZ4.keep hB5).other (by omega : w.heap.size + 2 ≠ w4.heap.size) 2 (.int .i64 (h.2.1 + 1))
  have hC5 := (hC4.keep hB5).other (by omega : w.heap.size + 1 ≠ w4.heap.size) 2 (.int .i64 (h.2.1 + 1))
  have HB5 : Hid (Below w.heap.size w (W5.setCell ⟨w4.heap.size, 2, none⟩ (.int .i64 (h.2.1 + 1)))) := below_sets (HB4.out.trans (hB5.mono HB4.out.size)) w4.heap.size (by omega) [_] 2
  have n2 := hN5.at 2 rfl
  have nf := hN5.frz
  have HB5B : Hid (Below W3.heap.size w4 (W5.setCell ⟨w4.heap.size, 2, none⟩ (.int .i64 (h.2.1 + 1)))) := below_sets (hB5.mono hsz4) w4.heap.size hsz4 [_] 2
  clear hL4 hT4 hR4 hM4 hZ4 hC4 hN5 hB5 hS5 og1 og2
  have m0 := hC5.at 0 rfl
  have m1 := hC5.at 1 rfl
  have m2 := hC5.at 2 rfl
  have m3 := hC5.at 3 rfl
  have m4 := hC5.at 4 rfl
  have m5 := hC5.at 5 rfl
  have m6 := hC5.at 6 rfl
  have m7 := hC5.at 7 rfl
  have m8 := hC5.at 8 rfl
  have m9 := hC5.at 9 rfl
  have m10 := hC5.at 10 rfl
  go_wp2_with fail
  clear m0 m1 m2 m3 m4 m5 m6 m7 m8 m9 m10 n2 nf hW5 hC5
  generalize W5.setCell ⟨w4.heap.size, 2, none⟩ (.int .i64 (h.2.1 + 1)) = W6 at *
  generalize hnb : w4.heap.size = nb at *
  refine (uaccept_any W6 W3.heap.size nb g cap aL aT cL cT Y h r ar cr HOK.out HV.out HCR.out HBOX.out hg (by omega) (HRT.out _ HB5.out)).mono ?_
  rintro e w7 ⟨rfl, hb7, hbx7⟩
  have HB7 := Lib.hid (HB5.out.trans (hb7.mono (by have := HB3.out.size; omega)))
  have hZ7 := hZ5.below hb7 hlz
  have rf := hZ7.frz
  have r0 := hZ7.at 0 rfl
  have r1 := hZ7.at 1 rfl
  have r2 := hZ7.at 2 rfl
  have r3 := hZ7.at 3 rfl
  clear hZ5 HB5 HB5B hb7
  by_cases hz : stepE h r = 0
  case neg =>
    have d1 : (stepE h r != 0) = true := by simpa using hz
    have HE : Hid (stepE h r = nextE h r) := HST.out.symm
    have HZ := Lib.hid hz
    clear hz hbx7 HNB
    generalize stepE h r = OE at *
    go_wp2
    have hRf := hZ7.sets [Value.slice none 0 0, .slice none 0 0, .int .i64 0, .slice none 0 0] rfl
    refine ret_cell_tmp Tryz.results7 rfl rfl (hRf.load Tryz.underlying30 rfl sizeHub) ?_
    exact HBAD.out OE _ HE.out HZ.out (below_sets HB7.out (w.heap.size + 2) (by omega) [Value.slice none 0 0, .slice none 0 0, .int .i64 0, .slice none 0 0] 0)
  have HE : Hid (nextE h r = 0) := by show _ = _; rw [HST.out]; exact hz
  have HFEW := Lib.hid (hub_few (Orangery.next_ok HE.out).2.2.2)
  have HNH := Lib.hid (HNB.out HE.out)
  obtain ⟨aF, cF, pF, dF, Z, hF⟩ := hbx7 hz
  have HF := Lib.hid hF
  rw [hz]
  have y0 := hF.blk.at 0 rfl
  have y1 := hF.blk.at 1 rfl
  have y2 := hF.blk.at 2 rfl
  have y3 := hF.blk.at 3 rfl
  clear hz HNB hF hbx7
  generalize hHs : stepH h r = H at *
  have hHs' : Hid (stepH h r = H) := hHs
  clear hHs
  go_wp2
  have hRf := hZ7.sets [Value.slice aF H.1.1.length cF, .slice pF H.1.2.length dF, .int .i64 H.2.1, .slice (some ⟨g, 0, none⟩) 3 cap] rfl
  refine ret_cell_tmp Tryz.results7 rfl rfl (hRf.load Tryz.underlying30 rfl sizeHub) ?_
  refine ⟨[Value.slice aF H.1.1.length cF, .slice pF H.1.2.length dF, .int .i64 H.2.1, .slice (some ⟨g, 0, none⟩) 3 cap], by rw [HE.out]; rfl, ?_, below_sets HB7.out (w.heap.size + 2) (by omega) [Value.slice aF H.1.1.length cF, .slice pF H.1.2.length dF, .int .i64 H.2.1, .slice (some ⟨g, 0, none⟩) 3 cap] 0⟩
  rw [HNH.out]
  have hF := HF.out
  have hfew := HFEW.out
  have hin : HuX (W3.heap.size ≤ ·) H w7 [Value.slice aF H.1.1.length cF, .slice pF H.1.2.length dF, .int .i64 H.2.1, .slice (some ⟨g, 0, none⟩) 3 cap] := by
    refine ⟨aF, cF, pF, dF, some ⟨g, 0, none⟩, cap, Z, by rw [hF.row.len], ⟨hF.steps, hF.places, hF.row.reads, hF.are, by omega, by unfold maxLen; omega, by rw [hF.row.len]; unfold maxLen; omega⟩, ⟨hF.new1, hF.new2, Or.inr ?_, hF.new3⟩⟩
    intro b off e
    obtain ⟨rfl, _⟩ : g = b ∧ 0 = off := by simpa using e
    exact hg
  exact (hin.sets (w.heap.size + 2) (fun b hb => by omega) [Value.slice aF H.1.1.length cF, .slice pF H.1.2.length dF, .int .i64 H.2.1, .slice (some ⟨g, 0, none⟩) 3 cap] 0).imp (fun b hb => by omega)

end Go.Proofs.YthlhnokgcnieeadGreat

/- orangeryref.Inserted. -/
namespace Go.Proofs.YthlhnokgcnieeadGreat
open Go.ChangeShapes Go.WideShapes Go.ChangeAt Go.RowKit
open Orangery (Pl Mv Stp check checkOp foldE foldL foldT histE hasM thereB insE insL insT orI)

theorem insE_hist {l : List Stp} {t : List Pl} {o : Mv} (h : histE l t ≠ 0) : insE l t o = histE l t := by unfold insE; rw [if_pos h]
theorem insE_op {l : List Stp} {t : List Pl} {o : Mv} (h1 : histE l t = 0) (h : checkOp o ≠ 0) : insE l t o = checkOp o := by unfold insE; rw [if_neg (by simp [h1]), if_pos h]
theorem or_of {x y : Int} (hx : x = 0) (hy : y = 0) : orI x y = 0 := by unfold orI; rw [if_neg (by simp [hx]), hy]

end Go.Proofs.YthlhnokgcnieeadGreat

