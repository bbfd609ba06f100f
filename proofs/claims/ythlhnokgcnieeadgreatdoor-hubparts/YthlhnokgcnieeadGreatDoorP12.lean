/- 5 texts of the proof: orangeryref.CheckHistory. hub.Check, orangeryref.CheckHub; hub.New, orangeryref.FreshHub. note.Check, orangeryref.CheckRec: what they answer of whatever record. hub.New, orangeryref.FreshHub; hub.Next, hub.Sees. hub.Sees, hub.Replay. -/
import Derived.Test.YthlhnokgcnieeadGreatDoorP11
import Derived.Test.YthlhnokgcnieeadGreatDoorP09
import Derived.Test.YthlhnokgcnieeadGreatDoorP05
import Derived.Test.YthlhnokgcnieeadGreatDoorP06
/- orangeryref.CheckHistory. -/
namespace Go.Proofs.YthlhnokgcnieeadGreatDoor
open Go.ChangeShapes Go.WideShapes Go.ChangeAt Go.RowKit
open Orangery (Pl Mv Stp check checkOp foldE foldL foldT histE sameB)

end Go.Proofs.YthlhnokgcnieeadGreatDoor

/- hub.Check, orangeryref.CheckHub; hub.New, orangeryref.FreshHub. -/
namespace Go.Proofs.YthlhnokgcnieeadGreatDoor
open Go.ChangeShapes Go.WideShapes Go.ChangeAt Go.RowKit
open Orangery (Pl Mv Stp Rc Pr Hb peerE peersE rootsOk hubE histE newHb prOf stepE stepH noHb insE insL insT checkRec)

theorem hubE_1 {h : Hb} (e : histE h.1.1 h.1.2 ≠ 0) : hubE h = histE h.1.1 h.1.2 := by unfold hubE; rw [if_pos e]
theorem hubE_2 {h : Hb} (e : histE h.1.1 h.1.2 = 0) (e2 : ¬ (0 ≤ h.2.1 ∧ h.2.1 ≤ 60)) : hubE h = 3 := by unfold hubE; rw [if_neg (by simp [e]), if_pos e2]
theorem hubE_3 {h : Hb} (e : histE h.1.1 h.1.2 = 0) (e2 : 0 ≤ h.2.1 ∧ h.2.1 ≤ 60) (e3 : h.2.2.length ≠ 3) : hubE h = 4 := by unfold hubE; rw [if_neg (by simp [e]), if_neg (by simp [e2]), if_pos e3]
theorem hubE_4 {h : Hb} (e : histE h.1.1 h.1.2 = 0) (e2 : 0 ≤ h.2.1 ∧ h.2.1 ≤ 60) (e3 : h.2.2.length = 3) : hubE h = peersE h.2.2 := by unfold hubE; rw [if_neg (by simp [e]), if_neg (by simp [e2]), if_neg (by simp [e3])]
theorem peersE_first {l : List Pr} {k : Nat} (hk : k < l.length) (h1 : ∀ j, (hj : j < l.length) → j < k → peerE l[j] = 0) (h2 : peerE l[k] ≠ 0) : peersE l = peerE l[k] := by
  induction l generalizing k with
  | nil => simp at hk
  | cons p l ih =>
    unfold peersE
    cases k with
    | zero => simp only [List.getElem_cons_zero] at h2 ⊢; rw [if_pos h2]
    | succ k =>
      have h0 := h1 0 (by simp) (by omega)
      simp only [List.getElem_cons_zero] at h0
      rw [if_neg (by simp [h0])]
      simp only [List.getElem_cons_succ] at h2 ⊢
      refine ih (by simpa using hk) ?_ h2
      intro j hj hjk
      have := h1 (j + 1) (by simpa using hj) (by omega)
      simpa using this
theorem peersE_none {l : List Pr} (h1 : ∀ j, (hj : j < l.length) → peerE l[j] = 0) : peersE l = 0 := by
  rw [Orangery.peersE_zero]
  intro p hp
  obtain ⟨j, hj, rfl⟩ := List.getElem_of_mem hp
  exact h1 j hj
theorem peers_at {X : List Pm} {P : List Pr} (e : X.map (·.1) = P) (k : Nat) (hk : k < X.length) : ∃ h : k < P.length, P[k] = X[k].1 := by
  subst e
  exact ⟨by simpa using hk, by simp⟩


set_option maxHeartbeats 2000000 in
set_option maxRecDepth 100000 in
theorem ucheck_any (w : World) (v : Value) (h : Hb) (hh : HuIs w v h) :
    Calls Tryz.prog 19 #[v] w fun e w' => e = .returned (.int .i64 (hubE h)) ∧ Below w.heap.size w w' := by
  obtain ⟨a, c, p, d, q, gc, X, rfl, hX⟩ := hh
  have HX := Lib.hid hX
  have H1 := Lib.hid (@hubE_1 h)
  have H2 := Lib.hid (@hubE_2 h)
  have H3 := Lib.hid (@hubE_3 h)
  have H4 := Lib.hid (@hubE_4 h)
  have HLEN : Hid (X.length = h.2.2.length) := by show _ = _; rw [← hX.are]; simp
  have HAT : Hid (∀ k, (hk : k < X.length) → ∃ hp : k < h.2.2.length, h.2.2[k] = X[k].1) := fun k hk => peers_at hX.are k hk
  have hf3 : X.length ≤ 9223372036854775807 := hX.few3
  clear hX
  obtain ⟨⟨L, T⟩, n, P⟩ := h
  go_enter Tryz.func19, Tryz.ntmps19
  go_wp2_with fail
  obtain ⟨W0, hW, hA, hB, -⟩ := laid1 w [Value.slice a L.length c, .slice p T.length d, .int .i64 n, .slice q X.length gc] 31
  have HB0 := Lib.hid hB
  rw [hW]
  clear hW
  refine (hcheck_any W0 a p c d L T HX.out.few1 HX.out.few2 (HX.out.keep HB0.out).steps (HX.out.keep HB0.out).places).mono ?_
  rintro e w1 ⟨rfl, hb⟩
  have hA1 := hA.keep hb
  have HB1 : Hid (Below w.heap.size w w1) := hB.trans (hb.mono hB.size)
  clear hA hb hB HB0
  have x2 := hA1.at 2 rfl
  have x3 := hA1.at 3 rfl
  by_cases hz : histE L T = 0
  case neg =>
    have d1 : (histE L T != 0) = true := by simpa using hz
    have HE : Hid (hubE ((L, T), n, P) = histE L T) := H1.out hz
    clear hz H1 H2 H3 H4
    generalize histE L T = IE at *
    go_wp2
    go_ret
    exact ⟨ret_int HE.out.symm, HB1.out⟩
  have HZ0 : Hid (histE L T = 0) := hz
  rw [hz]
  clear hz
  go_wp2_with fail
  refine (uwithin_any _ n 60).mono ?_
  rintro e w2 ⟨rfl, rfl⟩
  by_cases hn : 0 ≤ n ∧ n ≤ 60
  case neg =>
    have d1 : decide (0 ≤ n ∧ n ≤ 60) = false := decide_eq_false hn
    have HE := Lib.hid (H2.out HZ0.out hn)
    rw [d1]
    clear hn d1
    go_wp2
    go_ret
    exact ⟨ret_int HE.out.symm, HB1.out⟩
  have d1 : decide (0 ≤ n ∧ n ≤ 60) = true := decide_eq_true hn
  rw [d1]
  have HN := Lib.hid hn
  clear d1 hn
  by_cases hl : X.length = 3
  case neg =>
    have d1 : ((X.length : Int) != 3) = true := by simp; omega
    have HE := Lib.hid (H3.out HZ0.out HN.out (by have := HLEN.out; omega))
    clear hl
    go_wp2
    go_ret
    exact ⟨ret_int HE.out.symm, HB1.out⟩
  have HE0 : Hid (hubE ((L, T), n, P) = peersE P) := (H4.out HZ0.out HN.out (by have := HLEN.out; omega))
  have HL3 := Lib.hid hl
  have hf4 : X.length < 4 := by omega
  have d1 : ((X.length : Int) != 3) = false := by simp; omega
  clear H1 H2 H3 H4 hl
  go_wp2
  clear x2 x3 d1
  go_loopw [24] (fun i W => ∃ k : Nat, k ≤ X.length ∧ i = .int .i64 k ∧ (∀ j, (hj : j < P.length) → j < k → peerE P[j] = 0) ∧ Below w2.heap.size w2 W) (fun i _ => X.length - (intOf i).toNat)
  case atStart => exact ⟨0, Nat.zero_le _, rfl, fun j _ hj => absurd hj (Nat.not_lt_zero _), Below.refl _ _⟩
  case round =>
    obtain ⟨k, hk, rfl, hno, hb⟩ := hrel
    have HNO := Lib.hid hno
    have HBL0 := Lib.hid hb
    have HBr : Hid (Below w.heap.size w wr) := HB1.out.trans (hb.mono HB1.out.size)
    clear hno hb
    by_cases hlt : k < X.length
    case neg =>
      have HE : Hid (peersE P = 0) := peersE_none (fun j hj => HNO.out j hj (by have := HLEN.out; omega))
      clear HNO
      go_wp2
      go_ret
      exact ⟨ret_int (by rw [HE0.out, HE.out]), HBr.out⟩
    have hXr := HX.out.peers.keep HBr.out
    obtain ⟨hp, hpe⟩ := HAT.out k hlt
    obtain ⟨bx, ox, rfl, hbx, hrx⟩ := hXr.reads.at prC_len k hlt
    have HRX := Lib.hid (hXr.roots _ (List.getElem_mem hlt))
    obtain ⟨g0, g1, g2⟩ := pr_cells hrx
    have HFI : Hid (peerE X[k].1 ≠ 0 → peersE P = peerE X[k].1) := by
      intro e
      rw [← hpe] at e ⊢
      exact peersE_first hp HNO.out e
    have HNX : Hid (peerE X[k].1 = 0 → ∀ j, (hj : j < P.length) → j < k + 1 → peerE P[j] = 0) := by
      intro e j hj hjk
      by_cases hjk' : j < k
      · exact HNO.out j hj hjk'
      · have : j = k := by omega
        subst this
        rw [← hpe] at e
        exact e
    clear hrx hXr hpe HNO
    generalize X[k] = x at *
    obtain ⟨⟨f1, q1, R1⟩, a1, c1⟩ := x
    simp only at g0 g1 g2
    have hlti : (k : Int) < (X.length : Int) := by omega
    go_wp2_with fail
    obtain ⟨W3, hW, -, hB3, -⟩ := laid1 wr [Value.int IntKind.i64 f1, .int .i64 q1, .slice a1 R1.length c1] 66
    rw [hW]
    clear hW g0 g1 g2
    refine (ucheckPeer_any W3 ((f1, q1, R1), a1, c1) (HRX.out.keep hB3)).mono ?_
    rintro e w4 ⟨rfl, hb4⟩
    have HB4 : Hid (Below w.heap.size w w4) := HBr.out.trans ((hB3.trans (hb4.mono hB3.size)).mono HBr.out.size)
    have HBL : Hid (Below w2.heap.size w2 w4) := HBL0.out.trans ((hB3.trans (hb4.mono hB3.size)).mono HBL0.out.size)
    clear hB3 hb4 HRX
    skip
    by_cases hz : peerE (f1, q1, R1) = 0
    · have HZ := Lib.hid (HNX.out hz)
      rw [hz]
      clear hz HFI HNX
      go_wp2
      go_roundw
      case rel => exact ⟨k + 1, hlt, by go_num, HZ.out, HBL.out⟩
      case measure => simp [intOf]; omega
    · have HZ := Lib.hid (HFI.out hz)
      have d1 : (peerE (f1, q1, R1) != 0) = true := by simpa using hz
      clear hz HFI HNX
      generalize peerE (f1, q1, R1) = PE at *
      go_wp2
      go_ret
      exact ⟨ret_int (by rw [HE0.out, HZ.out]), HB4.out⟩


end Go.Proofs.YthlhnokgcnieeadGreatDoor

/- note.Check, orangeryref.CheckRec: what they answer of whatever record. -/
namespace Go.Proofs.YthlhnokgcnieeadGreatDoor
open Go.ChangeShapes Go.WideShapes Go.ChangeAt Go.RowKit
open Orangery (Pl Mv Rc noOp checkRec checkOp rootsOk)

theorem checkRec_1 (u f : Int) (R : List Int) (o : Mv) : checkRec (1, u, f, R, o) = opRecE u f R o := rfl
theorem checkRec_2 (u f : Int) (R : List Int) (o : Mv) : checkRec (2, u, f, R, o) = cliE 2 u f R o := by
  unfold checkRec cliE
  simp only [if_neg (show ¬ (2 : Int) = 1 by decide), if_true]
  by_cases h1 : o = noOp
  · by_cases h2 : R = []
    · subst h1 h2
      simp
      split
      · rfl
      · rfl
    · simp [h1, h2]
  · simp [h1]
theorem checkRec_3 (u f : Int) (R : List Int) (o : Mv) : checkRec (3, u, f, R, o) = cliE 3 u f R o := by
  unfold checkRec cliE
  simp only [if_neg (show ¬ (3 : Int) = 1 by decide), if_neg (show ¬ (3 : Int) = 2 by decide), if_true]
  simp
theorem checkRec_0 {k : Int} (h1 : k ≠ 1) (h2 : k ≠ 2) (h3 : k ≠ 3) (u f : Int) (R : List Int) (o : Mv) : checkRec (k, u, f, R, o) = 4 := by
  unfold checkRec
  simp only
  rw [if_neg h1, if_neg h2, if_neg h3]

set_option maxHeartbeats 1000000 in
theorem ncheck_any (w : World) (k u f : Int) (a : Option Addr) (c : Nat) (R : List Int) (o : Mv) (hl : R.length ≤ maxLen) (h : SlI w a R) :
    Calls Tryz.prog 21 #[rcV k u f (.slice a R.length c) o] w fun e w' => e = .returned (.int .i64 (checkRec (k, u, f, R, o))) ∧ Below w.heap.size w w' := by
  by_cases h1 : k = 1
  · subst h1
    rw [checkRec_1]
    go_enter Tryz.func21, Tryz.ntmps21
    go_wp2_with fail
    refine (ncheckOp_any _ 1 u f a c R o).mono ?_
    rintro e w1 ⟨rfl, hb⟩
    have hb1 : Below w.heap.size w w1 := (Go.Joins.below_alloc1 w _).trans (hb.mono (by simp))
    clear hb
    go_wp2
    go_ret
    exact ⟨rfl, hb1⟩
  by_cases h2 : k = 2
  · subst h2
    rw [checkRec_2]
    clear h1
    go_enter Tryz.func21, Tryz.ntmps21
    go_wp2_with fail
    refine (ncheckOfClient_any _ 2 u f a c R o hl (h.below (Go.Joins.below_alloc1 w _))).mono ?_
    rintro e w1 ⟨rfl, hb⟩
    have hb1 : Below w.heap.size w w1 := (Go.Joins.below_alloc1 w _).trans (hb.mono (by simp))
    clear hb
    go_wp2
    go_ret
    exact ⟨rfl, hb1⟩
  by_cases h3 : k = 3
  · subst h3
    rw [checkRec_3]
    clear h1 h2
    go_enter Tryz.func21, Tryz.ntmps21
    go_wp2_with fail
    refine (ncheckOfClient_any _ 3 u f a c R o hl (h.below (Go.Joins.below_alloc1 w _))).mono ?_
    rintro e w1 ⟨rfl, hb⟩
    have hb1 : Below w.heap.size w w1 := (Go.Joins.below_alloc1 w _).trans (hb.mono (by simp))
    clear hb
    go_wp2
    go_ret
    exact ⟨rfl, hb1⟩
  have HE : Hid (checkRec (k, u, f, R, o) = 4) := checkRec_0 h1 h2 h3 u f R o
  have e1 : (k == 1) = false := by simpa using h1
  have e2 : (k == 2) = false := by simpa using h2
  have e3 : (k == 3) = false := by simpa using h3
  clear h1 h2 h3
  go_enter Tryz.func21, Tryz.ntmps21
  go_wp2
  go_ret
  exact ⟨ret_int HE.out.symm, Go.Joins.below_alloc1 w _⟩

theorem cli2_range {u f : Int} {o : Mv} (ho : o = noOp) (h2 : ¬ (0 ≤ u ∧ u ≤ 2) ∨ ¬ (1 ≤ f ∧ f ≤ 50)) : cliE 2 u f [] o = 3 := by
  refine cliE_range (by simp [ho]) ?_
  rcases h2 with h2 | h2
  · exact Or.inl h2
  · exact Or.inr ⟨rfl, h2⟩
theorem cli2_ok {u f : Int} {o : Mv} (ho : o = noOp) (h1 : 0 ≤ u ∧ u ≤ 2) (h2 : 1 ≤ f ∧ f ≤ 50) : cliE 2 u f [] o = rootsOk [] := cliE_ok (by simp [ho]) (by omega)

theorem in02 (u : Int) : (inB u 0 2 = false → ¬ (0 ≤ u ∧ u ≤ 2)) ∧ (inB u 0 2 = true → 0 ≤ u ∧ u ≤ 2) := by
  constructor <;> intro h <;> simpa [inB] using h
theorem in150 (u : Int) : (inB u 1 50 = false → ¬ (1 ≤ u ∧ u ≤ 50)) ∧ (inB u 1 50 = true → 1 ≤ u ∧ u ≤ 50) := by
  constructor <;> intro h <;> simpa [inB] using h

end Go.Proofs.YthlhnokgcnieeadGreatDoor

/- hub.New, orangeryref.FreshHub; hub.Next, hub.Sees. -/
namespace Go.Proofs.YthlhnokgcnieeadGreatDoor
open Go.ChangeShapes Go.WideShapes Go.ChangeAt Go.RowKit
open Orangery (Pl Mv Stp Rc Pr Hb peerE peersE rootsOk hubE histE newHb prOf stepE stepH noHb insE insL insT checkRec nextE nextH orI)

theorem sizeRecH : (Tryz.prog.info? 43).map (·.size) = some 11 := by kernel_rfl
theorem row_blk {w : World} {base g cap n k : Nat} {e : TypeId} {cs : List Value} (h : w.ownsRow base e k (.slice (some ⟨g, 0, none⟩) n cap) n cs) : Blk w g cs := by
  rcases h.2 with ⟨h', _⟩ | ⟨g', cap', cur, h', hb, hg, hn, hm, hs, ht⟩
  · simp at h'
  · obtain ⟨rfl, rfl⟩ : g = g' ∧ cap = cap' := by simpa using h'
    refine ⟨blk_lt hg, fun j => ?_, fun i v hv => ?_⟩
    · unfold World.frozen?
      simp only [hg]
      simp
    · rw [← ht] at hv
      rw [Go.Joins.cell_of_block hg]
      have hi : i < n * k := by
        have := (List.getElem?_eq_some_iff.1 hv).1
        simp at this
        omega
      rw [List.getElem?_take_of_lt hi] at hv
      simpa using hv
theorem newRow {w : World} {g : Nat} {cs : List Value} (hc : cs = [.int .i64 0, .int .i64 0, .slice none 0 0, .int .i64 0, .int .i64 0, .slice none 0 0, .int .i64 0, .int .i64 0, .slice none 0 0]) (h : Blk w g cs) : HuX (g ≤ ·) newHb w [.slice none 0 0, .slice none 0 0, .int .i64 0, .slice (some ⟨g, 0, none⟩) 3 3] := by
  subst hc
  have hb : Blk w g (([((0, 0, []), none, 0), ((0, 0, []), none, 0), ((0, 0, []), none, 0)] : List Pm).flatMap prC) := h
  refine ⟨none, 0, none, 0, some ⟨g, 0, none⟩, 3, [((0, 0, []), none, 0), ((0, 0, []), none, 0), ((0, 0, []), none, 0)], rfl, ⟨Or.inl rfl, Or.inl rfl, ⟨Or.inr ⟨g, 0, rfl, h.lt, hb.range⟩, ?_⟩, rfl, by simp [newHb], by simp [newHb, maxLen], by simp [maxLen]⟩, ⟨Or.inl rfl, Or.inl rfl, Or.inr ?_, ?_⟩⟩
  · intro x hx
    simp at hx
    subst hx
    exact PIn.nil _ _ _ _
  · intro b off e
    obtain ⟨rfl, _⟩ : g = b ∧ 0 = off := by simpa using e
    exact Nat.le_refl _
  · intro x hx
    simp at hx
    subst hx
    exact Or.inl rfl


set_option maxHeartbeats 1000000 in
theorem unew_any (w : World) : Calls Tryz.prog 14 #[] w fun e w' => ∃ vs, e = .returned (.agg vs.toArray) ∧ HuX (w.heap.size ≤ ·) newHb w' vs ∧ Below w.heap.size w w' := by
  obtain ⟨i0, hi, hz0, hz1, hz2⟩ := info_parts infoPeer
  obtain ⟨W0, hW, hA, hB, hS⟩ := laid1 w [Value.slice none 0 0, .slice none 0 0, .int .i64 0, .slice none 0 0] 31
  go_enter Tryz.func14, Tryz.ntmps14
  go_wp2_with (at_make; refine wpList_make_full _ rfl _ _ 29 rfl w.heap.size 66 i0 _ 3 Tryz.underlying29 hi hz0 hz1 .i64 .i64 _ _ 3 rfl rfl rfl rfl ?c1 ?c2 ?c3 ?_)
  case c1 => rw [hz2]; omega
  case c2 => unfold maxLen; omega
  case c3 => exact hB.size
  intro w1 hown hgrow
  clear hW
  have hb1 : Below w.heap.size w w1 := hB.trans (below_grown (v := .slice none 0 0) (World.ownsRow_nil _ _ 66 3) hB.size hgrow)
  have hA1 := hA.grown hgrow (by simp)
  have emade : (madeCells #[Value.int IntKind.i64 0, Value.int IntKind.i64 0, Value.slice none 0 0] 9).toList = [.int .i64 0, .int .i64 0, .slice none 0 0, .int .i64 0, .int .i64 0, .slice none 0 0, .int .i64 0, .int .i64 0, .slice none 0 0] := by kernel_rfl
  rw [emade] at hown
  have hblk : Blk w1 (w.heap.size + 1) [.int .i64 0, .int .i64 0, .slice none 0 0, .int .i64 0, .int .i64 0, .slice none 0 0, .int .i64 0, .int .i64 0, .slice none 0 0] := row_blk hown
  have HN := Lib.hid (((newRow rfl hblk).sets w.heap.size (fun b hb => by omega) [.slice none 0 0, .slice none 0 0, .int .i64 0, .slice (some ⟨w.heap.size + 1, 0, none⟩) 3 3] 0).imp (D' := fun b => w.heap.size ≤ b) (fun b hb => by omega))
  have HB1 := Lib.hid (below_sets hb1 w.heap.size (Nat.le_refl _) [.slice none 0 0, .slice none 0 0, .int .i64 0, .slice (some ⟨w.heap.size + 1, 0, none⟩) 3 3] 0)
  have rf := hA1.frz
  have r0 := hA1.at 0 rfl
  have r1 := hA1.at 1 rfl
  have r2 := hA1.at 2 rfl
  have r3 := hA1.at 3 rfl
  clear hown hgrow hblk hA hB hb1 hS
  go_wp2
  refine ret_cell Tryz.results14 rfl ((hA1.sets [.slice none 0 0, .slice none 0 0, .int .i64 0, .slice (some ⟨w.heap.size + 1, 0, none⟩) 3 3] rfl).load Tryz.underlying31 rfl sizeHub) ?_
  exact ⟨_, rfl, HN.out, HB1.out⟩


theorem next_or {h : Hb} {r : Rc} (e : orI (hubE h) (checkRec r) ≠ 0) : nextE h r = orI (hubE h) (checkRec r) := by
  unfold nextE
  unfold orI at e ⊢
  by_cases h1 : hubE h = 0
  · rw [if_neg (by simp [h1])] at e
    rw [if_neg (by simp [h1]), if_pos e, if_neg (by simp [h1])]
  · rw [if_pos h1, if_pos h1]
theorem next_then {h : Hb} {r : Rc} (h1 : hubE h = 0) (h2 : checkRec r = 0) : nextE h r = stepE h r := by
  unfold nextE
  rw [if_neg (by simp [h1]), if_neg (by simp [h2])]
theorem nextH_bad {h : Hb} {r : Rc} (e : nextE h r ≠ 0) : nextH h r = noHb := by unfold nextH; rw [if_pos e]
theorem nextH_ok {h : Hb} {r : Rc} (e : nextE h r = 0) : nextH h r = stepH h r := by unfold nextH; rw [if_neg (by simp [e])]

set_option maxHeartbeats 4000000 in
set_option maxRecDepth 100000 in
theorem unext_any (w : World) (v : Value) (h : Hb) (r : Rc) (ar : Option Addr) (cr : Nat) (hh : HuIs w v h) (hl : r.2.2.2.1.length ≤ maxLen) (hr : SlI w ar r.2.2.2.1) :
    Calls Tryz.prog 7 #[v, rcV r.1 r.2.1 r.2.2.1 (.slice ar r.2.2.2.1.length cr) r.2.2.2.2] w (Gives (HuX (w.heap.size ≤ ·) (nextH h r)) w (nextE h r)) := by
  have HH := Lib.hid hh
  have HR := Lib.hid hr
  have HRL := Lib.hid hl
  obtain ⟨a, c, p, d, q, gc, X, rfl, -⟩ := hh
  clear hr hl
  have HBAD : Hid (∀ E w', E = nextE h r → E ≠ 0 → Below w.heap.size w w' → Gives (HuX (w.heap.size ≤ ·) (nextH h r)) w (nextE h r) (.returned (.tuple #[.agg [Value.slice none 0 0, .slice none 0 0, .int .i64 0, .slice none 0 0].toArray, .int .i64 E])) w') := by
    intro E w' e hne hb
    subst e
    exact ⟨_, rfl, by rw [nextH_bad hne]; exact HuX.no _ _, hb⟩
  have CK1 : Hid (∀ W', Below w.heap.size w W' → Calls Tryz.prog 19 #[huV (.slice a h.1.1.length c) (.slice p h.1.2.length d) h.2.1 (.slice q X.length gc)] W' fun e w' => e = .returned (.int .i64 (hubE h)) ∧ Below W'.heap.size W' w') := fun W' hw => ucheck_any W' _ h (HH.out.keep hw)
  have CK2 : Hid (∀ W', Below w.heap.size w W' → Calls Tryz.prog 21 #[rcV r.1 r.2.1 r.2.2.1 (.slice ar r.2.2.2.1.length cr) r.2.2.2.2] W' fun e w' => e = .returned (.int .i64 (checkRec r)) ∧ Below W'.heap.size W' w') := fun W' hw => ncheck_any W' _ _ _ ar cr _ _ HRL.out (HR.out.below hw)
  have CL : Hid (hubE h = 0 → ∀ W', Below w.heap.size w W' → Calls Tryz.prog 22 #[huV (.slice a h.1.1.length c) (.slice p h.1.2.length d) h.2.1 (.slice q X.length gc)] W' (Cloned W' h)) := fun hok W' hw => uclone_any W' _ h hok (HH.out.keep hw)
  have HOR := Lib.hid (@next_or h r)
  have HTH := Lib.hid (@next_then h r)
  have HNB := Lib.hid (@nextH_ok h r)
  have HRT : Hid (∀ W', Below w.heap.size w W' → SlI W' ar r.2.2.2.1) := fun W' hw => HR.out.below hw
  obtain ⟨W0, hW, hA, hC, hZ, hB, hS⟩ := laid3 w [Value.slice a h.1.1.length c, .slice p h.1.2.length d, .int .i64 h.2.1, .slice q X.length gc] 31 (rcL r.1 r.2.1 r.2.2.1 (.slice ar r.2.2.2.1.length cr) r.2.2.2.2) 43 [Value.slice none 0 0, .slice none 0 0, .int .i64 0, .slice none 0 0] 31
  have HB0 := Lib.hid hB
  clear hB HR HH HRL
  go_enter Tryz.func7, Tryz.ntmps7
  go_wp2_with fail
  clear hW
  refine wp_region_held_drew (S := fun w' => Below W0.heap.size W0 w') (by kernel_rfl) ((Below.refl _ W0).drew) (fun hHeld => ?_)
  refine take_load 0 9 31 w.heap.size [Value.slice a h.1.1.length c, .slice p h.1.2.length d, .int .i64 h.2.1, .slice q X.length gc] rfl rfl (by kernel_rfl) (by kernel_rfl) (by kernel_rfl) (fun _ _ _ h => h) (by rfl) (by rfl) (by rfl) (fun w hw => (hA.keep hw).range) Tryz.underlying31 rfl sizeHub hHeld ?_
  simp only [Act.put, List.setIfInBounds_toArray, List.set_cons_succ, List.set_cons_zero]
  refine take_load 2 11 43 (w.heap.size + 1) (rcL r.1 r.2.1 r.2.2.1 (.slice ar r.2.2.2.1.length cr) r.2.2.2.2) rfl rfl (by kernel_rfl) (by kernel_rfl) (by kernel_rfl) (fun _ _ _ h => h) (by rfl) (by rfl) (by rfl) (fun w hw => (hC.keep hw).range) Tryz.underlying43 rfl sizeRecH hHeld ?_
  simp only [Act.put, List.setIfInBounds_toArray, List.set_cons_succ, List.set_cons_zero]
  refine wpAnyH_ready (rs := [1]) (by kernel_rfl) (by simp) ?_
  refine AllReadyH.cons rfl (fun KK hKK => ?_) AllReadyH.nil
  go_simp
  refine (CK1.out _ (HB0.out.trans (hHeld.mono HB0.out.size))).mono ?_
  rintro e w1 ⟨rfl, hb1⟩
  have hS1 : Below W0.heap.size W0 w1 := hHeld.trans (hb1.mono hHeld.size)
  go_wp2_with fail
  refine hKK.out _ _ (hS1) (fun hHeld => ?_)
  clear hKK KK
  refine wpAnyH_ready (rs := [3]) (by kernel_rfl) (by simp) ?_
  refine AllReadyH.cons rfl (fun KK hKK => ?_) AllReadyH.nil
  go_simp
  refine (CK2.out _ (HB0.out.trans (hHeld.mono HB0.out.size))).mono ?_
  rintro e w2 ⟨rfl, hb2⟩
  have hS2 : Below W0.heap.size W0 w2 := hHeld.trans (hb2.mono hHeld.size)
  go_wp2_with fail
  refine hKK.out _ _ (hS2) (fun hHeld => ?_)
  clear hKK KK
  refine wpAnyH_ready (rs := [4]) (by kernel_rfl) (by simp) ?_
  refine AllReadyH.cons rfl (fun KK hKK => ?_) AllReadyH.nil
  go_simp
  have hE2 := Blk.new w2 [Value.int IntKind.i64 (hubE h), .int .i64 (checkRec r)] 32
  refine hKK.out _ _ (hHeld.alloc hHeld.size _) (fun hHeld => ?_)
  clear hKK KK
  refine wpAnyH_ready (rs := [5]) (by kernel_rfl) (by simp) ?_
  refine AllReadyH.cons rfl (fun KK hKK => ?_) AllReadyH.nil
  go_simp
  refine (orE_any _ w2.heap.size _ (hubE h) (checkRec r) (hE2.at 0 rfl) (hE2.at 1 rfl)).mono ?_
  rintro e w3 ⟨rfl, rfl⟩
  go_wp2_with fail
  refine hKK.out _ _ (hHeld) (fun hHeld => ?_)
  clear hKK KK
  refine take_yes 6 6 (v := ?_) rfl rfl (by kernel_rfl) (by kernel_rfl) (by kernel_rfl) (fun _ _ _ h => h) (by rfl) ?_ hHeld ?_
  rotate_left 1
  · (intro w hSw; go_simp; try with_reducible rfl)
  simp only [Act.put, List.setIfInBounds_toArray, List.set_cons_succ, List.set_cons_zero]
  refine wpAnyH_done (by kernel_rfl) ?_ _
  have HB3 := Lib.hid (HB0.out.trans (hHeld.mono HB0.out.size))
  have hA3 := hA.keep hHeld
  have hC3 := hC.keep hHeld
  have hZ3 := hZ.keep hHeld
  clear hHeld hE2 hS1 hS2 hb1 hb2 HB0 hA hC hZ CK1 CK2
  generalize (w2.alloc (Obj.cells #[Value.int IntKind.i64 (hubE h), Value.int IntKind.i64 (checkRec r)] 32)) = W3 at *
  by_cases hz : orI (hubE h) (checkRec r) = 0
  case neg =>
    have d1 : (orI (hubE h) (checkRec r) != 0) = true := by simpa using hz
    have HE := Lib.hid (HOR.out hz)
    have HZ := Lib.hid hz
    clear hz HOR HTH HNB CL HRT
    generalize orI (hubE h) (checkRec r) = OE at *
    have rf := hZ3.frz
    have r0 := hZ3.at 0 rfl
    have r1 := hZ3.at 1 rfl
    have r2 := hZ3.at 2 rfl
    have r3 := hZ3.at 3 rfl
    go_wp2
    have hRf := hZ3.sets [Value.slice none 0 0, .slice none 0 0, .int .i64 0, .slice none 0 0] rfl
    refine ret_cell_tmp Tryz.results7 rfl rfl (hRf.load Tryz.underlying31 rfl sizeHub) ?_
    exact HBAD.out OE _ HE.out.symm HZ.out (below_sets HB3.out (w.heap.size + 2) (by omega) [Value.slice none 0 0, .slice none 0 0, .int .i64 0, .slice none 0 0] 0)
  have hz1 : hubE h = 0 ∧ checkRec r = 0 := or_zero hz
  have HOK : Hid (hubE h = 0) := hz1.1
  have HCR : Hid (checkRec r = 0) := hz1.2
  have HST := Lib.hid (HTH.out hz1.1 hz1.2)
  have CLO := Lib.hid (CL.out hz1.1)
  rw [hz]
  clear hz hz1 HOR HTH CL
  by_cases hv : h.2.1 = 60
  · have d1 : (h.2.1 == 60) = true := by simpa using hv
    have HE : Hid (2 = nextE h r) := by show _ = _; rw [HST.out]; unfold stepE; rw [if_pos hv]
    clear hv HNB CLO HRT
    have rf := hZ3.frz
    have r0 := hZ3.at 0 rfl
    have r1 := hZ3.at 1 rfl
    have r2 := hZ3.at 2 rfl
    have r3 := hZ3.at 3 rfl
    have x2 := hA3.at 2 rfl
    go_wp2
    have hRf := hZ3.sets [Value.slice none 0 0, .slice none 0 0, .int .i64 0, .slice none 0 0] rfl
    refine ret_cell_tmp Tryz.results7 rfl rfl (hRf.load Tryz.underlying31 rfl sizeHub) ?_
    exact HBAD.out 2 _ HE.out (by omega) (below_sets HB3.out (w.heap.size + 2) (by omega) [Value.slice none 0 0, .slice none 0 0, .int .i64 0, .slice none 0 0] 0)
  have d1 : (h.2.1 == 60) = false := by simpa using hv
  have HV : Hid (h.2.1 ≠ 60) := hv
  have hn60 : 0 ≤ h.2.1 ∧ h.2.1 ≤ 60 := ((Orangery.hubE_zero h).1 HOK.out).2.1
  have hn1 := hn60.1
  have hn2 := hn60.2
  clear hv hn60
  have x0 := hA3.at 0 rfl
  have x1 := hA3.at 1 rfl
  have x2 := hA3.at 2 rfl
  have x3 := hA3.at 3 rfl
  go_wp2_with fail
  refine (CLO.out W3 HB3.out).mono ?_
  rintro e w4 ⟨g, cap, aL, cL, aT, cT, Y, rfl, hg, hR4, hM4, hL4, hT4, og1, og2, ⟨in1, in2, in3⟩, hb4⟩
  have hZ4 := hZ3.keep hb4
  have hC4 := hC3.keep hb4
  have HB4 := Lib.hid (HB3.out.trans (hb4.mono HB3.out.size))
  have hlz : w.heap.size + 2 < W3.heap.size := hZ3.lt
  have hsz4 := hb4.size
  clear hA3 hC3 hZ3 x0 x1 x2 x3 CLO hb4 d1
  obtain ⟨W5, hW5, hN5, hB5, hS5⟩ := laid1 w4 [Value.slice aL h.1.1.length cL, .slice aT h.1.2.length cT, .int .i64 h.2.1, .slice (some ⟨g, 0, none⟩) 3 cap] 31
  have hgl : g < w4.heap.size := hR4.blk.lt
  have HBOX : Hid (BoxAt W3.heap.size (W5.setCell ⟨w4.heap.size, 2, none⟩ (.int .i64 (h.2.1 + 1))) w4.heap.size g cap aL cL aT cT Y (h.1, h.2.1 + 1, h.2.2)) := by
    refine ⟨hN5.set 2 (by simp) _, (hR4.keep hB5).other (by omega) (fun x hx => ((hR4.roots x hx).1.off (Nat.le_refl _))) [_] 2, hM4, (hL4.below hB5).sets (hL4.off (Nat.le_refl _)) [_] 2, (hT4.below hB5).sets (hT4.off (Nat.le_refl _)) [_] 2, og1, hL4.off (Nat.le_refl _), og2, hT4.off (Nat.le_refl _), fun x hx => ((hR4.roots x hx).1.off (Nat.le_refl _)), by omega, in1, in2, in3⟩
  have hZ5 := (hZ4.keep hB5).other (by omega : w.heap.size + 2 ≠ w4.heap.size) 2 (.int .i64 (h.2.1 + 1))
  have hC5 := (hC4.keep hB5).other (by omega : w.heap.size + 1 ≠ w4.heap.size) 2 (.int .i64 (h.2.1 + 1))
  have HB5 : Hid (Below w.heap.size w (W5.setCell ⟨w4.heap.size, 2, none⟩ (.int .i64 (h.2.1 + 1)))) := below_sets (HB4.out.trans (hB5.mono HB4.out.size)) w4.heap.size (by omega) [_] 2
  have n2 := hN5.at 2 rfl
  have nf := hN5.frz
  have HB5B : Hid (Below W3.heap.size w4 (W5.setCell ⟨w4.heap.size, 2, none⟩ (.int .i64 (h.2.1 + 1)))) := below_sets (hB5.mono hsz4) w4.heap.size hsz4 [_] 2
  clear hL4 hT4 hR4 hM4 hZ4 hC4 hN5 hB5 hS5 og1 og2
  have m0 := hC5.at 0 rfl
  have m1 := hC5.at 1 rfl
  have m2 := hC5.at 2 rfl
  have m3 := hC5.at 3 rfl
  have m4 := hC5.at 4 rfl
  have m5 := hC5.at 5 rfl
  have m6 := hC5.at 6 rfl
  have m7 := hC5.at 7 rfl
  have m8 := hC5.at 8 rfl
  have m9 := hC5.at 9 rfl
  have m10 := hC5.at 10 rfl
  go_wp2_with fail
  clear m0 m1 m2 m3 m4 m5 m6 m7 m8 m9 m10 n2 nf hW5 hC5
  generalize W5.setCell ⟨w4.heap.size, 2, none⟩ (.int .i64 (h.2.1 + 1)) = W6 at *
  generalize hnb : w4.heap.size = nb at *
  refine (uaccept_any W6 W3.heap.size nb g cap aL aT cL cT Y h r ar cr HOK.out HV.out HCR.out HBOX.out hg (by omega) (HRT.out _ HB5.out)).mono ?_
  rintro e w7 ⟨rfl, hb7, hbx7⟩
  have HB7 := Lib.hid (HB5.out.trans (hb7.mono (by have := HB3.out.size; omega)))
  have hZ7 := hZ5.below hb7 hlz
  have rf := hZ7.frz
  have r0 := hZ7.at 0 rfl
  have r1 := hZ7.at 1 rfl
  have r2 := hZ7.at 2 rfl
  have r3 := hZ7.at 3 rfl
  clear hZ5 HB5 HB5B hb7
  by_cases hz : stepE h r = 0
  case neg =>
    have d1 : (stepE h r != 0) = true := by simpa using hz
    have HE : Hid (stepE h r = nextE h r) := HST.out.symm
    have HZ := Lib.hid hz
    clear hz hbx7 HNB
    generalize stepE h r = OE at *
    go_wp2
    have hRf := hZ7.sets [Value.slice none 0 0, .slice none 0 0, .int .i64 0, .slice none 0 0] rfl
    refine ret_cell_tmp Tryz.results7 rfl rfl (hRf.load Tryz.underlying31 rfl sizeHub) ?_
    exact HBAD.out OE _ HE.out HZ.out (below_sets HB7.out (w.heap.size + 2) (by omega) [Value.slice none 0 0, .slice none 0 0, .int .i64 0, .slice none 0 0] 0)
  have HE : Hid (nextE h r = 0) := by show _ = _; rw [HST.out]; exact hz
  have HFEW := Lib.hid (hub_few (Orangery.next_ok HE.out).2.2.2)
  have HNH := Lib.hid (HNB.out HE.out)
  obtain ⟨aF, cF, pF, dF, Z, hF⟩ := hbx7 hz
  have HF := Lib.hid hF
  rw [hz]
  have y0 := hF.blk.at 0 rfl
  have y1 := hF.blk.at 1 rfl
  have y2 := hF.blk.at 2 rfl
  have y3 := hF.blk.at 3 rfl
  clear hz HNB hF hbx7
  generalize hHs : stepH h r = H at *
  have hHs' : Hid (stepH h r = H) := hHs
  clear hHs
  go_wp2
  have hRf := hZ7.sets [Value.slice aF H.1.1.length cF, .slice pF H.1.2.length dF, .int .i64 H.2.1, .slice (some ⟨g, 0, none⟩) 3 cap] rfl
  refine ret_cell_tmp Tryz.results7 rfl rfl (hRf.load Tryz.underlying31 rfl sizeHub) ?_
  refine ⟨[Value.slice aF H.1.1.length cF, .slice pF H.1.2.length dF, .int .i64 H.2.1, .slice (some ⟨g, 0, none⟩) 3 cap], by rw [HE.out]; rfl, ?_, below_sets HB7.out (w.heap.size + 2) (by omega) [Value.slice aF H.1.1.length cF, .slice pF H.1.2.length dF, .int .i64 H.2.1, .slice (some ⟨g, 0, none⟩) 3 cap] 0⟩
  rw [HNH.out]
  have hF := HF.out
  have hfew := HFEW.out
  have hin : HuX (W3.heap.size ≤ ·) H w7 [Value.slice aF H.1.1.length cF, .slice pF H.1.2.length dF, .int .i64 H.2.1, .slice (some ⟨g, 0, none⟩) 3 cap] := by
    refine ⟨aF, cF, pF, dF, some ⟨g, 0, none⟩, cap, Z, by rw [hF.row.len], ⟨hF.steps, hF.places, hF.row.reads, hF.are, by omega, by unfold maxLen; omega, by rw [hF.row.len]; unfold maxLen; omega⟩, ⟨hF.new1, hF.new2, Or.inr ?_, hF.new3⟩⟩
    intro b off e
    obtain ⟨rfl, _⟩ : g = b ∧ 0 = off := by simpa using e
    exact hg
  exact (hin.sets (w.heap.size + 2) (fun b hb => by omega) [Value.slice aF H.1.1.length cF, .slice pF H.1.2.length dF, .int .i64 H.2.1, .slice (some ⟨g, 0, none⟩) 3 cap] 0).imp (fun b hb => by omega)

end Go.Proofs.YthlhnokgcnieeadGreatDoor

/- hub.Sees, hub.Replay. -/
namespace Go.Proofs.YthlhnokgcnieeadGreatDoor
open Go.ChangeShapes Go.WideShapes Go.ChangeAt Go.RowKit
open Orangery (Pl Mv Stp Rc Pr Hb peerE peersE rootsOk hubE histE newHb prOf stepE stepH noHb insE insL insT checkRec nextE nextH orI ofE ofR ofK ofW runE runH replayE replayH)

def seesB (h : Hb) (who : Int) : Int := if hubE h ≠ 0 then hubE h else if who < 0 ∨ 3 ≤ who then 5 else 0
/-- chapter 8's Sees -/
def seesE (h : Hb) (who : Int) : Int := if seesB h who ≠ 0 then seesB h who else ofE h.1.2 (prOf h who).2.2
def seesR (h : Hb) (who : Int) : List Int := if seesB h who ≠ 0 then [] else ofR h.1.2 (prOf h who).2.2
def seesK (h : Hb) (who : Int) : List Pl := if seesB h who ≠ 0 then [] else ofK h.1.2 (prOf h who).2.2
def seesW (h : Hb) (who : Int) : List Pl := if seesB h who ≠ 0 then [] else ofW h.1.2 (prOf h who).2.2
theorem sees_bad {h : Hb} {who : Int} (e : seesB h who ≠ 0) : seesE h who = seesB h who ∧ seesR h who = [] ∧ seesK h who = [] ∧ seesW h who = [] := by
  unfold seesE seesR seesK seesW
  rw [if_pos e, if_pos e, if_pos e, if_pos e]
  exact ⟨rfl, rfl, rfl, rfl⟩
theorem sees_ok {h : Hb} {who : Int} (e : seesB h who = 0) : seesE h who = ofE h.1.2 (prOf h who).2.2 ∧ seesR h who = ofR h.1.2 (prOf h who).2.2 ∧ seesK h who = ofK h.1.2 (prOf h who).2.2 ∧ seesW h who = ofW h.1.2 (prOf h who).2.2 := by
  unfold seesE seesR seesK seesW
  rw [if_neg (by simp [e]), if_neg (by simp [e]), if_neg (by simp [e]), if_neg (by simp [e])]
  exact ⟨rfl, rfl, rfl, rfl⟩
theorem ViX.no (D : Nat → Prop) (w : World) : ViX D [] [] [] w [.slice none 0 0, .slice none 0 0, .slice none 0 0] :=
  ⟨none, none, none, 0, 0, 0, rfl, Or.inl rfl, Or.inl rfl, Or.inl rfl, Or.inl rfl, Or.inl rfl, Or.inl rfl⟩

set_option maxHeartbeats 4000000 in
set_option maxRecDepth 100000 in
theorem usees_any (w : World) (vs : List Value) (h : Hb) (who : Int) (n : Nat) (hh : HuX (· < n) h w vs) (hnw : n ≤ w.heap.size) :
    Calls Tryz.prog 18 #[.agg vs.toArray, .int .i64 who] w (Gives (ViX (Old n w.heap.size) (seesR h who) (seesK h who) (seesW h who)) w (seesE h who)) := by
  have HH := Lib.hid hh.is
  obtain ⟨a, c, p, d, q, gc, X, rfl, hX, hD⟩ := hh
  have HX := Lib.hid hX
  have HNX := Lib.hid hD.roots
  clear hX hD
  have HBAD : Hid (∀ E w', E = seesB h who → E ≠ 0 → Below w.heap.size w w' → Gives (ViX (Old n w.heap.size) (seesR h who) (seesK h who) (seesW h who)) w (seesE h who) (.returned (.tuple #[.agg [Value.slice none 0 0, .slice none 0 0, .slice none 0 0].toArray, .int .i64 E])) w') := by
    intro E w' e hne hb
    subst e
    obtain ⟨e1, e2, e3, e4⟩ := sees_bad hne
    exact ⟨_, by rw [e1], by rw [e2, e3, e4]; exact ViX.no _ _, hb⟩
  have HGOOD := Lib.hid (@sees_ok h who)
  have HB1 : Hid (hubE h ≠ 0 → hubE h = seesB h who) := fun e => by unfold seesB; rw [if_pos e]
  have HB2 : Hid (hubE h = 0 → (who < 0 ∨ 3 ≤ who) → 5 = seesB h who) := fun e e2 => by unfold seesB; rw [if_neg (by simp [e]), if_pos e2]
  have HB3 : Hid (hubE h = 0 → ¬ (who < 0 ∨ 3 ≤ who) → seesB h who = 0) := fun e e2 => by unfold seesB; rw [if_neg (by simp [e]), if_neg e2]
  have CK : Hid (∀ W', Below w.heap.size w W' → Calls Tryz.prog 19 #[huV (.slice a h.1.1.length c) (.slice p h.1.2.length d) h.2.1 (.slice q X.length gc)] W' fun e w' => e = .returned (.int .i64 (hubE h)) ∧ Below W'.heap.size W' w') := fun W' hw => ucheck_any W' _ h (HH.out.keep hw)
  clear HH
  go_enter Tryz.func18, Tryz.ntmps18
  go_wp2_with fail
  obtain ⟨W0, hW, hA, hZ, hB, -⟩ := laid2 w [Value.slice a h.1.1.length c, .slice p h.1.2.length d, .int .i64 h.2.1, .slice q X.length gc] 31 [Value.slice none 0 0, .slice none 0 0, .slice none 0 0] 62
  rw [hW]
  clear hW
  refine (CK.out W0 hB).mono ?_
  rintro e w1 ⟨rfl, hb⟩
  have hA1 := hA.keep hb
  have hZ1 := hZ.keep hb
  have HBL := Lib.hid (hB.trans (hb.mono hB.size))
  clear hA hZ hB hb CK
  have rf := hZ1.frz
  have r0 := hZ1.at 0 rfl
  have r1 := hZ1.at 1 rfl
  have r2 := hZ1.at 2 rfl
  by_cases hz : hubE h = 0
  case neg =>
    have d1 : (hubE h != 0) = true := by simpa using hz
    have HZ := Lib.hid hz
    have HE := Lib.hid (HB1.out hz)
    clear hz HB1 HB2 HB3 HGOOD
    generalize hubE h = OE at *
    go_wp2
    have hRf := hZ1.sets [Value.slice none 0 0, .slice none 0 0, .slice none 0 0] rfl
    refine ret_cell_tmp Tryz.results18 rfl rfl (hRf.load Tryz.underlying62 rfl sizeView) ?_
    exact HBAD.out OE _ HE.out HZ.out (below_sets HBL.out (w.heap.size + 1) (by omega) [Value.slice none 0 0, .slice none 0 0, .slice none 0 0] 0)
  have HZ := Lib.hid hz
  have HFEW := Lib.hid (hub_few hz)
  rw [hz]
  by_cases hw : who < 0 ∨ 3 ≤ who
  · have HE := Lib.hid (HB2.out hz hw)
    clear hz HB1 HB2 HB3 HGOOD
    by_cases hw1 : who < 0
    · go_wp2
      have hRf := hZ1.sets [Value.slice none 0 0, .slice none 0 0, .slice none 0 0] rfl
      refine ret_cell_tmp Tryz.results18 rfl rfl (hRf.load Tryz.underlying62 rfl sizeView) ?_
      exact HBAD.out 5 _ HE.out (by omega) (below_sets HBL.out (w.heap.size + 1) (by omega) [Value.slice none 0 0, .slice none 0 0, .slice none 0 0] 0)
    · have d2 : decide (who ≥ 3) = true := by simp; omega
      have d1 : decide (who < 0) = false := by simp; omega
      clear hw hw1
      go_wp2
      have hRf := hZ1.sets [Value.slice none 0 0, .slice none 0 0, .slice none 0 0] rfl
      refine ret_cell_tmp Tryz.results18 rfl rfl (hRf.load Tryz.underlying62 rfl sizeView) ?_
      exact HBAD.out 5 _ HE.out (by omega) (below_sets HBL.out (w.heap.size + 1) (by omega) [Value.slice none 0 0, .slice none 0 0, .slice none 0 0] 0)
  have HG := Lib.hid (HGOOD.out (HB3.out hz hw))
  obtain ⟨k, rfl⟩ : ∃ k : Nat, who = (k : Int) := ⟨who.toNat, by omega⟩
  have hk3 : k < 3 := by omega
  have hl3 : X.length = 3 := by have := HFEW.out.2.2.1; rw [← HX.out.are] at this; simpa using this
  have hkl : k < X.length := by omega
  have HP := Lib.hid (prOf_at HX.out.are k hkl)
  obtain ⟨bq, oq, hqe, hbq, hrq⟩ := HX.out.peers.reads.at prC_len k hkl
  subst hqe
  obtain ⟨-, -, g2⟩ := pr_cells hrq
  have g2' : w1.cell? ⟨bq, oq + k * 3 + 2, none⟩ = some (.slice X[k].2.1 X[k].1.2.2.length X[k].2.2) := by rw [HBL.out.cell (by exact hbq)]; exact g2
  have HPI := Lib.hid (HX.out.peers.roots _ (List.getElem_mem hkl))
  have HIN := Lib.hid (HNX.out _ (List.getElem_mem hkl))
  have x1 := hA1.at 1 rfl
  have x3 := hA1.at 3 rfl
  rw [hl3] at x3
  have HL3 := Lib.hid hl3
  have hlti : (k : Int) < 3 := by omega
  have hd1 : decide ((k : Int) < 0) = false := by simp
  have hd2 : decide ((k : Int) ≥ 3) = false := by simp; omega
  have HOF : Hid (∀ W', Below w.heap.size w W' → Calls Tryz.prog 35 #[.agg #[.slice p h.1.2.length d], .slice X[k].2.1 X[k].1.2.2.length X[k].2.2] W' (Gives (ViX (Old n W'.heap.size) (ofR h.1.2 X[k].1.2.2) (ofK h.1.2 X[k].1.2.2) (ofW h.1.2 X[k].1.2.2)) W' (ofE h.1.2 X[k].1.2.2))) := by
    intro W' hw'
    refine (of_any W' p X[k].2.1 d X[k].2.2 h.1.2 X[k].1.2.2 HX.out.few2 HPI.out.2 (HX.out.places.below hw') (HPI.out.1.below hw')).mono ?_
    intro e w' hv
    refine views_gives hv ?_
    unfold ofR
    split
    · exact Or.inl rfl
    · exact HIN.out
  rw [← HP.out] at HG
  generalize X[k] = x at *
  obtain ⟨⟨f, u, R⟩, ar, cr⟩ := x
  simp only at g2' HG HOF
  clear hz hw HB1 HB2 HB3 HGOOD HBAD hl3 hrq g2 hkl HX HNX HPI HIN HP hA1 HFEW
  go_upto_region 6 with fail
  refine wp_region_held_drew (S := fun w' => w'.cell? ⟨w.heap.size, 1, none⟩ = some (.slice p h.1.2.length d) ∧ w'.cell? ⟨w.heap.size, 3, none⟩ = some (.slice (some ⟨bq, oq, none⟩) 3 gc) ∧ w'.cell? ⟨bq, oq + k * 3 + 2, none⟩ = some (.slice ar R.length cr)) (by kernel_rfl) ⟨x1, x3, g2'⟩ (fun hHeld => ?_)
  refine take_yes 0 20 (v := ?_) rfl rfl (by kernel_rfl) (by kernel_rfl) (by kernel_rfl) (fun _ _ _ h => h) (by rfl) ?_ hHeld ?_
  rotate_left 1
  · (intro w hSw; obtain ⟨s1, s2, s3⟩ := hSw; go_simp; try with_reducible rfl)
  simp only [Act.put, List.setIfInBounds_toArray, List.set_cons_succ, List.set_cons_zero]
  refine take_yes 1 21 (v := ?_) rfl rfl (by kernel_rfl) (by kernel_rfl) (by kernel_rfl) (fun _ _ _ h => h) (by rfl) ?_ hHeld ?_
  rotate_left 1
  · (intro w hSw; obtain ⟨s1, s2, s3⟩ := hSw; go_simp; try with_reducible rfl)
  simp only [Act.put, List.setIfInBounds_toArray, List.set_cons_succ, List.set_cons_zero]
  refine take_yes 2 22 (v := ?_) rfl rfl (by kernel_rfl) (by kernel_rfl) (by kernel_rfl) (fun _ _ _ h => h) (by rfl) ?_ hHeld ?_
  rotate_left 1
  · (intro w hSw; obtain ⟨s1, s2, s3⟩ := hSw; go_simp; try with_reducible rfl)
  simp only [Act.put, List.setIfInBounds_toArray, List.set_cons_succ, List.set_cons_zero]
  refine take_yes 3 23 (v := ?_) rfl rfl (by kernel_rfl) (by kernel_rfl) (by kernel_rfl) (fun _ _ _ h => h) (by rfl) ?_ hHeld ?_
  rotate_left 1
  · (intro w hSw; obtain ⟨s1, s2, s3⟩ := hSw; go_simp; try with_reducible rfl)
  simp only [Act.put, List.setIfInBounds_toArray, List.set_cons_succ, List.set_cons_zero]
  refine take_yes 4 24 (v := ?_) rfl rfl (by kernel_rfl) (by kernel_rfl) (by kernel_rfl) (fun _ _ _ h => h) (by rfl) ?_ hHeld ?_
  rotate_left 1
  · (intro w hSw; obtain ⟨s1, s2, s3⟩ := hSw; go_simp; try with_reducible rfl)
  simp only [Act.put, List.setIfInBounds_toArray, List.set_cons_succ, List.set_cons_zero]
  refine take_yes 5 25 (v := ?_) rfl rfl (by kernel_rfl) (by kernel_rfl) (by kernel_rfl) (fun _ _ _ h => h) (by rfl) ?_ hHeld ?_
  rotate_left 1
  · (intro w hSw; obtain ⟨s1, s2, s3⟩ := hSw; go_simp; try with_reducible rfl)
  simp only [Act.put, List.setIfInBounds_toArray, List.set_cons_succ, List.set_cons_zero]
  refine take_yes 6 26 (v := ?_) rfl rfl (by kernel_rfl) (by kernel_rfl) (by kernel_rfl) (fun _ _ _ h => h) (by rfl) ?_ hHeld ?_
  rotate_left 1
  · (intro w hSw; obtain ⟨s1, s2, s3⟩ := hSw; go_simp; try with_reducible rfl)
  simp only [Act.put, List.setIfInBounds_toArray, List.set_cons_succ, List.set_cons_zero]
  refine take_yes 7 27 (v := ?_) rfl rfl (by kernel_rfl) (by kernel_rfl) (by kernel_rfl) (fun _ _ _ h => h) (by rfl) ?_ hHeld ?_
  rotate_left 1
  · (intro w hSw; obtain ⟨s1, s2, s3⟩ := hSw; go_simp; try with_reducible rfl)
  simp only [Act.put, List.setIfInBounds_toArray, List.set_cons_succ, List.set_cons_zero]
  refine take_yes 8 28 (v := ?_) rfl rfl (by kernel_rfl) (by kernel_rfl) (by kernel_rfl) (fun _ _ _ h => h) (by rfl) ?_ hHeld ?_
  rotate_left 1
  · (intro w hSw; obtain ⟨s1, s2, s3⟩ := hSw; go_simp; try with_reducible rfl)
  simp only [Act.put, List.setIfInBounds_toArray, List.set_cons_succ, List.set_cons_zero]
  refine wpAnyH_ready (rs := [9]) (by kernel_rfl) (by simp) ?_
  refine AllReadyH.cons rfl (fun KK hKK => ?_) AllReadyH.nil
  go_simp
  refine (HOF.out _ HBL.out.drew).mono ?_
  rintro e w2 ⟨vs, rfl, hQ, hb2⟩
  have hlen := hQ.len
  have hb2' : Below w1.heap.size w1 w2 := ((Below.refl _ w1).drew).trans hb2
  have hS2 : w2.cell? ⟨w.heap.size, 1, none⟩ = some (.slice p h.1.2.length d) ∧ w2.cell? ⟨w.heap.size, 3, none⟩ = some (.slice (some ⟨bq, oq, none⟩) 3 gc) ∧ w2.cell? ⟨bq, oq + k * 3 + 2, none⟩ = some (.slice ar R.length cr) := by
    have l1 : w.heap.size < w1.heap.size := by have := hZ1.lt; omega
    have l2 : bq < w1.heap.size := by omega
    exact ⟨by rw [hb2'.cell (by exact l1)]; exact x1, by rw [hb2'.cell (by exact l1)]; exact x3, by rw [hb2'.cell (by exact l2)]; exact g2'⟩
  have hZ2 := hZ1.keep hb2'
  have HB2 := Lib.hid (HBL.out.trans (hb2'.mono HBL.out.size))
  go_wp2_with fail
  refine hKK.out _ _ (hS2) (fun hHeld => ?_)
  clear hKK KK
  refine take_yes 10 30 (v := ?_) rfl rfl (by kernel_rfl) (by kernel_rfl) (by kernel_rfl) (fun _ _ _ h => h) (by rfl) ?_ hHeld ?_
  rotate_left 1
  · (intro w hSw; go_simp; try with_reducible rfl)
  simp only [Act.put, List.setIfInBounds_toArray, List.set_cons_succ, List.set_cons_zero]
  refine take_yes 11 31 (v := ?_) rfl rfl (by kernel_rfl) (by kernel_rfl) (by kernel_rfl) (fun _ _ _ h => h) (by rfl) ?_ hHeld ?_
  rotate_left 1
  · (intro w hSw; go_simp; try with_reducible rfl)
  simp only [Act.put, List.setIfInBounds_toArray, List.set_cons_succ, List.set_cons_zero]
  have hS3 : (w2.setCells (w.heap.size + 1) 0 vs).cell? ⟨w.heap.size, 1, none⟩ = some (.slice p h.1.2.length d) ∧ (w2.setCells (w.heap.size + 1) 0 vs).cell? ⟨w.heap.size, 3, none⟩ = some (.slice (some ⟨bq, oq, none⟩) 3 gc) ∧ (w2.setCells (w.heap.size + 1) 0 vs).cell? ⟨bq, oq + k * 3 + 2, none⟩ = some (.slice ar R.length cr) := by
    refine ⟨?_, ?_, ?_⟩
    · rw [World.cell?_of_block (w := w2) (a := ⟨w.heap.size, 1, none⟩) (sets_heap w.heap.size (w.heap.size + 1) (by omega) vs 0 w2)]; exact hS2.1
    · rw [World.cell?_of_block (w := w2) (a := ⟨w.heap.size, 3, none⟩) (sets_heap w.heap.size (w.heap.size + 1) (by omega) vs 0 w2)]; exact hS2.2.1
    · rw [World.cell?_of_block (w := w2) (a := ⟨bq, oq + k * 3 + 2, none⟩) (sets_heap bq (w.heap.size + 1) (by omega) vs 0 w2)]; exact hS2.2.2
  have hlt0 : w.heap.size + 1 < w1.drew.heap.size := hZ1.lt
  refine step_store 12 62 (w.heap.size + 1) vs (by kernel_rfl) rfl rfl (by rfl) (by rfl) (by rfl) (by rfl) (by rw [hlen]; exact hZ2.there) (by rw [hlen]; exact sizeView) hQ.one hS3 ?_
  have hHeld := hS3
  refine take_yes 13 5 (v := ?_) rfl rfl (by kernel_rfl) (by kernel_rfl) (by kernel_rfl) (fun _ _ _ h => h) (by rfl) ?_ hHeld ?_
  rotate_left 1
  · (intro w hSw; go_simp; try with_reducible rfl)
  simp only [Act.put, List.setIfInBounds_toArray, List.set_cons_succ, List.set_cons_zero]
  refine wpAnyH_done (by kernel_rfl) ?_ _
  have HRR : Hid (ViX (Old n w.heap.size) (ofR h.1.2 R) (ofK h.1.2 R) (ofW h.1.2 R) (w2.setCells (w.heap.size + 1) 0 vs) vs) := (hQ.sets (w.heap.size + 1) (fun b hb => by rcases hb with hb | hb <;> omega) vs 0).imp (fun b hb => by rcases hb with hb | hb; exact Or.inl hb; exact Or.inr (by have := hlt0; omega))
  have HBE := Lib.hid (below_sets HB2.out (w.heap.size + 1) (by omega) vs 0)
  have hRf := hZ2.sets vs (by rw [hlen]; rfl)
  clear hHeld hS2 hS3 hQ hb2 hb2' x1 x3 g2' hZ1 hZ2 r0 r1 r2 rf
  generalize w2.setCells (w.heap.size + 1) 0 vs = W5 at *
  go_wp2
  refine ret_cell_tmp Tryz.results18 rfl rfl (hRf.load Tryz.underlying62 rfl (by rw [hlen]; exact sizeView)) ?_
  refine ⟨vs, by rw [HG.out.1]; rfl, ?_, HBE.out⟩
  rw [HG.out.2.1, HG.out.2.2.1, HG.out.2.2.2]
  exact HRR.out


/-- a record in memory: it, its roots' address, the room there -/
abbrev Rq := Rc × Option Addr × Nat
abbrev Rq.val (x : Rq) : Value := rcV x.1.1 x.1.2.1 x.1.2.2.1 (.slice x.2.1 x.1.2.2.2.1.length x.2.2) x.1.2.2.2.2
def rqC (x : Rq) : List Value := [.int .i64 x.1.1, .int .i64 x.1.2.1, .int .i64 x.1.2.2.1, .slice x.2.1 x.1.2.2.2.1.length x.2.2, .int .i64 x.1.2.2.2.2.1, .int .i64 x.1.2.2.2.2.2.1, .int .i64 x.1.2.2.2.2.2.2.1.1, .int .i64 x.1.2.2.2.2.2.2.1.2.1, .int .i64 x.1.2.2.2.2.2.2.1.2.2, .int .i64 x.1.2.2.2.2.2.2.2.1, .int .i64 x.1.2.2.2.2.2.2.2.2]
theorem rqC_len (x : Rq) : (rqC x).length = 11 := rfl
/-- a row of records that is read -/
structure SlC (w : World) (a : Option Addr) (X : List Rq) : Prop where
  reads : SlE rqC w a X
  roots : ∀ x ∈ X, SlI w x.2.1 x.1.2.2.2.1 ∧ x.1.2.2.2.1.length ≤ maxLen
theorem SlC.keep {w w' : World} {a : Option Addr} {X : List Rq} (h : SlC w a X) (hb : Below w.heap.size w w') : SlC w' a X := ⟨h.reads.below hb, fun x hx => ⟨(h.roots x hx).1.below hb, (h.roots x hx).2⟩⟩
theorem run_stop {h : Hb} {l : List Rc} {k : Nat} (hk : k < l.length) (h1 : runE h (l.take k) = 0) (h2 : nextE (runH h (l.take k)) l[k] ≠ 0) : runE h l = nextE (runH h (l.take k)) l[k] := by
  induction l generalizing h k with
  | nil => simp at hk
  | cons r l ih =>
    cases k with
    | zero =>
      simp only [List.take_zero, List.getElem_cons_zero] at h2 ⊢
      show (if nextE h r ≠ 0 then nextE h r else runE (stepH h r) l) = _
      rw [if_pos (by exact h2)]
      rfl
    | succ k =>
      simp only [List.take_succ_cons, List.getElem_cons_succ] at h1 h2 ⊢
      obtain ⟨h3, h4⟩ := (Orangery.runE_zero h r (l.take k)).1 h1
      show (if nextE h r ≠ 0 then nextE h r else runE (stepH h r) l) = _
      rw [if_neg (by simp [h3])]
      exact ih (by simpa using hk) h4 h2
theorem run_more {h : Hb} {l : List Rc} {k : Nat} (hk : k < l.length) (h1 : runE h (l.take k) = 0) (h2 : nextE (runH h (l.take k)) l[k] = 0) : runE h (l.take (k + 1)) = 0 ∧ runH h (l.take (k + 1)) = nextH (runH h (l.take k)) l[k] := by
  rw [List.take_succ_eq_append_getElem hk]
  refine ⟨(Orangery.runE_app _ _ _).2 ⟨h1, (Orangery.runE_zero _ _ _).2 ⟨h2, rfl⟩⟩, ?_⟩
  rw [Orangery.runH_app, nextH_ok h2]
  rfl
theorem replay_big {l : List Rc} (h : 60 < l.length) : replayE l = 2 ∧ replayH l = noHb := by
  have e : replayE l = 2 := by unfold replayE; rw [if_pos h]
  refine ⟨e, ?_⟩
  unfold replayH
  rw [if_pos (by rw [e]; omega)]
theorem replay_small {l : List Rc} (h : ¬ 60 < l.length) : replayE l = runE newHb l := by unfold replayE; rw [if_neg h]
theorem replay_err {l : List Rc} (h : replayE l ≠ 0) : replayH l = noHb := by unfold replayH; rw [if_pos h]
theorem replay_ok {l : List Rc} (h : replayE l = 0) : replayH l = runH newHb l := by unfold replayH; rw [if_neg (by simp [h])]
theorem rec_at {X : List Rq} {l : List Rc} (e : X.map (·.1) = l) (k : Nat) (hk : k < X.length) : ∃ h : k < l.length, l[k] = X[k].1 := by
  subst e
  exact ⟨by simpa using hk, by simp⟩
theorem rqC_cells {w : World} {b o : Nat} {x : Rq} (h : w.rangeAt b o (rqC x)) :
    w.cell? ⟨b, o, none⟩ = some (.int .i64 x.1.1) ∧ w.cell? ⟨b, o + 1, none⟩ = some (.int .i64 x.1.2.1) ∧ w.cell? ⟨b, o + 2, none⟩ = some (.int .i64 x.1.2.2.1) ∧ w.cell? ⟨b, o + 3, none⟩ = some (.slice x.2.1 x.1.2.2.2.1.length x.2.2) ∧ w.cell? ⟨b, o + 4, none⟩ = some (.int .i64 x.1.2.2.2.2.1) ∧ w.cell? ⟨b, o + 5, none⟩ = some (.int .i64 x.1.2.2.2.2.2.1) ∧ w.cell? ⟨b, o + 6, none⟩ = some (.int .i64 x.1.2.2.2.2.2.2.1.1) ∧ w.cell? ⟨b, o + 7, none⟩ = some (.int .i64 x.1.2.2.2.2.2.2.1.2.1) ∧ w.cell? ⟨b, o + 8, none⟩ = some (.int .i64 x.1.2.2.2.2.2.2.1.2.2) ∧ w.cell? ⟨b, o + 9, none⟩ = some (.int .i64 x.1.2.2.2.2.2.2.2.1) ∧ w.cell? ⟨b, o + 10, none⟩ = some (.int .i64 x.1.2.2.2.2.2.2.2.2) :=
  ⟨h 0 _ rfl, h 1 _ rfl, h 2 _ rfl, h 3 _ rfl, h 4 _ rfl, h 5 _ rfl, h 6 _ rfl, h 7 _ rfl, h 8 _ rfl, h 9 _ rfl, h 10 _ rfl⟩
theorem HuX.four {D : Nat → Prop} {h : Hb} {w : World} {vs : List Value} (hx : HuX D h w vs) : ∃ a0 n0 c0 a1 n1 c1 a3 n3 c3, vs = [.slice a0 n0 c0, .slice a1 n1 c1, .int .i64 h.2.1, .slice a3 n3 c3] := by
  obtain ⟨a, c, p, d, q, g, X, rfl, _⟩ := hx
  exact ⟨_, _, _, _, _, _, _, _, _, rfl⟩
theorem HuX.fournew {D : Nat → Prop} {w : World} {vs : List Value} (hx : HuX D newHb w vs) : ∃ a0 n0 c0 a1 n1 c1 a3 n3 c3, vs = [.slice a0 n0 c0, .slice a1 n1 c1, .int .i64 0, .slice a3 n3 c3] := hx.four
theorem ViX.three {D : Nat → Prop} {R : List Int} {K V : List Pl} {w : World} {vs : List Value} (hx : ViX D R K V w vs) : ∃ a0 c0 a1 c1 a3 c3, vs = [.slice a0 R.length c0, .slice a1 K.length c1, .slice a3 V.length c3] := by
  obtain ⟨aR, aK, aV, cR, cK, cV, rfl, _⟩ := hx
  exact ⟨_, _, _, _, _, _, rfl⟩

set_option maxHeartbeats 4000000 in
set_option maxRecDepth 100000 in
theorem ureplay_any (w : World) (a : Option Addr) (c : Nat) (X : List Rq) (l : List Rc) (hl : X.map (·.1) = l) (hm : X.length ≤ maxLen) (hX : SlC w a X) :
    Calls Tryz.prog 4 #[.slice a X.length c] w (Gives (HuX (w.heap.size ≤ ·) (replayH l)) w (replayE l)) := by
  have hm' : X.length ≤ 9223372036854775807 := hm
  have HX := Lib.hid hX
  have HAT : Hid (∀ k, (hk : k < X.length) → ∃ hp : k < l.length, l[k] = X[k].1) := fun k hk => rec_at hl k hk
  have HLL : Hid (X.length = l.length) := by show _ = _; rw [← hl]; simp
  clear hX hl hm
  have HBAD : Hid (∀ E w', E = replayE l → E ≠ 0 → Below w.heap.size w w' → Gives (HuX (w.heap.size ≤ ·) (replayH l)) w (replayE l) (.returned (.tuple #[.agg [Value.slice none 0 0, .slice none 0 0, .int .i64 0, .slice none 0 0].toArray, .int .i64 E])) w') := by
    intro E w' e hne hb
    subst e
    exact ⟨_, rfl, by rw [replay_err hne]; exact HuX.no _ _, hb⟩
  by_cases hbig : 60 < X.length
  · have HE : Hid (2 = replayE l) := by show _ = _; rw [(replay_big (by have := HLL.out; omega)).1]
    have d1 : decide ((X.length : Int) > 60) = true := by simp; omega
    obtain ⟨W0, hW, hZ, hB, -⟩ := laid1 w [Value.slice none 0 0, .slice none 0 0, .int .i64 0, .slice none 0 0] 31
    have rf := hZ.frz
    have r0 := hZ.at 0 rfl
    have r1 := hZ.at 1 rfl
    have r2 := hZ.at 2 rfl
    have r3 := hZ.at 3 rfl
    go_enter Tryz.func4, Tryz.ntmps4
    go_wp2
    have hRf := hZ.sets [Value.slice none 0 0, .slice none 0 0, .int .i64 0, .slice none 0 0] rfl
    refine ret_cell_tmp Tryz.results4 rfl rfl (hRf.load Tryz.underlying31 rfl sizeHub) ?_
    exact HBAD.out 2 _ HE.out (by omega) (below_sets hB w.heap.size (Nat.le_refl _) [Value.slice none 0 0, .slice none 0 0, .int .i64 0, .slice none 0 0] 0)
  have HES := Lib.hid (@replay_small l (by have := HLL.out; omega))
  have d1 : decide ((X.length : Int) > 60) = false := by simp; omega
  go_enter Tryz.func4, Tryz.ntmps4
  go_wp2_with fail
  obtain ⟨W0, hW, hZ, hB, -⟩ := laid1 w [Value.slice none 0 0, .slice none 0 0, .int .i64 0, .slice none 0 0] 31
  rw [hW]
  clear hW d1
  refine (unew_any W0).mono ?_
  rintro e w1 ⟨vs, rfl, hN, hb⟩
  obtain ⟨e0, m0, c0, e1, m1, c1, e3, m3, c3, rfl⟩ := hN.fournew
  have hZ1 := hZ.keep hb
  have HB1 := Lib.hid (hB.trans (hb.mono hB.size))
  have hz1 : w.heap.size < w1.heap.size := hZ1.lt
  have hz0 : w.heap.size < W0.heap.size := hZ.lt
  obtain ⟨W2, hW, hH, hB2, hS2⟩ := laid1 w1 [Value.slice e0 m0 c0, .slice e1 m1 c1, .int .i64 0, .slice e3 m3 c3] 31
  have hN2 := ((hN.lowD.imp (D' := fun b => w.heap.size < b ∧ b ≠ w1.heap.size) (fun b hb => by omega)).keep hB2)
  have hZ2 := hZ1.keep hB2
  have HB2 := Lib.hid (HB1.out.trans (hB2.mono HB1.out.size))
  clear hN hZ hZ1 hb hB hB2 HB1
  have rq := hH.frz
  have q0 := hH.at 0 rfl
  have q1 := hH.at 1 rfl
  have q2 := hH.at 2 rfl
  have q3 := hH.at 3 rfl
  go_wp2
  clear hW rq q0 q1 q2 q3
  generalize hhb : w1.heap.size = hb at *
  clear hhb
  go_loopw [16] (fun i W => ∃ (k : Nat) (H : Hb) (vs : List Value), k ≤ X.length ∧ i = .int .i64 k ∧ runE newHb (l.take k) = 0 ∧ runH newHb (l.take k) = H ∧ HuX (fun b => w.heap.size < b ∧ b ≠ hb) H W vs ∧ Blk W hb vs ∧ Blk W w.heap.size [Value.slice none 0 0, .slice none 0 0, .int .i64 0, .slice none 0 0] ∧ Below w.heap.size w W) (fun i _ => X.length - (intOf i).toNat)
  case atStart => exact ⟨0, newHb, _, Nat.zero_le _, rfl, rfl, rfl, hN2, hH, hZ2, HB2.out⟩
  case round =>
    obtain ⟨k, H, vs, hk, rfl, hrE, hrH, hHx, hHb, hZr, hb⟩ := hrel
    obtain ⟨e0', m0', c0', e1', m1', c1', e3', m3', c3', rfl⟩ := hHx.four
    have HRE := Lib.hid hrE
    have HRH := Lib.hid hrH
    have HBr := Lib.hid hb
    have HHX := Lib.hid hHx
    clear hN2 hH hZ2 HB2 hb hrE hrH hHx
    by_cases hlt : k < X.length
    case neg =>
      have hkX : k = X.length := by omega
      have HE : Hid (replayE l = 0) := by
        show _ = _
        rw [HES.out]
        have e := HRE.out
        rw [List.take_of_length_le (by have := HLL.out; omega)] at e
        exact e
      have HHE : Hid (replayH l = H) := by
        show _ = _
        rw [replay_ok HE.out]
        have e := HRH.out
        rw [List.take_of_length_le (by have := HLL.out; omega)] at e
        exact e
      have y0 := hHb.at 0 rfl
      have y1 := hHb.at 1 rfl
      have y2 := hHb.at 2 rfl
      have y3 := hHb.at 3 rfl
      have rf := hZr.frz
      have r0 := hZr.at 0 rfl
      have r1 := hZr.at 1 rfl
      have r2 := hZr.at 2 rfl
      have r3 := hZr.at 3 rfl
      clear hkX
      go_wp2
      have hRf := hZr.sets [Value.slice e0' m0' c0', .slice e1' m1' c1', .int .i64 H.2.1, .slice e3' m3' c3'] rfl
      refine ret_cell_tmp Tryz.results4 rfl rfl (hRf.load Tryz.underlying31 rfl sizeHub) ?_
      refine ⟨[Value.slice e0' m0' c0', .slice e1' m1' c1', .int .i64 H.2.1, .slice e3' m3' c3'], by rw [HE.out]; rfl, ?_, below_sets HBr.out w.heap.size (Nat.le_refl _) [Value.slice e0' m0' c0', .slice e1' m1' c1', .int .i64 H.2.1, .slice e3' m3' c3'] 0⟩
      rw [HHE.out]
      exact (HHX.out.sets w.heap.size (fun b hb => by omega) [Value.slice e0' m0' c0', .slice e1' m1' c1', .int .i64 H.2.1, .slice e3' m3' c3'] 0).imp (fun b hb => by omega)
    obtain ⟨hp, hpe⟩ := HAT.out k hlt
    have HSTOP : Hid (nextE H X[k].1 ≠ 0 → replayE l = nextE H X[k].1) := by
      intro e
      rw [HES.out, ← hpe, ← HRH.out]
      rw [← hpe, ← HRH.out] at e
      exact run_stop hp HRE.out e
    have HMORE : Hid (nextE H X[k].1 = 0 → runE newHb (l.take (k + 1)) = 0 ∧ runH newHb (l.take (k + 1)) = nextH H X[k].1) := by
      intro e
      rw [← hpe, ← HRH.out] at e
      have := run_more hp HRE.out e
      rw [HRH.out, hpe] at this
      exact this
    have hXr := HX.out.keep HBr.out
    obtain ⟨bx, ox, rfl, hbx, hrx⟩ := hXr.reads.at rqC_len k hlt
    have HRX := Lib.hid (hXr.roots _ (List.getElem_mem hlt))
    obtain ⟨g0, g1, g2, g3, g4, g5, g6, g7, g8, g9, g10⟩ := rqC_cells hrx
    clear hrx hXr hpe HRE HRH
    generalize X[k] = x at *
    obtain ⟨r, ar, cr⟩ := x
    simp only at g0 g1 g2 g3 g4 g5 g6 g7 g8 g9 g10 HRX
    have hlti : (k : Int) < (X.length : Int) := by omega
    have y0 := hHb.at 0 rfl
    have y1 := hHb.at 1 rfl
    have y2 := hHb.at 2 rfl
    have y3 := hHb.at 3 rfl
    have hlh : hb < wr.heap.size := hHb.lt
    have hnh : ¬ wr.heap.size = hb := by omega
    go_wp2_with fail
    obtain ⟨W3, hW, -, hB3, -⟩ := laid1 wr (rcL r.1 r.2.1 r.2.2.1 (.slice ar r.2.2.2.1.length cr) r.2.2.2.2) 43
    change (wr.alloc (Obj.cells #[Value.int IntKind.i64 r.1, .int .i64 r.2.1, .int .i64 r.2.2.1, .slice ar r.2.2.2.1.length cr, .int .i64 r.2.2.2.2.1, .int .i64 r.2.2.2.2.2.1, .int .i64 r.2.2.2.2.2.2.1.1, .int .i64 r.2.2.2.2.2.2.1.2.1, .int .i64 r.2.2.2.2.2.2.1.2.2, .int .i64 r.2.2.2.2.2.2.2.1, .int .i64 r.2.2.2.2.2.2.2.2] 43)) = W3 at hW
    rw [hW]
    clear hW g0 g1 g2 g3 g4 g5 g6 g7 g8 g9 g10 y0 y1 y2 y3
    refine (unext_any W3 _ H r ar cr (HHX.out.keep hB3).is HRX.out.2 (HRX.out.1.below hB3)).mono ?_
    rintro e w4 ⟨us, rfl, hU, hb4⟩
    obtain ⟨f0, l0, d0, f1, l1, d1, f3, l3, d3, rfl⟩ := hU.four
    have hb4' := hB3.trans (hb4.mono hB3.size)
    have HB4 := Lib.hid (HBr.out.trans (hb4'.mono HBr.out.size))
    have hHb4 := hHb.keep hb4'
    have hZ4 := hZr.keep hb4'
    have hlz : w.heap.size < wr.heap.size := hZr.lt
    have hs3 := hB3.size
    have hU4 : HuX (fun b => w.heap.size < b ∧ b ≠ hb) (nextH H r) w4 [Value.slice f0 l0 d0, .slice f1 l1 d1, .int .i64 (nextH H r).2.1, .slice f3 l3 d3] := hU.imp (fun b hb => by omega)
    have rf := hZ4.frz
    have r0 := hZ4.at 0 rfl
    have r1 := hZ4.at 1 rfl
    have r2 := hZ4.at 2 rfl
    have r3 := hZ4.at 3 rfl
    clear hU hb4 hb4' hHb hZr hB3 HHX HRX HBr
    by_cases hz : nextE H r = 0
    case neg =>
      have dz : (nextE H r != 0) = true := by simpa using hz
      have HZ := Lib.hid hz
      have HE := Lib.hid (HSTOP.out hz)
      clear hz HSTOP HMORE
      generalize nextE H r = OE at *
      generalize (nextH H r).2.1 = nv at *
      obtain ⟨W5, hW, hN5, hB5, -⟩ := laid1 w4 [Value.slice f0 l0 d0, .slice f1 l1 d1, .int .i64 nv, .slice f3 l3 d3] 31
      have hZ5 := hZ4.keep hB5
      have rf := hZ5.frz
      have r0 := hZ5.at 0 rfl
      have r1 := hZ5.at 1 rfl
      have r2 := hZ5.at 2 rfl
      have r3 := hZ5.at 3 rfl
      have HB5 := Lib.hid (HB4.out.trans (hB5.mono HB4.out.size))
      clear hB5 HB4 hU4
      go_wp2
      have hRf := hZ5.sets [Value.slice none 0 0, .slice none 0 0, .int .i64 0, .slice none 0 0] rfl
      refine ret_cell_tmp Tryz.results4 rfl rfl (hRf.load Tryz.underlying31 rfl sizeHub) ?_
      exact HBAD.out OE _ HE.out.symm HZ.out (below_sets HB5.out w.heap.size (Nat.le_refl _) [Value.slice none 0 0, .slice none 0 0, .int .i64 0, .slice none 0 0] 0)
    have HM := Lib.hid (HMORE.out hz)
    rw [hz]
    clear hz HSTOP HMORE
    generalize nextH H r = H' at *
    obtain ⟨W5, hW, hN5, hB5, -⟩ := laid1 w4 [Value.slice f0 l0 d0, .slice f1 l1 d1, .int .i64 H'.2.1, .slice f3 l3 d3] 31
    have hZ5 := hZ4.keep hB5
    have hHb5 := hHb4.keep hB5
    have hU5 := hU4.keep hB5
    have HB5 := Lib.hid (HB4.out.trans (hB5.mono HB4.out.size))
    have y0 := hN5.at 0 rfl
    have y1 := hN5.at 1 rfl
    have y2 := hN5.at 2 rfl
    have y3 := hN5.at 3 rfl
    have zf := hHb5.frz
    have z0 := hHb5.at 0 rfl
    have z1 := hHb5.at 1 rfl
    have z2 := hHb5.at 2 rfl
    have z3 := hHb5.at 3 rfl
    clear hB5 HB4 hU4 hZ4 hHb4 rf r0 r1 r2 r3
    have HRES : Hid (HuX (fun b => w.heap.size < b ∧ b ≠ hb) H' (W5.setCells hb 0 [Value.slice f0 l0 d0, .slice f1 l1 d1, .int .i64 H'.2.1, .slice f3 l3 d3]) [Value.slice f0 l0 d0, .slice f1 l1 d1, .int .i64 H'.2.1, .slice f3 l3 d3] ∧ Blk (W5.setCells hb 0 [Value.slice f0 l0 d0, .slice f1 l1 d1, .int .i64 H'.2.1, .slice f3 l3 d3]) hb [Value.slice f0 l0 d0, .slice f1 l1 d1, .int .i64 H'.2.1, .slice f3 l3 d3] ∧ Blk (W5.setCells hb 0 [Value.slice f0 l0 d0, .slice f1 l1 d1, .int .i64 H'.2.1, .slice f3 l3 d3]) w.heap.size [Value.slice none 0 0, .slice none 0 0, .int .i64 0, .slice none 0 0] ∧ Below w.heap.size w (W5.setCells hb 0 [Value.slice f0 l0 d0, .slice f1 l1 d1, .int .i64 H'.2.1, .slice f3 l3 d3])) :=
      ⟨hU5.sets hb (fun b hb => hb.2) _ 0, hHb5.sets _ rfl, hZ5.others (by omega) _ 0, below_sets HB5.out hb (by omega) _ 0⟩
    go_wp2
    go_roundw
    case rel => exact ⟨k + 1, H', _, hlt, by go_num, HM.out.1, HM.out.2, HRES.out⟩
    case measure => simp [intOf]; omega

end Go.Proofs.YthlhnokgcnieeadGreatDoor

