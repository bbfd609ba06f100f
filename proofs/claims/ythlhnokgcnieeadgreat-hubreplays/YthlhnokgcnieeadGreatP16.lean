/- 1 texts of the proof: orangeryref.nexted. -/
import Derived.Test.YthlhnokgcnieeadGreatP15
import Derived.Test.YthlhnokgcnieeadGreatP14
/- orangeryref.nexted. -/
namespace Go.Proofs.YthlhnokgcnieeadGreat
open Go.ChangeShapes Go.WideShapes Go.ChangeAt Go.RowKit
open Orangery (Pl Mv Stp Rc Pr Hb peerE peersE rootsOk hubE histE newHb prOf stepE stepH noHb insE insL insT checkRec checkOp nextE nextH orI foldE foldL foldT hasM noOp)

/-- what a right record makes of a right hub, and nothing with an error -/
def stepN (h : Hb) (r : Rc) : Hb := if stepE h r ≠ 0 then noHb else stepH h r
/-- the blocks that a hub may lie in: elder ones than n, and new ones but for the answer's box -/
def But (DD : Nat → Prop) (m b2 : Nat) (b : Nat) : Prop := (DD b ∨ m ≤ b) ∧ b ≠ b2
def OldD (DD : Nat → Prop) (m : Nat) (b : Nat) : Prop := DD b ∨ m ≤ b
theorem rfolds_gives {w w' : World} {L : List Stp} {T : List Pl} {E : Int} {e : Ending} (n : Nat) (h : RFolds w L T E e w') : Gives (HiX (Old n w.heap.size) L T) w E e w' := by
  obtain ⟨vL, aT, cT, rfl, hL, hT, hb⟩ := h
  obtain ⟨aL, cL, rfl, hLr, _⟩ := hL.val
  refine ⟨_, rfl, ⟨aL, cL, aT, cT, rfl, hLr, hT.slp, (row_in hL.row).imp (fun b hb => Or.inr hb), ?_⟩, hb⟩
  rcases hT with h0 | ⟨b, off, cur, fr, hb', ha, _⟩
  · exact Or.inl h0
  · refine Or.inr (fun b' off' e => ?_)
    rw [ha] at e
    obtain ⟨rfl, _⟩ : b = b' ∧ off = off' := by simpa using e
    exact Or.inr hb'
/-- the answer -/
theorem box_hub {W : World} {nb g cap m b2 : Nat} {DD : Nat → Prop} {a p : Option Addr} {c d : Nat} {X : List Pm} {h : Hb} (hx : BoxAt 0 W nb g cap a c p d X h) (hk : hubE h = 0) (hD : HuD (But DD m b2) a p (some ⟨g, 0, none⟩) X h) (us : List Value) (o : Nat) :
    HuX (OldD DD m) h (W.setCells b2 o us) [.slice a h.1.1.length c, .slice p h.1.2.length d, .int .i64 h.2.1, .slice (some ⟨g, 0, none⟩) 3 cap] := by
  obtain ⟨f1, f2, _, _⟩ := hub_few hk
  have h1 : HuX (But DD m b2) h W [.slice a h.1.1.length c, .slice p h.1.2.length d, .int .i64 h.2.1, .slice (some ⟨g, 0, none⟩) 3 cap] :=
    ⟨a, c, p, d, some ⟨g, 0, none⟩, cap, X, by rw [hx.row.len], ⟨hx.steps, hx.places, hx.row.reads, hx.are, by omega, by unfold maxLen; omega, by rw [hx.row.len]; unfold maxLen; omega⟩, hD⟩
  exact (h1.sets b2 (fun b hb => hb.2) us o).imp (fun b hb => hb.1)

set_option maxHeartbeats 8000000 in
set_option maxRecDepth 100000 in
theorem rnexted_others (w : World) (vs : List Value) (h : Hb) (r : Rc) (ar : Option Addr) (cr : Nat) (DD : Nat → Prop) (hh : HuX DD h w vs) (hnw : ∀ b, DD b → b < w.heap.size) (hok : hubE h = 0) (hr : checkRec r = 0) (hrt : SlI w ar r.2.2.2.1) (hin : InL DD ar r.2.2.2.1) (hnk : r.1 ≠ 1) :
    Calls Tryz.prog 34 #[.agg vs.toArray, rcV r.1 r.2.1 r.2.2.1 (.slice ar r.2.2.2.1.length cr) r.2.2.2.2] w (Gives (HuX (OldD DD w.heap.size) (stepN h r)) w (stepE h r)) := by
  obtain ⟨i0, hi, hz0, hz1, hz2⟩ := info_parts infoPeer
  obtain ⟨f1, f2, f3, f4⟩ := hub_few hok
  obtain ⟨a, c, p, d, q, gc, X, rfl, hX, hD⟩ := hh
  have hl3 : X.length = 3 := by rw [← hX.are] at f3; simpa using f3
  rw [hl3]
  have HL3 := Lib.hid hl3
  have HX := Lib.hid hX
  have HD := Lib.hid hD
  have HNW := Lib.hid hnw
  clear hnw
  have HR := Lib.hid hrt
  have HIN := Lib.hid hin
  have HOK := Lib.hid hok
  have HCR := Lib.hid hr
  have HBAD : Hid (∀ E w', E = stepE h r → E ≠ 0 → Below w.heap.size w w' → Gives (HuX (OldD DD w.heap.size) (stepN h r)) w (stepE h r) (.returned (.tuple #[.agg [Value.slice none 0 0, .slice none 0 0, .int .i64 0, .slice none 0 0].toArray, .int .i64 E])) w') := by
    intro E w' e hne hb
    subst e
    exact ⟨_, rfl, by unfold stepN; rw [if_pos hne]; exact HuX.no _ _, hb⟩
  have HNX : Hid (stepE h r = 0 → nextE h r = 0) := fun e => by rw [next_then hok hr]; exact e
  have HGOOD : Hid (∀ (W : World) (nb g cap : Nat) (a p : Option Addr) (c d : Nat) (X : List Pm), stepE h r = 0 → BoxAt 0 W nb g cap a c p d X (stepH h r) → HuD (But DD w.heap.size (w.heap.size + 2)) a p (some ⟨g, 0, none⟩) X (stepH h r) → Below w.heap.size w W → Gives (HuX (OldD DD w.heap.size) (stepN h r)) w (stepE h r) (.returned (.tuple #[.agg [.slice a (stepH h r).1.1.length c, .slice p (stepH h r).1.2.length d, .int .i64 (stepH h r).2.1, .slice (some ⟨g, 0, none⟩) 3 cap].toArray, .int .i64 0])) (W.setCells (w.heap.size + 2) 0 [.slice a (stepH h r).1.1.length c, .slice p (stepH h r).1.2.length d, .int .i64 (stepH h r).2.1, .slice (some ⟨g, 0, none⟩) 3 cap])) := by
    intro W nb g cap a p c d X e0 hx hD hb
    refine ⟨_, by rw [e0], ?_, below_sets hb (w.heap.size + 2) (by omega) _ 0⟩
    have e1 : stepN h r = stepH h r := by unfold stepN; rw [if_neg (by simp [e0])]
    rw [e1]
    exact box_hub hx (Orangery.next_ok (HNX.out e0)).2.2.2 hD _ 0
  clear hX hD hrt hin hr hok f3 f4 hl3
  obtain ⟨W0, hW, hA, hC, hZ, hB, hS⟩ := laid3 w [Value.slice a h.1.1.length c, .slice p h.1.2.length d, .int .i64 h.2.1, .slice q 3 gc] 30 (rcL r.1 r.2.1 r.2.2.1 (.slice ar r.2.2.2.1.length cr) r.2.2.2.2) 37 [Value.slice none 0 0, .slice none 0 0, .int .i64 0, .slice none 0 0] 30
  have HB0 := Lib.hid hB
  have hz0' : w.heap.size + 2 < W0.heap.size := hZ.lt
  clear hB hS
  change ((w.alloc (Obj.cells #[Value.slice a h.1.1.length c, .slice p h.1.2.length d, .int .i64 h.2.1, .slice q 3 gc] 30)).alloc (Obj.cells #[Value.int IntKind.i64 r.1, .int .i64 r.2.1, .int .i64 r.2.2.1, .slice ar r.2.2.2.1.length cr, .int .i64 r.2.2.2.2.1, .int .i64 r.2.2.2.2.2.1, .int .i64 r.2.2.2.2.2.2.1.1, .int .i64 r.2.2.2.2.2.2.1.2.1, .int .i64 r.2.2.2.2.2.2.1.2.2, .int .i64 r.2.2.2.2.2.2.2.1, .int .i64 r.2.2.2.2.2.2.2.2] 37)).alloc (Obj.cells #[Value.slice none 0 0, .slice none 0 0, .int .i64 0, .slice none 0 0] 30) = W0 at hW
  have x0 := hA.at 0 rfl
  have x1 := hA.at 1 rfl
  have x2 := hA.at 2 rfl
  have x3 := hA.at 3 rfl
  by_cases hv : h.2.1 = 60
  · have d1 : (h.2.1 == 60) = true := by simpa using hv
    have HE : Hid (2 = stepE h r) := by show _ = _; unfold stepE; rw [if_pos hv]
    have rf := hZ.frz
    have r0 := hZ.at 0 rfl
    have r1 := hZ.at 1 rfl
    have r2 := hZ.at 2 rfl
    have r3 := hZ.at 3 rfl
    clear hv
    go_enter Tryz.func34, Tryz.ntmps34
    go_wp2
    have hRf := hZ.sets [Value.slice none 0 0, .slice none 0 0, .int .i64 0, .slice none 0 0] rfl
    refine ret_cell_tmp Tryz.results34 rfl rfl (hRf.load Tryz.underlying30 rfl sizeHub) ?_
    exact HBAD.out 2 _ HE.out (by omega) (below_sets HB0.out (w.heap.size + 2) (by omega) [Value.slice none 0 0, .slice none 0 0, .int .i64 0, .slice none 0 0] 0)
  have d1 : (h.2.1 == 60) = false := by simpa using hv
  have HV : Hid (h.2.1 ≠ 60) := hv
  have hn60 : 0 ≤ h.2.1 ∧ h.2.1 ≤ 60 := ((Orangery.hubE_zero h).1 HOK.out).2.1
  have hn1 := hn60.1
  have hn2 := hn60.2
  clear hv hn60
  obtain ⟨W1, hW1, hG1, hB1, -⟩ := laid1 W0 [] 52
  have hown : W1.ownsRow W0.heap.size 52 3 (.slice (some ⟨W0.heap.size, 0, none⟩) 0 0) 0 [] := by
    rw [← hW1]
    exact ⟨rfl, Or.inr ⟨W0.heap.size, 0, #[], rfl, Nat.le_refl _, blk_new rfl, Nat.le_refl _, by unfold maxLen; omega, rfl, rfl⟩⟩
  have HBW1 := Lib.hid (HB0.out.trans (hB1.mono HB0.out.size))
  have hA1 := hA.keep hB1
  have hC1 := hC.keep hB1
  have hZ1 := hZ.keep hB1
  have hs1 := hB1.size
  obtain ⟨bq, oq, hqe, hbq, HSRC⟩ : ∃ bq oq, q = some ⟨bq, oq, none⟩ ∧ bq < w.heap.size ∧ w.rangeAt bq oq (X.flatMap prC) := by
    rcases HX.out.peers.reads with h9 | ⟨b, o, e, hb, hr⟩
    · rw [h9] at HL3; exact absurd HL3.out (by simp)
    · exact ⟨b, o, e, hb, hr⟩
  subst hqe
  have HSR : Hid (∀ j u, (X.flatMap prC)[j]? = some u → W1.cell? ((⟨bq, oq, none⟩ : Addr).add j) = some u) := by
    intro j u hj
    rw [Addr.add_mid, HBW1.out.cell (by exact hbq)]
    exact HSRC j u hj
  have HFL : Hid ((X.flatMap prC).length = 3 * 3) := by show _ = _; rw [flatE_len prC_len, HL3.out]
  have y2 := hA1.at 2 rfl
  have y3 := hA1.at 3 rfl
  clear HSRC hA hC hZ hG1 hB1 HB0
  go_enter Tryz.func34, Tryz.ntmps34
  go_wp2_with (at_builtin; refine wpList_append_own _ rfl _ _ 28 rfl W0.heap.size 52 i0 _ 3 40 Tryz.underlying28 hi hz0 hz1 hz2 rfl (by decide) _ _ _ rfl hown ⟨bq, oq, none⟩ 3 gc (X.flatMap prC) rfl HFL.out ?c1 ?c2 ?c3 ?c4 ?c5 ?_)
  case c1 => exact HSR.out
  case c2 => exact flat_oneE prC_one X
  case c3 => unfold maxLen; omega
  case c4 => omega
  case c5 => omega
  intro v2 w2 hown' hgrow _
  have hOE : OwnE prC 3 52 w2 W0.heap.size v2 X := by
    show World.ownsRow _ _ _ _ _ _ _
    rw [HL3.out]
    simpa using hown'
  have hb2 : Below W0.heap.size W1 w2 := below_grown hown hs1 hgrow
  obtain ⟨g, cap, rfl, hgb, hg0⟩ : ∃ g cap, v2 = .slice (some ⟨g, 0, none⟩) 3 cap ∧ Blk w2 g (X.flatMap prC) ∧ W0.heap.size ≤ g := by
    rcases hOE.2 with ⟨h', hn⟩ | ⟨g', cap', cur, h', _⟩
    · have := HL3.out; omega
    · subst h'
      exact ⟨g', cap', by rw [HL3.out], (own_blk hOE).1, (own_blk hOE).2⟩
  have HB2 := Lib.hid (HBW1.out.trans (hb2.mono (by omega)))
  have hA2 := hA1.below hb2 (by omega)
  have hC2 := hC1.below hb2 (by omega)
  have hZ2 := hZ1.below hb2 (by omega)
  have hgl : g < w2.heap.size := hgb.lt
  have hR2 : Row3 w2 g X := by
    refine ⟨hgb, HL3.out, fun x hx => (HX.out.peers.roots x hx).keep HB2.out, fun x hx => ?_⟩
    exact (HX.out.peers.roots x hx).1.off (by have := HB2.out.size; omega)
  clear hOE hown hown' hgrow hb2 hgb hA1 hC1 hZ1 HBW1 HSR HFL y2 y3 x0 x1 x2 x3 hW hW1 d1
  obtain ⟨W3, hW3, hN3, hB3, -⟩ := laid1 w2 [Value.slice a h.1.1.length c, .slice p h.1.2.length d, .int .i64 (h.2.1 + 1), .slice (some ⟨g, 0, none⟩) 3 cap] 30
  have hws : w.heap.size + 2 < w2.heap.size := hZ2.lt
  have HBX : Hid (BoxAt 0 W3 w2.heap.size g cap a c p d X (h.1, h.2.1 + 1, h.2.2)) := by
    have hat := HX.out.keep HB2.out
    refine ⟨hN3, hR2.keep hB3, HX.out.are, hat.steps.below hB3, hat.places.below hB3, HX.out.steps.off (by omega), hat.steps.off (Nat.le_refl _), HX.out.places.off (by omega), hat.places.off (Nat.le_refl _), fun x hx => ((hat.peers.roots x hx).1.off (Nat.le_refl _)), by omega, Or.inr (fun _ _ _ => Nat.zero_le _), Or.inr (fun _ _ _ => Nat.zero_le _), fun x hx => Or.inr (fun _ _ _ => Nat.zero_le _)⟩
  have HDB : Hid (InL (But DD w.heap.size (w.heap.size + 2)) a h.1.1 ∧ InL (But DD w.heap.size (w.heap.size + 2)) p h.1.2 ∧ ∀ x ∈ X, InL (But DD w.heap.size (w.heap.size + 2)) x.2.1 x.1.2.2) :=
    ⟨HD.out.steps.imp (fun b hb => ⟨Or.inl hb, by have := HNW.out b hb; omega⟩), HD.out.places.imp (fun b hb => ⟨Or.inl hb, by have := HNW.out b hb; omega⟩), fun x hx => (HD.out.roots x hx).imp (fun b hb => ⟨Or.inl hb, by have := HNW.out b hb; omega⟩)⟩
  have HDG : Hid (InL (But DD w.heap.size (w.heap.size + 2)) (some ⟨g, 0, none⟩) X) := Or.inr (fun b off e => by
    obtain ⟨rfl, _⟩ : g = b ∧ 0 = off := by simpa using e
    exact ⟨Or.inr (by omega), by omega⟩)
  have HDI : Hid (InL (But DD w.heap.size (w.heap.size + 2)) ar r.2.2.2.1) := HIN.out.imp (fun b hb => ⟨Or.inl hb, by have := HNW.out b hb; omega⟩)
  have HOI : Hid (OffL g ar r.2.2.2.1 ∧ OffL w2.heap.size ar r.2.2.2.1) := ⟨HR.out.off (by omega), HR.out.off (by omega)⟩
  have hA3 := hA2.keep hB3
  have hC3 := hC2.keep hB3
  have hZ3 := hZ2.keep hB3
  have HB3 := Lib.hid (HB2.out.trans (hB3.mono HB2.out.size))
  have x0 := hA2.at 0 rfl
  have x1 := hA2.at 1 rfl
  have x2 := hA2.at 2 rfl
  have u0 := hC3.at 0 rfl
  clear hB3 hR2 hN3 HB2
  rcases Orangery.checkRec_kind HCR.out with hk | hk | hk
  · exact absurd hk hnk
  · obtain ⟨-, hw, hf⟩ := Orangery.checkRec_life HCR.out hk
    obtain ⟨k, hkk⟩ : ∃ k : Nat, r.2.1 = (k : Int) := ⟨r.2.1.toNat, by omega⟩
    have hk3 : k < 3 := by omega
    obtain ⟨b1, b2, -, -⟩ := pr_bounds HOK.out hk3
    have hE : stepE h r = if (prOf h k).1 + 1 ≠ r.2.2.1 then 7 else 0 := by
      unfold stepE; rw [if_neg HV.out, if_neg (by omega), if_pos hk, hkk]
    have hHH : stepH h r = (h.1, h.2.1 + 1, h.2.2.set k (r.2.2.1, 0, [])) := by
      unfold stepH
      rw [if_neg (by omega), if_pos hk, hkk]
      rfl
    have HHH := Lib.hid hHH
    have hkl : k < X.length := by have := HL3.out; omega
    have hlti : (k : Int) < 3 := by omega
    have u1 := hC3.at 1 rfl
    have u2 := hC3.at 2 rfl
    obtain ⟨p0, p1, -⟩ := HBX.out.row.cells k hkl
    rw [prOf_at (h := h) HX.out.are k hkl] at p0
    have e1 : (r.1 == 1) = false := by rw [hk]; rfl
    have e2 : (r.1 == 2) = true := by rw [hk]; rfl
    rw [hkk] at u1
    clear hw hf hHH
    by_cases hq : (prOf h k).1 + 1 = r.2.2.1
    case neg =>
      have HE : Hid (7 = stepE h r) := by show _ = _; rw [hE, if_pos hq]
      have d2 : ((prOf h k).1 + 1 != r.2.2.1) = true := by simpa using hq
      have rf := hZ3.frz
      have r0 := hZ3.at 0 rfl
      have r1 := hZ3.at 1 rfl
      have r2 := hZ3.at 2 rfl
      have r3 := hZ3.at 3 rfl
      clear hE hq
      go_upto_region 22 with fail
      clear hW3
      go_quiet (fail)
      go_wp2
      have hRf := (hZ3.keep (below_drewN_any _ _ nq)).sets [Value.slice none 0 0, .slice none 0 0, .int .i64 0, .slice none 0 0] rfl
      refine ret_cell_tmp Tryz.results34 rfl rfl (hRf.load Tryz.underlying30 rfl sizeHub) ?_
      exact HBAD.out 7 _ HE.out (by omega) (below_sets (HB3.out.trans (below_drewN_any _ _ nq)) (w.heap.size + 2) (by omega) [Value.slice none 0 0, .slice none 0 0, .int .i64 0, .slice none 0 0] 0)
    have HE : Hid (stepE h r = 0) := by show _ = _; rw [hE, if_neg (by simp [hq])]
    have d2 : ((prOf h k).1 + 1 != r.2.2.1) = false := by simp [hq]
    clear hE hq
    go_upto_region 22 with fail
    clear hW3
    go_quiet (fail)
    have hDq : Below W3.heap.size W3 (W3.drewN nq) := below_drewN_any _ _ _
    have hx4 := HBX.out.keep hDq
    have hZ4 := hZ3.keep hDq
    have hC4 := hC3.keep hDq
    have HB4 := Lib.hid (HB3.out.trans (hDq.mono HB3.out.size))
    clear hDq hZ3 hC3 HB3 HBX x0 x1 x2 u0 u1 u2 p0 p1
    generalize W3.drewN nq = W4 at *
    clear nq
    obtain ⟨p0, p1, p2⟩ := hx4.row.cells k hkl
    have pf := hx4.row.blk.frz
    have u1 := hC4.at 1 rfl
    rw [hkk] at u1
    have u2 := hC4.at 2 rfl
    have hx5 : BoxAt 0 (W4.setCells g (k * 3) (prC ((r.2.2.1, 0, []), none, 0))) w2.heap.size g cap a c p d (X.set k ((r.2.2.1, 0, []), none, 0)) (stepH h r) := by
      rw [HHH.out]
      refine hx4.peers _ _ (hx4.row.set k hk3 ((r.2.2.1, 0, []), none, 0) (PIn.nil _ _ _ _) (Or.inl rfl)) ?_ ?_ _ (map_set_peer HX.out.are k _)
      · intro x hm
        rcases List.mem_or_eq_of_mem_set hm with hm | rfl
        · exact hx4.off5 x hm
        · exact Or.inl rfl
      · intro x hm
        exact Or.inr (fun _ _ _ => Nat.zero_le _)
    have HDE : Hid (HuD (But DD w.heap.size (w.heap.size + 2)) a p (some ⟨g, 0, none⟩) (X.set k ((r.2.2.1, 0, []), none, 0)) (stepH h r)) := by
      rw [HHH.out]
      refine ⟨HDB.out.1, HDB.out.2.1, Or.inr (fun b off e => ?_), ?_⟩
      · obtain ⟨rfl, _⟩ : g = b ∧ 0 = off := by simpa using e
        exact ⟨Or.inr (by omega), by omega⟩
      · intro x hm
        rcases List.mem_or_eq_of_mem_set hm with hm | rfl
        · exact HDB.out.2.2 x hm
        · exact Or.inl rfl
    have hZ5 := hZ4.others (by omega : w.heap.size + 2 ≠ g) (prC ((r.2.2.1, 0, []), none, 0)) (k * 3)
    have HB5 := Lib.hid (below_sets HB4.out g (by omega) (prC ((r.2.2.1, 0, []), none, 0)) (k * 3))
    have HX5 := Lib.hid hx5
    have y0 := hx5.blk.at 0 rfl
    have y1 := hx5.blk.at 1 rfl
    have y2 := hx5.blk.at 2 rfl
    have y3 := hx5.blk.at 3 rfl
    have rf := hZ5.frz
    have r0 := hZ5.at 0 rfl
    have r1 := hZ5.at 1 rfl
    have r2 := hZ5.at 2 rfl
    have r3 := hZ5.at 3 rfl
    clear hx4 hx5 hZ4 hC4 HB4
    go_upto_region 29 with fail
    clear p0 p1 p2 pf u1 u2
    have e5 : ((W4.setCell ⟨g, k * 3, none⟩ (.int .i64 r.2.2.1)).setCell ⟨g, k * 3 + 1, none⟩ (.int .i64 0)).setCell ⟨g, k * 3 + 2, none⟩ (.slice none 0 0) = W4.setCells g (k * 3) (prC ((r.2.2.1, 0, []), none, 0)) := rfl
    rw [e5]
    clear e5
    generalize W4.setCells g (k * 3) (prC ((r.2.2.1, 0, []), none, 0)) = W5 at *
    go_wp2
    have hRf := hZ5.sets [.slice a (stepH h r).1.1.length c, .slice p (stepH h r).1.2.length d, .int .i64 (stepH h r).2.1, .slice (some ⟨g, 0, none⟩) 3 cap] rfl
    refine ret_cell_tmp Tryz.results34 rfl rfl (hRf.load Tryz.underlying30 rfl sizeHub) ?_
    exact HGOOD.out _ _ _ _ _ _ _ _ _ HE.out HX5.out HDE.out HB5.out
  · obtain ⟨-, hw, hrr⟩ := Orangery.checkRec_roots HCR.out hk
    have hlenR := Orangery.rootsOk_len hrr
    obtain ⟨k, hkk⟩ : ∃ k : Nat, r.2.1 = (k : Int) := ⟨r.2.1.toNat, by omega⟩
    have hk3 : k < 3 := by omega
    obtain ⟨b1, b2, -, -⟩ := pr_bounds HOK.out hk3
    have hE : stepE h r = if (prOf h k).1 < 1 then 5 else 0 := by
      unfold stepE; rw [if_neg HV.out, if_neg (by omega), if_neg (by omega), hkk]
    have hHH : stepH h r = (h.1, h.2.1 + 1, h.2.2.set k ((prOf h k).1, (prOf h k).2.1, r.2.2.2.1)) := by
      unfold stepH
      rw [if_neg (by omega), if_neg (by omega), hkk]
      rfl
    have HHH := Lib.hid hHH
    have hkl : k < X.length := by have := HL3.out; omega
    have hlti : (k : Int) < 3 := by omega
    have u1 := hC3.at 1 rfl
    have u3 := hC3.at 3 rfl
    obtain ⟨p0, p1, p2⟩ := HBX.out.row.cells k hkl
    have pf := HBX.out.row.blk.frz
    rw [prOf_at (h := h) HX.out.are k hkl] at p0
    have e1 : (r.1 == 1) = false := by rw [hk]; rfl
    have e2 : (r.1 == 2) = false := by rw [hk]; rfl
    have e3 : (r.1 == 3) = true := by rw [hk]; rfl
    rw [hkk] at u1
    clear hw hrr hHH
    by_cases hq : (prOf h k).1 < 1
    · have HE : Hid (5 = stepE h r) := by show _ = _; rw [hE, if_pos hq]
      have d2 : decide ((prOf h k).1 < 1) = true := decide_eq_true hq
      have rf := hZ3.frz
      have r0 := hZ3.at 0 rfl
      have r1 := hZ3.at 1 rfl
      have r2 := hZ3.at 2 rfl
      have r3 := hZ3.at 3 rfl
      clear hE hq
      go_wp2
      have hRf := hZ3.sets [Value.slice none 0 0, .slice none 0 0, .int .i64 0, .slice none 0 0] rfl
      refine ret_cell_tmp Tryz.results34 rfl rfl (hRf.load Tryz.underlying30 rfl sizeHub) ?_
      exact HBAD.out 5 _ HE.out (by omega) (below_sets HB3.out (w.heap.size + 2) (by omega) [Value.slice none 0 0, .slice none 0 0, .int .i64 0, .slice none 0 0] 0)
    have HE : Hid (stepE h r = 0) := by show _ = _; rw [hE, if_neg hq]
    have d2 : decide ((prOf h k).1 < 1) = false := decide_eq_false hq
    clear hE hq
    have hx5 : BoxAt 0 (W3.setCells g (k * 3 + 2) [.slice ar r.2.2.2.1.length cr]) w2.heap.size g cap a c p d (X.set k ((X[k].1.1, X[k].1.2.1, r.2.2.2.1), ar, cr)) (stepH h r) := by
      rw [HHH.out]
      refine HBX.out.peers [.slice ar r.2.2.2.1.length cr] (k * 3 + 2) (HBX.out.row.setRoots k hkl r.2.2.2.1 ar cr (HR.out.below HB3.out) (by unfold maxLen; omega) HOI.out.1) ?_ ?_ _ (by rw [map_set_peer HX.out.are k, prOf_at (h := h) HX.out.are k hkl])
      · intro x hm
        rcases List.mem_or_eq_of_mem_set hm with hm | rfl
        · exact HBX.out.off5 x hm
        · exact HOI.out.2
      · intro x hm
        exact Or.inr (fun _ _ _ => Nat.zero_le _)
    have HDE : Hid (HuD (But DD w.heap.size (w.heap.size + 2)) a p (some ⟨g, 0, none⟩) (X.set k ((X[k].1.1, X[k].1.2.1, r.2.2.2.1), ar, cr)) (stepH h r)) := by
      rw [HHH.out]
      refine ⟨HDB.out.1, HDB.out.2.1, Or.inr (fun b off e => ?_), ?_⟩
      · obtain ⟨rfl, _⟩ : g = b ∧ 0 = off := by simpa using e
        exact ⟨Or.inr (by omega), by omega⟩
      · intro x hm
        rcases List.mem_or_eq_of_mem_set hm with hm | rfl
        · exact HDB.out.2.2 x hm
        · exact HDI.out
    have hZ5 := hZ3.others (by omega : w.heap.size + 2 ≠ g) [.slice ar r.2.2.2.1.length cr] (k * 3 + 2)
    have HB5 := Lib.hid (below_sets HB3.out g (by omega) [.slice ar r.2.2.2.1.length cr] (k * 3 + 2))
    have HX5 := Lib.hid hx5
    have y0 := hx5.blk.at 0 rfl
    have y1 := hx5.blk.at 1 rfl
    have y2 := hx5.blk.at 2 rfl
    have y3 := hx5.blk.at 3 rfl
    have rf := hZ5.frz
    have r0 := hZ5.at 0 rfl
    have r1 := hZ5.at 1 rfl
    have r2 := hZ5.at 2 rfl
    have r3 := hZ5.at 3 rfl
    clear hx5 hZ3 HB3
    go_upto_region 29 with fail
    clear p0 p1 p2 pf u1 u3
    rw [set_sets]
    generalize W3.setCells g (k * 3 + 2) [.slice ar r.2.2.2.1.length cr] = W5 at *
    go_wp2
    have hRf := hZ5.sets [.slice a (stepH h r).1.1.length c, .slice p (stepH h r).1.2.length d, .int .i64 (stepH h r).2.1, .slice (some ⟨g, 0, none⟩) 3 cap] rfl
    refine ret_cell_tmp Tryz.results34 rfl rfl (hRf.load Tryz.underlying30 rfl sizeHub) ?_
    exact HGOOD.out _ _ _ _ _ _ _ _ _ HE.out HX5.out HDE.out HB5.out
end Go.Proofs.YthlhnokgcnieeadGreat

