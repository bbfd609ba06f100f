/- 1 texts of the proof: orangeryref.nexted at an operation. -/
import Derived.Test.YthlhnokgcnieeadGreatP16
import Derived.Test.YthlhnokgcnieeadGreatP07
/- orangeryref.nexted at an operation. -/
namespace Go.Proofs.YthlhnokgcnieeadGreat
open Go.ChangeShapes Go.WideShapes Go.ChangeAt Go.RowKit
open Orangery (Pl Mv Stp Rc Pr Hb peerE peersE rootsOk hubE histE newHb prOf stepE stepH noHb insE insL insT checkRec checkOp nextE nextH orI foldE foldL foldT hasM noOp)

/-- a load at an offset is taken first -/
theorem take_load_at {P : Program} {md : Region.Mode} {ops : Array Oper} {Q : Exit → Act → World → Prop} {S : World → Prop} (i : Nat) (d : Nat) {oi : Oper} (ty : TypeId) {x : Operand} (b o : Nat) (cs : List Value) {dd : TypeDesc} {fuel : Nat} {listed : Array Bool} {a : Act} {w : World} (hi : ops[i]? = some oi) (hd : oi.dst = some d)
    (hs : Region.noSelect ops = true) (hf : Region.free md ops listed i = true) (hr : (Region.ready md ops listed).contains i = true)
    (hQ : ∀ c a w, Q (.panic c) (a.put oi.dst (.agg cs.toArray)) w → Q (.panic c) a w) (hw : Region.wanted oi (yielded ops a.tmps) = true)
    (ho : oi.op = .load ty x) (hx : a.eval x = .pointer (some ⟨b, o, none⟩)) (hc : ∀ w, S w → w.rangeAt b o cs)
    (hu : P.underlying ty = some dd) (hdd : dd.isRow = true) (hz : (P.info? ty).map (·.size) = some cs.length) (hS : S w)
    (h : wpAnyH P md ops Q S fuel (listed.setIfInBounds i true) (a.put (some d) (.agg cs.toArray)) w) : wpAnyH P md ops Q S (fuel + 1) listed a w :=
  wpAnyH_take hi hs hf hr hQ (yieldsIf_load_mid hw ty x ho b o hx cs dd hc hu hdd hz) hS (by rw [hd]; exact h)
theorem rec_range {w : World} {b : Nat} {k u f : Int} {rt : Value} {o : Mv} (h : Blk w b (rcL k u f rt o)) : w.rangeAt b 4 [Value.int IntKind.i64 o.1, Value.int IntKind.i64 o.2.1, Value.int IntKind.i64 o.2.2.1.1, Value.int IntKind.i64 o.2.2.1.2.1, Value.int IntKind.i64 o.2.2.1.2.2, Value.int IntKind.i64 o.2.2.2.1, Value.int IntKind.i64 o.2.2.2.2] := by
  intro j v hj
  match j, hj with
  | 0, hj => exact h.at 4 hj
  | 1, hj => exact h.at 5 hj
  | 2, hj => exact h.at 6 hj
  | 3, hj => exact h.at 7 hj
  | 4, hj => exact h.at 8 hj
  | 5, hj => exact h.at 9 hj
  | 6, hj => exact h.at 10 hj
/-- the box behind an operation -/
theorem box_op {W : World} {nb g cap : Nat} {a p : Option Addr} {c d : Nat} {X : List Pm} {h : Hb} {k : Nat} (hx : BoxAt 0 W nb g cap a c p d X h) (hk : k < X.length) {D : Nat → Prop} {L : List Stp} {T : List Pl} {aL aT : Option Addr} {cL cT : Nat}
    (hQ : HiX D L T W [.slice aL L.length cL, .slice aT T.length cT]) (hn : ∀ b, D b → b ≠ nb ∧ b ≠ g) (q : Int) :
    BoxAt 0 ((W.setCells nb 0 [.slice aL L.length cL, .slice aT T.length cT]).setCell ⟨g, k * 3 + 1, none⟩ (.int .i64 q)) nb g cap aL cL aT cT (X.set k ((X[k].1.1, q, X[k].1.2.2), X[k].2)) ((L, T), h.2.1, h.2.2.set k ((prOf h k).1, q, (prOf h k).2.2)) ∧ InL D aL L ∧ InL D aT T := by
  obtain ⟨aL', cL', aT', cT', e, h3, h4, h5, h6⟩ := hQ
  simp only [List.cons.injEq, Value.slice.injEq, true_and, and_true] at e
  obtain ⟨⟨rfl, rfl⟩, rfl, rfl⟩ := e
  have on1 : OffL nb aL L := h5.off (fun b hb => (hn b hb).1)
  have og1 : OffL g aL L := h5.off (fun b hb => (hn b hb).2)
  have on2 : OffL nb aT T := h6.off (fun b hb => (hn b hb).1)
  have og2 : OffL g aT T := h6.off (fun b hb => (hn b hb).2)
  have hne := hx.ne
  have hbx := (hx.blk.set 0 (by simp) (.slice aL L.length cL)).set 1 (by simp) (.slice aT T.length cT)
  have hrw := hx.row.other (fun e => hne e.symm) hx.off5 [.slice aL L.length cL, .slice aT T.length cT] 0
  refine ⟨⟨hbx.other hne (k * 3 + 1) (.int .i64 q), hrw.setSeq k hk q, ?_, (h3.sets on1 _ 0).sets og1 [_] _, (h4.sets on2 _ 0).sets og2 [_] _, og1, on1, og2, on2, ?_, hne, h5.imp (fun b _ => Nat.zero_le b), h6.imp (fun b _ => Nat.zero_le b), ?_⟩, h5, h6⟩
  · rw [map_set_peer hx.are k, prOf_at hx.are k hk]
  · intro x hm
    rcases List.mem_or_eq_of_mem_set hm with hm | rfl
    · exact hx.off5 x hm
    · exact hx.off5 X[k] (List.getElem_mem hk)
  · intro x hm
    rcases List.mem_or_eq_of_mem_set hm with hm | rfl
    · exact hx.new3 x hm
    · exact hx.new3 X[k] (List.getElem_mem hk)

set_option maxHeartbeats 8000000 in
set_option maxRecDepth 100000 in
theorem rnexted_op (w : World) (vs : List Value) (h : Hb) (r : Rc) (ar : Option Addr) (cr : Nat) (DD : Nat → Prop) (hh : HuX DD h w vs) (hnw : ∀ b, DD b → b < w.heap.size) (hok : hubE h = 0) (hr : checkRec r = 0) (hrt : SlI w ar r.2.2.2.1) (hin : InL DD ar r.2.2.2.1) (hk : r.1 = 1) :
    Calls Tryz.prog 34 #[.agg vs.toArray, rcV r.1 r.2.1 r.2.2.1 (.slice ar r.2.2.2.1.length cr) r.2.2.2.2] w (Gives (HuX (OldD DD w.heap.size) (stepN h r)) w (stepE h r)) := by
  obtain ⟨i0, hi, hz0, hz1, hz2⟩ := info_parts infoPeer
  obtain ⟨f1, f2, f3, f4⟩ := hub_few hok
  obtain ⟨a, c, p, d, q, gc, X, rfl, hX, hD⟩ := hh
  have hl3 : X.length = 3 := by rw [← hX.are] at f3; simpa using f3
  rw [hl3]
  have HL3 := Lib.hid hl3
  have HX := Lib.hid hX
  have HD := Lib.hid hD
  have HNW := Lib.hid hnw
  clear hnw
  have HR := Lib.hid hrt
  have HIN := Lib.hid hin
  have HOK := Lib.hid hok
  have HCR := Lib.hid hr
  have HKIND := Lib.hid hk
  clear hk
  have HBAD : Hid (∀ E w', E = stepE h r → E ≠ 0 → Below w.heap.size w w' → Gives (HuX (OldD DD w.heap.size) (stepN h r)) w (stepE h r) (.returned (.tuple #[.agg [Value.slice none 0 0, .slice none 0 0, .int .i64 0, .slice none 0 0].toArray, .int .i64 E])) w') := by
    intro E w' e hne hb
    subst e
    exact ⟨_, rfl, by unfold stepN; rw [if_pos hne]; exact HuX.no _ _, hb⟩
  have HNX : Hid (stepE h r = 0 → nextE h r = 0) := fun e => by rw [next_then hok hr]; exact e
  have HGOOD : Hid (∀ (W : World) (nb g cap : Nat) (a p : Option Addr) (c d : Nat) (X : List Pm), stepE h r = 0 → BoxAt 0 W nb g cap a c p d X (stepH h r) → HuD (But DD w.heap.size (w.heap.size + 2)) a p (some ⟨g, 0, none⟩) X (stepH h r) → Below w.heap.size w W → Gives (HuX (OldD DD w.heap.size) (stepN h r)) w (stepE h r) (.returned (.tuple #[.agg [.slice a (stepH h r).1.1.length c, .slice p (stepH h r).1.2.length d, .int .i64 (stepH h r).2.1, .slice (some ⟨g, 0, none⟩) 3 cap].toArray, .int .i64 0])) (W.setCells (w.heap.size + 2) 0 [.slice a (stepH h r).1.1.length c, .slice p (stepH h r).1.2.length d, .int .i64 (stepH h r).2.1, .slice (some ⟨g, 0, none⟩) 3 cap])) := by
    intro W nb g cap a p c d X e0 hx hD hb
    refine ⟨_, by rw [e0], ?_, below_sets hb (w.heap.size + 2) (by omega) _ 0⟩
    have e1 : stepN h r = stepH h r := by unfold stepN; rw [if_neg (by simp [e0])]
    rw [e1]
    exact box_hub hx (Orangery.next_ok (HNX.out e0)).2.2.2 hD _ 0
  clear hX hD hrt hin hr hok f3 f4 hl3
  obtain ⟨W0, hW, hA, hC, hZ, hB, hS⟩ := laid3 w [Value.slice a h.1.1.length c, .slice p h.1.2.length d, .int .i64 h.2.1, .slice q 3 gc] 30 (rcL r.1 r.2.1 r.2.2.1 (.slice ar r.2.2.2.1.length cr) r.2.2.2.2) 37 [Value.slice none 0 0, .slice none 0 0, .int .i64 0, .slice none 0 0] 30
  have HB0 := Lib.hid hB
  have hz0' : w.heap.size + 2 < W0.heap.size := hZ.lt
  clear hB hS
  change ((w.alloc (Obj.cells #[Value.slice a h.1.1.length c, .slice p h.1.2.length d, .int .i64 h.2.1, .slice q 3 gc] 30)).alloc (Obj.cells #[Value.int IntKind.i64 r.1, .int .i64 r.2.1, .int .i64 r.2.2.1, .slice ar r.2.2.2.1.length cr, .int .i64 r.2.2.2.2.1, .int .i64 r.2.2.2.2.2.1, .int .i64 r.2.2.2.2.2.2.1.1, .int .i64 r.2.2.2.2.2.2.1.2.1, .int .i64 r.2.2.2.2.2.2.1.2.2, .int .i64 r.2.2.2.2.2.2.2.1, .int .i64 r.2.2.2.2.2.2.2.2] 37)).alloc (Obj.cells #[Value.slice none 0 0, .slice none 0 0, .int .i64 0, .slice none 0 0] 30) = W0 at hW
  have x0 := hA.at 0 rfl
  have x1 := hA.at 1 rfl
  have x2 := hA.at 2 rfl
  have x3 := hA.at 3 rfl
  by_cases hv : h.2.1 = 60
  · have d1 : (h.2.1 == 60) = true := by simpa using hv
    have HE : Hid (2 = stepE h r) := by show _ = _; unfold stepE; rw [if_pos hv]
    have rf := hZ.frz
    have r0 := hZ.at 0 rfl
    have r1 := hZ.at 1 rfl
    have r2 := hZ.at 2 rfl
    have r3 := hZ.at 3 rfl
    clear hv
    go_enter Tryz.func34, Tryz.ntmps34
    go_wp2
    have hRf := hZ.sets [Value.slice none 0 0, .slice none 0 0, .int .i64 0, .slice none 0 0] rfl
    refine ret_cell_tmp Tryz.results34 rfl rfl (hRf.load Tryz.underlying30 rfl sizeHub) ?_
    exact HBAD.out 2 _ HE.out (by omega) (below_sets HB0.out (w.heap.size + 2) (by omega) [Value.slice none 0 0, .slice none 0 0, .int .i64 0, .slice none 0 0] 0)
  have d1 : (h.2.1 == 60) = false := by simpa using hv
  have HV : Hid (h.2.1 ≠ 60) := hv
  have hn60 : 0 ≤ h.2.1 ∧ h.2.1 ≤ 60 := ((Orangery.hubE_zero h).1 HOK.out).2.1
  have hn1 := hn60.1
  have hn2 := hn60.2
  clear hv hn60
  obtain ⟨W1, hW1, hG1, hB1, -⟩ := laid1 W0 [] 52
  have hown : W1.ownsRow W0.heap.size 52 3 (.slice (some ⟨W0.heap.size, 0, none⟩) 0 0) 0 [] := by
    rw [← hW1]
    exact ⟨rfl, Or.inr ⟨W0.heap.size, 0, #[], rfl, Nat.le_refl _, blk_new rfl, Nat.le_refl _, by unfold maxLen; omega, rfl, rfl⟩⟩
  have HBW1 := Lib.hid (HB0.out.trans (hB1.mono HB0.out.size))
  have hA1 := hA.keep hB1
  have hC1 := hC.keep hB1
  have hZ1 := hZ.keep hB1
  have hs1 := hB1.size
  obtain ⟨bq, oq, hqe, hbq, HSRC⟩ : ∃ bq oq, q = some ⟨bq, oq, none⟩ ∧ bq < w.heap.size ∧ w.rangeAt bq oq (X.flatMap prC) := by
    rcases HX.out.peers.reads with h9 | ⟨b, o, e, hb, hr⟩
    · rw [h9] at HL3; exact absurd HL3.out (by simp)
    · exact ⟨b, o, e, hb, hr⟩
  subst hqe
  have HSR : Hid (∀ j u, (X.flatMap prC)[j]? = some u → W1.cell? ((⟨bq, oq, none⟩ : Addr).add j) = some u) := by
    intro j u hj
    rw [Addr.add_mid, HBW1.out.cell (by exact hbq)]
    exact HSRC j u hj
  have HFL : Hid ((X.flatMap prC).length = 3 * 3) := by show _ = _; rw [flatE_len prC_len, HL3.out]
  have y2 := hA1.at 2 rfl
  have y3 := hA1.at 3 rfl
  clear HSRC hA hC hZ hG1 hB1 HB0
  go_enter Tryz.func34, Tryz.ntmps34
  go_wp2_with (at_builtin; refine wpList_append_own _ rfl _ _ 28 rfl W0.heap.size 52 i0 _ 3 40 Tryz.underlying28 hi hz0 hz1 hz2 rfl (by decide) _ _ _ rfl hown ⟨bq, oq, none⟩ 3 gc (X.flatMap prC) rfl HFL.out ?c1 ?c2 ?c3 ?c4 ?c5 ?_)
  case c1 => exact HSR.out
  case c2 => exact flat_oneE prC_one X
  case c3 => unfold maxLen; omega
  case c4 => omega
  case c5 => omega
  intro v2 w2 hown' hgrow _
  have hOE : OwnE prC 3 52 w2 W0.heap.size v2 X := by
    show World.ownsRow _ _ _ _ _ _ _
    rw [HL3.out]
    simpa using hown'
  have hb2 : Below W0.heap.size W1 w2 := below_grown hown hs1 hgrow
  obtain ⟨g, cap, rfl, hgb, hg0⟩ : ∃ g cap, v2 = .slice (some ⟨g, 0, none⟩) 3 cap ∧ Blk w2 g (X.flatMap prC) ∧ W0.heap.size ≤ g := by
    rcases hOE.2 with ⟨h', hn⟩ | ⟨g', cap', cur, h', _⟩
    · have := HL3.out; omega
    · subst h'
      exact ⟨g', cap', by rw [HL3.out], (own_blk hOE).1, (own_blk hOE).2⟩
  have HB2 := Lib.hid (HBW1.out.trans (hb2.mono (by omega)))
  have hA2 := hA1.below hb2 (by omega)
  have hC2 := hC1.below hb2 (by omega)
  have hZ2 := hZ1.below hb2 (by omega)
  have hgl : g < w2.heap.size := hgb.lt
  have hR2 : Row3 w2 g X := by
    refine ⟨hgb, HL3.out, fun x hx => (HX.out.peers.roots x hx).keep HB2.out, fun x hx => ?_⟩
    exact (HX.out.peers.roots x hx).1.off (by have := HB2.out.size; omega)
  clear hOE hown hown' hgrow hb2 hgb hA1 hC1 hZ1 HBW1 HSR HFL y2 y3 x0 x1 x2 x3 hW hW1 d1
  obtain ⟨W3, hW3, hN3, hB3, -⟩ := laid1 w2 [Value.slice a h.1.1.length c, .slice p h.1.2.length d, .int .i64 (h.2.1 + 1), .slice (some ⟨g, 0, none⟩) 3 cap] 30
  have hws : w.heap.size + 2 < w2.heap.size := hZ2.lt
  have HBX : Hid (BoxAt 0 W3 w2.heap.size g cap a c p d X (h.1, h.2.1 + 1, h.2.2)) := by
    have hat := HX.out.keep HB2.out
    refine ⟨hN3, hR2.keep hB3, HX.out.are, hat.steps.below hB3, hat.places.below hB3, HX.out.steps.off (by omega), hat.steps.off (Nat.le_refl _), HX.out.places.off (by omega), hat.places.off (Nat.le_refl _), fun x hx => ((hat.peers.roots x hx).1.off (Nat.le_refl _)), by omega, Or.inr (fun _ _ _ => Nat.zero_le _), Or.inr (fun _ _ _ => Nat.zero_le _), fun x hx => Or.inr (fun _ _ _ => Nat.zero_le _)⟩
  have HDB : Hid (InL (But DD w.heap.size (w.heap.size + 2)) a h.1.1 ∧ InL (But DD w.heap.size (w.heap.size + 2)) p h.1.2 ∧ ∀ x ∈ X, InL (But DD w.heap.size (w.heap.size + 2)) x.2.1 x.1.2.2) :=
    ⟨HD.out.steps.imp (fun b hb => ⟨Or.inl hb, by have := HNW.out b hb; omega⟩), HD.out.places.imp (fun b hb => ⟨Or.inl hb, by have := HNW.out b hb; omega⟩), fun x hx => (HD.out.roots x hx).imp (fun b hb => ⟨Or.inl hb, by have := HNW.out b hb; omega⟩)⟩
  have HDG : Hid (InL (But DD w.heap.size (w.heap.size + 2)) (some ⟨g, 0, none⟩) X) := Or.inr (fun b off e => by
    obtain ⟨rfl, _⟩ : g = b ∧ 0 = off := by simpa using e
    exact ⟨Or.inr (by omega), by omega⟩)
  have HDI : Hid (InL (But DD w.heap.size (w.heap.size + 2)) ar r.2.2.2.1) := HIN.out.imp (fun b hb => ⟨Or.inl hb, by have := HNW.out b hb; omega⟩)
  have HOI : Hid (OffL g ar r.2.2.2.1 ∧ OffL w2.heap.size ar r.2.2.2.1) := ⟨HR.out.off (by omega), HR.out.off (by omega)⟩
  have hA3 := hA2.keep hB3
  have hC3 := hC2.keep hB3
  have hZ3 := hZ2.keep hB3
  have HB3 := Lib.hid (HB2.out.trans (hB3.mono HB2.out.size))
  have x0 := hA2.at 0 rfl
  have x1 := hA2.at 1 rfl
  have x2 := hA2.at 2 rfl
  have u0 := hC3.at 0 rfl
  clear hB3 hR2 hN3 HB2
  obtain ⟨i1, hj, hy0, hy1, hy2⟩ := info_parts infoOp
  have hk := HKIND.out
  obtain ⟨-, hc⟩ := Orangery.checkRec_op HCR.out hk
  have ho := Orangery.checkOp_zero hc
  simp only [Orangery.opOkB, decide_eq_true_eq] at ho
  obtain ⟨k, hkk⟩ : ∃ k : Nat, r.2.2.2.2.2.1 = (k : Int) := ⟨r.2.2.2.2.2.1.toNat, by omega⟩
  have hk3 : k < 3 := by omega
  obtain ⟨b1, b2, b3, b4⟩ := pr_bounds HOK.out hk3
  have hE : stepE h r = if r.2.2.2.2.2.2.2.1 ≠ (prOf h k).1 ∨ r.2.2.2.2.2.2.2.2 ≠ (prOf h k).2.1 + 1 then 7 else insE h.1.1 h.1.2 r.2.2.2.2 := by
    unfold stepE; rw [if_neg HV.out, if_pos hk, hkk]
  have HHH : Hid (stepH h r = ((insL h.1.1 h.1.2 r.2.2.2.2, insT h.1.1 h.1.2 r.2.2.2.2), h.2.1 + 1, h.2.2.set k ((prOf h k).1, (prOf h k).2.1 + 1, (prOf h k).2.2))) := by
    show _ = _
    unfold stepH
    rw [if_pos hk, hkk]
    rfl
  have HIG : Hid ((hasM (h.1.1.map (·.1)) r.2.2.2.2.1 r.2.2.2.2.2.1 = true → insE h.1.1 h.1.2 r.2.2.2.2 = 6) ∧ (hasM (h.1.1.map (·.1)) r.2.2.2.2.1 r.2.2.2.2.2.1 = false → insE h.1.1 h.1.2 r.2.2.2.2 = foldE (h.1.1.map (·.1) ++ [r.2.2.2.2]) ∧ insL h.1.1 h.1.2 r.2.2.2.2 = foldL (h.1.1.map (·.1) ++ [r.2.2.2.2]) ∧ insT h.1.1 h.1.2 r.2.2.2.2 = foldT (h.1.1.map (·.1) ++ [r.2.2.2.2]))) :=
    insE_go rfl (or_of ((Orangery.hubE_zero h).1 HOK.out).1 hc)
  have HHAS : Hid (hasM (h.1.1.map (·.1)) r.2.2.2.2.1 r.2.2.2.2.2.1 = true ↔ ∃ k, ∃ hk : k < h.1.1.length, h.1.1[k].1.1 = r.2.2.2.2.1 ∧ h.1.1[k].1.2.1 = r.2.2.2.2.2.1) := by
    show _ ↔ _
    rw [Orangery.hasM_iff]
    constructor
    · rintro ⟨x, hx, e⟩
      obtain ⟨s, hs, rfl⟩ := List.mem_map.1 hx
      obtain ⟨k, hk, rfl⟩ := List.getElem_of_mem hs
      exact ⟨k, hk, e⟩
    · rintro ⟨k, hk, e⟩
      exact ⟨h.1.1[k].1, List.mem_map.2 ⟨h.1.1[k], List.getElem_mem hk, rfl⟩, e⟩
  have hkl : k < X.length := by have := HL3.out; omega
  have hlti : (k : Int) < 3 := by omega
  have u5 := hC3.at 5 rfl
  have u9 := hC3.at 9 rfl
  have u10 := hC3.at 10 rfl
  obtain ⟨p0, p1, -⟩ := HBX.out.row.cells k hkl
  rw [prOf_at (h := h) HX.out.are k hkl] at p0 p1
  have e1 : (r.1 == 1) = true := by rw [hk]; rfl
  rw [hkk] at u5
  clear ho hc hk hkk
  by_cases hq : r.2.2.2.2.2.2.2.1 ≠ (prOf h k).1 ∨ r.2.2.2.2.2.2.2.2 ≠ (prOf h k).2.1 + 1
  · have HE : Hid (7 = stepE h r) := by show _ = _; rw [hE, if_pos hq]
    have rf := hZ3.frz
    have r0 := hZ3.at 0 rfl
    have r1 := hZ3.at 1 rfl
    have r2 := hZ3.at 2 rfl
    have r3 := hZ3.at 3 rfl
    by_cases hq1 : r.2.2.2.2.2.2.2.1 = (prOf h k).1
    · skip
      have d1 : (r.2.2.2.2.2.2.2.1 != (prOf h k).1) = false := by simp [hq1]
      have d2 : (r.2.2.2.2.2.2.2.2 != (prOf h k).2.1 + 1) = true := by simp; omega
      clear hq hq1 hE
      go_upto_region 8 with fail
      clear hW3
      go_quiet (fail)
      go_wp2
      have hRf := (hZ3.keep (below_drewN_any _ _ nq)).sets [Value.slice none 0 0, .slice none 0 0, .int .i64 0, .slice none 0 0] rfl
      refine ret_cell_tmp Tryz.results34 rfl rfl (hRf.load Tryz.underlying30 rfl sizeHub) ?_
      exact HBAD.out 7 _ HE.out (by omega) (below_sets (HB3.out.trans (below_drewN_any _ _ nq)) (w.heap.size + 2) (by omega) [Value.slice none 0 0, .slice none 0 0, .int .i64 0, .slice none 0 0] 0)
    · skip
      have d1 : (r.2.2.2.2.2.2.2.1 != (prOf h k).1) = true := by simp [hq1]
      clear hq hq1 hE
      go_upto_region 8 with fail
      clear hW3
      go_quiet (fail)
      go_wp2
      have hRf := (hZ3.keep (below_drewN_any _ _ nq)).sets [Value.slice none 0 0, .slice none 0 0, .int .i64 0, .slice none 0 0] rfl
      refine ret_cell_tmp Tryz.results34 rfl rfl (hRf.load Tryz.underlying30 rfl sizeHub) ?_
      exact HBAD.out 7 _ HE.out (by omega) (below_sets (HB3.out.trans (below_drewN_any _ _ nq)) (w.heap.size + 2) (by omega) [Value.slice none 0 0, .slice none 0 0, .int .i64 0, .slice none 0 0] 0)
  have hq' : r.2.2.2.2.2.2.2.1 = (prOf h k).1 ∧ r.2.2.2.2.2.2.2.2 = (prOf h k).2.1 + 1 := by simpa using hq
  have HE0 : Hid (stepE h r = insE h.1.1 h.1.2 r.2.2.2.2) := by show _ = _; rw [hE, if_neg hq]
  have d1 : (r.2.2.2.2.2.2.2.1 != (prOf h k).1) = false := by simp [hq'.1]
  have d2 : (r.2.2.2.2.2.2.2.2 != (prOf h k).2.1 + 1) = false := by simp [hq'.2]
  clear hE hq hq'
  go_upto_region 8 with fail
  clear hW3
  go_quiet (fail)
  have hDq : Below W3.heap.size W3 (W3.drewN nq) := below_drewN_any _ _ _
  have HX4 := Lib.hid (HBX.out.keep hDq)
  have hZ4 := hZ3.keep hDq
  have hC4 := hC3.keep hDq
  have hA4 := hA3.keep hDq
  have HB4 := Lib.hid (HB3.out.trans (hDq.mono HB3.out.size))
  have hsz4 : w.heap.size + 2 < (W3.drewN nq).heap.size := hZ4.lt
  have hnl : w2.heap.size < (W3.drewN nq).heap.size := HX4.out.blk.lt
  clear hDq hZ3 hC3 hA3 HB3 HBX x0 x1 x2 u0 u5 u9 u10 p0 p1 hA2 hC2 hZ2 d1 d2
  generalize W3.drewN nq = W4 at *
  clear nq
  have x0 := hA4.at 0 rfl
  go_wp2
  go_loopw [62] (fun i W => ∃ k : Nat, k ≤ h.1.1.length ∧ i = .int .i64 k ∧ (∀ j, (hj : j < h.1.1.length) → j < k → ¬ (h.1.1[j].1.1 = r.2.2.2.2.1 ∧ h.1.1[j].1.2.1 = r.2.2.2.2.2.1)) ∧ Below W4.heap.size W4 W) (fun i _ => h.1.1.length - (intOf i).toNat)
  case atStart => exact ⟨0, Nat.zero_le _, rfl, fun j _ hj => absurd hj (Nat.not_lt_zero _), Below.refl _ _⟩
  case round =>
    obtain ⟨kk, hkle, rfl, hno, hb⟩ := hrel
    have HNO : Hid (∀ j, (hj : j < h.1.1.length) → j < kk → ¬ (h.1.1[j].1.1 = r.2.2.2.2.1 ∧ h.1.1[j].1.2.1 = r.2.2.2.2.2.1)) := hno
    clear hno
    have hA5 := hA4.keep hb
    have hC5 := hC4.keep hb
    have hZ5 := hZ4.keep hb
    have HX5 := Lib.hid (HX4.out.keep hb)
    have HB5 := Lib.hid (HB4.out.trans (hb.mono HB4.out.size))
    have hsz5 : W4.heap.size ≤ wr.heap.size := hb.size
    by_cases hlt : kk < h.1.1.length
    · obtain ⟨b, off, rfl, hbl, hr⟩ := (HX.out.steps.below HB5.out).at stC_len kk hlt
      obtain ⟨g0, g1, g2, g3, g4, g5, g6, g7, g8, g9, g10⟩ := st_cells hr
      have HK : Hid ((h.1.1[kk].1.1 = r.2.2.2.2.1 ∧ h.1.1[kk].1.2.1 = r.2.2.2.2.2.1) → hasM (h.1.1.map (·.1)) r.2.2.2.2.1 r.2.2.2.2.2.1 = true) := fun e => HHAS.out.2 ⟨kk, hlt, e⟩
      have HKE : Hid (∀ j, (hj : j < h.1.1.length) → j = kk → h.1.1[j].1.1 = h.1.1[kk].1.1 ∧ h.1.1[j].1.2.1 = h.1.1[kk].1.2.1) := fun j hj e => by subst e; exact ⟨rfl, rfl⟩
      have he := run_eql_stamp
      have hgd := guard_stamp
      clear hr
      generalize h.1.1[kk] = s at *
      obtain ⟨⟨q1, q2, ⟨q3, q4, q5⟩, q6, q7⟩, d', ⟨z1, z2, z3⟩⟩ := s
      simp only at g0 g1 g2 g3 g4 g5 g6 g7 g8 g9 g10 HK HKE
      obtain ⟨W6, hW6, hN, hBn, -⟩ := laid1 wr [Value.int IntKind.i64 q1, Value.int IntKind.i64 q2, Value.int IntKind.i64 q3, Value.int IntKind.i64 q4, Value.int IntKind.i64 q5, Value.int IntKind.i64 q6, Value.int IntKind.i64 q7, Value.bool d', Value.int IntKind.i64 z1, Value.int IntKind.i64 z2, Value.int IntKind.i64 z3] 95
      have hZ6 := hZ5.keep hBn
      have hC6 := hC5.keep hBn
      have HB6 : Hid (Below W4.heap.size W4 W6) := hb.trans (hBn.mono hb.size)
      have HBW6 := Lib.hid (HB5.out.trans (hBn.mono HB5.out.size))
      have n0 := hN.at 0 rfl
      have n1 := hN.at 1 rfl
      have m4 := hC6.at 4 rfl
      have m5 := hC6.at 5 rfl
      have r0 := hZ6.at 0 rfl
      have r1 := hZ6.at 1 rfl
      have r2 := hZ6.at 2 rfl
      have r3 := hZ6.at 3 rfl
      have rf := hZ6.frz
      clear hA5 hC5 hZ5 HX5 HB5 hBn hb hN hC6
      by_cases hq : q1 = r.2.2.2.2.1 ∧ q2 = r.2.2.2.2.2.1
      · have hq1 : decide (q1 = r.2.2.2.2.1) = true := by simp [hq.1]
        have hq2 : decide (q2 = r.2.2.2.2.2.1) = true := by simp [hq.2]
        have HE : Hid (6 = stepE h r) := by show _ = _; rw [HE0.out]; exact (HIG.out.1 (HK.out hq)).symm
        clear hq HK HIG HHAS
        go_wp2
        have hRf := hZ6.sets [Value.slice none 0 0, .slice none 0 0, .int .i64 0, .slice none 0 0] rfl
        refine ret_cell_tmp Tryz.results34 rfl rfl (hRf.load Tryz.underlying30 rfl sizeHub) ?_
        exact HBAD.out 6 _ HE.out (by omega) (below_sets HBW6.out (w.heap.size + 2) (by omega) [Value.slice none 0 0, .slice none 0 0, .int .i64 0, .slice none 0 0] 0)
      · have hqf : (decide (q1 = r.2.2.2.2.1) && decide (q2 = r.2.2.2.2.2.1)) = false := by simpa using hq
        have HQ : Hid (¬ (q1 = r.2.2.2.2.1 ∧ q2 = r.2.2.2.2.2.1)) := hq
        clear hq HK
        go_wp2
        go_roundw
        case rel =>
          refine ⟨kk + 1, hlt, by go_num, fun j hj hjk => ?_, HB6.out⟩
          by_cases hjk' : j < kk
          · exact HNO.out j hj hjk'
          · obtain ⟨e1, e2⟩ := HKE.out j hj (by omega)
            rw [e1, e2]
            exact HQ.out
        case measure => simp [intOf]; omega
    have HF : Hid (hasM (h.1.1.map (·.1)) r.2.2.2.2.1 r.2.2.2.2.2.1 = false) := by
      show _ = _
      cases hq : hasM (h.1.1.map (·.1)) r.2.2.2.2.1 r.2.2.2.2.2.1
      · rfl
      · obtain ⟨j, hj, e⟩ := HHAS.out.1 hq
        exact absurd e (HNO.out j hj (by omega))
    have HG := Lib.hid (HIG.out.2 HF.out)
    have hml : (h.1.1.map (·.1)).length ≤ 30 := by simp; exact f1
    have HST := Lib.hid (HX.out.steps.below HB5.out)
    have hf1 : h.1.1.length * 88 ≤ 140737488351232 := by omega
    clear HIG HHAS HNO HF hb hA4 hC4 hZ4 HX4 HB4 x0
    rename World => WI
    have CALLO : Hid (∀ W', Below WI.heap.size WI W' → Calls Tryz.prog 77 #[hiV (.slice a h.1.1.length c) (.slice p h.1.2.length d)] W' fun e w' => ∃ v, e = .returned v ∧ OwnE opC 7 35 w' W'.heap.size v (h.1.1.map (·.1)) ∧ Below W'.heap.size W' w') := fun W' hw => rops_any W' a c h.1.1 _ hf1 (HST.out.below hw)
    generalize hm : h.1.1.map (·.1) = m at *
    obtain ⟨Mn, hMn⟩ : ∃ Mn, Mn = m ++ [r.2.2.2.2] := ⟨_, rfl⟩
    have HMN := Lib.hid hMn
    have HMB : Hid (Mn.flatMap opC = m.flatMap opC ++ [Value.int IntKind.i64 r.2.2.2.2.1, Value.int IntKind.i64 r.2.2.2.2.2.1, Value.int IntKind.i64 r.2.2.2.2.2.2.1.1, Value.int IntKind.i64 r.2.2.2.2.2.2.1.2.1, Value.int IntKind.i64 r.2.2.2.2.2.2.1.2.2, Value.int IntKind.i64 r.2.2.2.2.2.2.2.1, Value.int IntKind.i64 r.2.2.2.2.2.2.2.2] ∧ Mn.length = m.length + 1) := by
      show _ ∧ _
      rw [hMn]
      simp [opC]
    obtain ⟨FE, hFE⟩ : ∃ FE, FE = foldE Mn := ⟨_, rfl⟩
    obtain ⟨FL, hFL⟩ : ∃ FL, FL = foldL Mn := ⟨_, rfl⟩
    obtain ⟨FT, hFT⟩ : ∃ FT, FT = foldT Mn := ⟨_, rfl⟩
    have HG2 : Hid (insE h.1.1 h.1.2 r.2.2.2.2 = FE ∧ insL h.1.1 h.1.2 r.2.2.2.2 = FL ∧ insT h.1.1 h.1.2 r.2.2.2.2 = FT) := by
      show _ ∧ _ ∧ _
      rw [hFE, hFL, hFT, hMn]
      exact HG.out
    have CALLF : Hid (∀ W' a c, SlE opC W' a Mn → Calls Tryz.prog 76 #[.slice a Mn.length c] W' (Gives (HiX (Old 0 W'.heap.size) FL FT) W' FE)) := by
      intro W' a c hs
      rw [hFE, hFL, hFT]
      refine (rfold_any W' a c Mn (by rw [hMn]; simp; unfold maxLen; omega) hs).mono (fun e w' hr => rfolds_gives 0 hr)
    have HOPR : Hid (∀ W', Below WI.heap.size WI W' → W'.rangeAt (w.heap.size + 1) 4 [Value.int IntKind.i64 r.2.2.2.2.1, Value.int IntKind.i64 r.2.2.2.2.2.1, Value.int IntKind.i64 r.2.2.2.2.2.2.1.1, Value.int IntKind.i64 r.2.2.2.2.2.2.1.2.1, Value.int IntKind.i64 r.2.2.2.2.2.2.1.2.2, Value.int IntKind.i64 r.2.2.2.2.2.2.2.1, Value.int IntKind.i64 r.2.2.2.2.2.2.2.2]) := fun W' hw => rec_range (hC5.keep hw)
    have hA5' := hA5.two
    clear hMn hFE hFL hFT hm HG HST
    go_upto_region 16 with fail
    go_cut [11, 12] from 75 to 85 (fun r e wc => ∃ b vs, r = .pointer (some ⟨b, 0, none⟩) ∧ e = .int .i64 FE ∧ Blk wc b vs ∧ HiX (WI.heap.size ≤ ·) FL FT wc vs ∧ WI.heap.size ≤ b ∧ Below WI.heap.size WI wc)
    case first =>
      refine wp_region_held_drew (S := fun w' => Below WI.heap.size WI w') (by kernel_rfl) ((Below.refl _ WI).drew) (fun hHeld => ?_)
      refine take_yes 0 76 (v := ?_) rfl rfl (by kernel_rfl) (by kernel_rfl) (by kernel_rfl) (fun _ _ _ h => h) (by rfl) ?_ hHeld ?_
      rotate_left 1
      · (intro w hSw; go_simp; try with_reducible rfl)
      simp only [Act.put, List.setIfInBounds_toArray, List.set_cons_succ, List.set_cons_zero]
      refine take_load 1 77 27 w.heap.size [.slice a h.1.1.length c, .slice p h.1.2.length d] rfl rfl (by kernel_rfl) (by kernel_rfl) (by kernel_rfl) (fun _ _ _ h => h) (by rfl) (by rfl) (by rfl) (fun w hw => (hA5'.keep hw).range) Tryz.underlying27 rfl sizeHist hHeld ?_
      simp only [Act.put, List.setIfInBounds_toArray, List.set_cons_succ, List.set_cons_zero]
      refine take_yes 3 79 (v := ?_) rfl rfl (by kernel_rfl) (by kernel_rfl) (by kernel_rfl) (fun _ _ _ h => h) (by rfl) ?_ hHeld ?_
      rotate_left 1
      · (intro w hSw; go_simp; try with_reducible rfl)
      simp only [Act.put, List.setIfInBounds_toArray, List.set_cons_succ, List.set_cons_zero]
      refine take_load_at 4 80 35 (w.heap.size + 1) 4 [Value.int IntKind.i64 r.2.2.2.2.1, Value.int IntKind.i64 r.2.2.2.2.2.1, Value.int IntKind.i64 r.2.2.2.2.2.2.1.1, Value.int IntKind.i64 r.2.2.2.2.2.2.1.2.1, Value.int IntKind.i64 r.2.2.2.2.2.2.1.2.2, Value.int IntKind.i64 r.2.2.2.2.2.2.2.1, Value.int IntKind.i64 r.2.2.2.2.2.2.2.2] rfl rfl (by kernel_rfl) (by kernel_rfl) (by kernel_rfl) (fun _ _ _ h => h) (by rfl) (by rfl) (by rfl) (fun w hw => HOPR.out w hw) Tryz.underlying35 rfl sizeOp hHeld ?_
      simp only [Act.put, List.setIfInBounds_toArray, List.set_cons_succ, List.set_cons_zero]
      generalize hWD : WI.drew = WD at *
      clear hWD
      refine wpAnyH_ready (rs := [2, 5, 11]) (by kernel_rfl) (by simp) ?_
      refine AllReadyH.cons rfl (fun KK hKK => ?_) (AllReadyH.cons rfl (fun KK hKK => ?_) (AllReadyH.cons rfl (fun KK hKK => ?_) AllReadyH.nil))
      · skip
        go_simp
        refine (CALLO.out _ hHeld).mono ?_
        rintro e w21 ⟨v5, rfl, hO5', hb5⟩
        have hO5 := hO5'.mono (base' := WI.heap.size) hHeld.size
        obtain ⟨a5, c5, rfl, _, _⟩ := hO5.val
        replace hHeld : Below WI.heap.size WI w21 := hHeld.trans (hb5.mono hHeld.size)
        clear hO5' hb5
        go_wp2_with fail
        refine hKK.out _ _ (hHeld) (fun hHeld => ?_)
        clear hKK KK
        refine wpAnyH_ready (rs := [5, 11]) (by kernel_rfl) (by simp) ?_
        refine AllReadyH.cons rfl (fun KK hKK => ?_) (AllReadyH.cons rfl (fun KK hKK => ?_) AllReadyH.nil)
        · skip
          go_simp
          have hNo := Blk.new w21 [Value.int IntKind.i64 r.2.2.2.2.1, Value.int IntKind.i64 r.2.2.2.2.2.1, Value.int IntKind.i64 r.2.2.2.2.2.2.1.1, Value.int IntKind.i64 r.2.2.2.2.2.2.1.2.1, Value.int IntKind.i64 r.2.2.2.2.2.2.1.2.2, Value.int IntKind.i64 r.2.2.2.2.2.2.2.1, Value.int IntKind.i64 r.2.2.2.2.2.2.2.2] 35
          replace hO5 := hO5.keep (Go.Joins.below_alloc1 w21 (Obj.cells [Value.int IntKind.i64 r.2.2.2.2.1, Value.int IntKind.i64 r.2.2.2.2.2.1, Value.int IntKind.i64 r.2.2.2.2.2.2.1.1, Value.int IntKind.i64 r.2.2.2.2.2.2.1.2.1, Value.int IntKind.i64 r.2.2.2.2.2.2.1.2.2, Value.int IntKind.i64 r.2.2.2.2.2.2.2.1, Value.int IntKind.i64 r.2.2.2.2.2.2.2.2].toArray 35))
          replace hHeld := hHeld.alloc hHeld.size (Obj.cells [Value.int IntKind.i64 r.2.2.2.2.1, Value.int IntKind.i64 r.2.2.2.2.2.1, Value.int IntKind.i64 r.2.2.2.2.2.2.1.1, Value.int IntKind.i64 r.2.2.2.2.2.2.1.2.1, Value.int IntKind.i64 r.2.2.2.2.2.2.1.2.2, Value.int IntKind.i64 r.2.2.2.2.2.2.2.1, Value.int IntKind.i64 r.2.2.2.2.2.2.2.2].toArray 35)
          refine hKK.out _ _ (hHeld) (fun hHeld => ?_)
          clear hKK KK
          generalize w21.alloc (Obj.cells [Value.int IntKind.i64 r.2.2.2.2.1, Value.int IntKind.i64 r.2.2.2.2.2.1, Value.int IntKind.i64 r.2.2.2.2.2.2.1.1, Value.int IntKind.i64 r.2.2.2.2.2.2.1.2.1, Value.int IntKind.i64 r.2.2.2.2.2.2.1.2.2, Value.int IntKind.i64 r.2.2.2.2.2.2.2.1, Value.int IntKind.i64 r.2.2.2.2.2.2.2.2].toArray 35) = w22 at *
          refine wpAnyH_ready (rs := [6, 11]) (by kernel_rfl) (by simp) ?_
          refine AllReadyH.cons rfl (fun KK hKK => ?_) (AllReadyH.cons rfl (fun KK hKK => ?_) AllReadyH.nil)
          · skip
            rw [if_pos ?q2]
            case q2 => kernel_rfl
            have hown := (show OwnE opC 7 35 w22 WI.heap.size (.slice a5 m.length c5) m from hO5).row
            have hszc := hHeld.size
            have hnews : ∀ j u, ([Value.int IntKind.i64 r.2.2.2.2.1, Value.int IntKind.i64 r.2.2.2.2.2.1, Value.int IntKind.i64 r.2.2.2.2.2.2.1.1, Value.int IntKind.i64 r.2.2.2.2.2.2.1.2.1, Value.int IntKind.i64 r.2.2.2.2.2.2.1.2.2, Value.int IntKind.i64 r.2.2.2.2.2.2.2.1, Value.int IntKind.i64 r.2.2.2.2.2.2.2.2] : List Value)[j]? = some u → w22.cell? ((⟨w21.heap.size, 0, none⟩ : Addr).add j) = some u := fun j u hj => by rw [Addr.add_mid, Nat.zero_add]; exact hNo.at j hj
            refine wp_append_own _ (Operand.tmp 78) (Operand.tmp 81) 58 ?n31 WI.heap.size 35 i1 _ 7 56 Tryz.underlying58 hj hy0 hy1 hy2 ?n32 ?n33 (.slice a5 m.length c5) m.length (m.flatMap opC) ?n34 hown ⟨w21.heap.size, 0, none⟩ 1 1 [Value.int IntKind.i64 r.2.2.2.2.1, Value.int IntKind.i64 r.2.2.2.2.2.1, Value.int IntKind.i64 r.2.2.2.2.2.2.1.1, Value.int IntKind.i64 r.2.2.2.2.2.2.1.2.1, Value.int IntKind.i64 r.2.2.2.2.2.2.1.2.2, Value.int IntKind.i64 r.2.2.2.2.2.2.2.1, Value.int IntKind.i64 r.2.2.2.2.2.2.2.2] ?n35 ?n36 ?n37 ?n38 ?n39 ?n3a ?n3b ?_
            case n31 => rfl
            case n32 => rfl
            case n33 => decide
            case n34 => rfl
            case n35 => rfl
            case n36 => rfl
            case n37 => exact hnews
            case n38 => exact opC_one r.2.2.2.2
            case n39 => unfold maxLen; omega
            case n3a => omega
            case n3b => exact hszc
            intro v7 w23 hown' hgrow _
            have hO7 : OwnE opC 7 35 w23 WI.heap.size v7 Mn := by
              show World.ownsRow _ _ _ _ _ _ _
              rw [HMB.out.1, HMB.out.2]
              exact hown'
            replace hHeld : Below WI.heap.size WI w23 := hHeld.grown hgrow hszc (fun g hg => (hown.lt g hg).1)
            obtain ⟨a7, c7, rfl, hP7, _⟩ := hO7.val
            clear hown hown' hnews hszc hgrow hO7 hO5 hNo
            refine hKK.out _ _ (hHeld) (fun hHeld => ?_)
            clear hKK KK
            refine wpAnyH_ready (rs := [7, 11]) (by kernel_rfl) (by simp) ?_
            refine AllReadyH.cons rfl (fun KK hKK => ?_) (AllReadyH.cons rfl (fun KK hKK => ?_) AllReadyH.nil)
            · skip
              go_simp
              refine (CALLF.out _ a7 c7 hP7).mono ?_
              rintro e w24 ⟨vs, rfl, hQ, hb7⟩
              have hlen := hQ.len
              have hQge : ∀ b, Old 0 w23.heap.size b → WI.heap.size ≤ b := fun b hb => Nat.le_trans hHeld.size (old_ge hb)
              replace hHeld : Below WI.heap.size WI w24 := hHeld.trans (hb7.mono hHeld.size)
              clear hb7 hP7
              go_wp2_with fail
              refine hKK.out _ _ (hHeld) (fun hHeld => ?_)
              clear hKK KK
              refine take_yes 8 75 (v := ?_) rfl rfl (by kernel_rfl) (by kernel_rfl) (by kernel_rfl) (fun _ _ _ h => h) (by rfl) ?_ hHeld ?_
              rotate_left 1
              · (intro w hSw; go_simp; try with_reducible rfl)
              simp only [Act.put, List.setIfInBounds_toArray, List.set_cons_succ, List.set_cons_zero]
              refine take_yes 9 84 (v := ?_) rfl rfl (by kernel_rfl) (by kernel_rfl) (by kernel_rfl) (fun _ _ _ h => h) (by rfl) ?_ hHeld ?_
              rotate_left 1
              · (intro w hSw; go_simp; try with_reducible rfl)
              simp only [Act.put, List.setIfInBounds_toArray, List.set_cons_succ, List.set_cons_zero]
              refine take_yes 10 85 (v := ?_) rfl rfl (by kernel_rfl) (by kernel_rfl) (by kernel_rfl) (fun _ _ _ h => h) (by rfl) ?_ hHeld ?_
              rotate_left 1
              · (intro w hSw; go_simp; try with_reducible rfl)
              simp only [Act.put, List.setIfInBounds_toArray, List.set_cons_succ, List.set_cons_zero]
              refine wpAnyH_ready (rs := [11]) (by kernel_rfl) (by simp) ?_
              refine AllReadyH.cons rfl (fun KK hKK => ?_) AllReadyH.nil
              go_simp
              have hN := Blk.new w24 [Value.slice none 0 0, .slice none 0 0] 27
              have hNge : WI.heap.size ≤ w24.heap.size := hHeld.size
              have hQne : ∀ b, (Old 0 w23.heap.size b ∧ b < w24.heap.size) → b ≠ w24.heap.size := fun b hb => by have := hb.2; omega
              replace hQ := hQ.lowD.keep (Go.Joins.below_alloc1 w24 (Obj.cells [Value.slice none 0 0, .slice none 0 0].toArray 27))
              replace hQge : ∀ b, (Old 0 w23.heap.size b ∧ b < w24.heap.size) → WI.heap.size ≤ b := fun b hb => hQge b hb.1
              replace hHeld := hHeld.alloc hHeld.size (Obj.cells [Value.slice none 0 0, .slice none 0 0].toArray 27)
              refine hKK.out _ _ (hHeld) (fun hHeld => ?_)
              clear hKK KK
              generalize w24.alloc (Obj.cells [Value.slice none 0 0, .slice none 0 0].toArray 27) = w25 at *
              have HR : Hid (HiX (WI.heap.size ≤ ·) FL FT (w25.setCells w24.heap.size 0 vs) vs) := (hQ.sets w24.heap.size hQne vs 0).imp hQge
              have HBk : Hid (Blk (w25.setCells w24.heap.size 0 vs) w24.heap.size vs) := hN.sets vs (by rw [hlen]; rfl)
              refine step_store 12 27 w24.heap.size vs (by kernel_rfl) rfl rfl (by rfl) (by rfl) (by rfl) (by rfl) (by rw [hlen]; exact hN.there) (by rw [hlen]; exact sizeHist) hQ.one (below_sets hHeld w24.heap.size hNge vs 0) ?_
              have hHeld := below_sets hHeld w24.heap.size hNge vs 0
              refine take_yes 13 12 (v := ?_) rfl rfl (by kernel_rfl) (by kernel_rfl) (by kernel_rfl) (fun _ _ _ h => h) (by rfl) ?_ hHeld ?_
              rotate_left 1
              · (intro w hSw; go_simp; try with_reducible rfl)
              simp only [Act.put, List.setIfInBounds_toArray, List.set_cons_succ, List.set_cons_zero]
              refine wpAnyH_done (by kernel_rfl) ?_ _
              have HHeld := Lib.hid hHeld
              have HNG := Lib.hid hNge
              clear hHeld hQ hN hNge hQne hQge
              go_wp2
              go_meet
              case rel => exact ⟨_, vs, rfl, rfl, HBk.out, HR.out, HNG.out, HHeld.out⟩
            · skip
              go_simp
              have hN := Blk.new w23 [Value.slice none 0 0, .slice none 0 0] 27
              have hNge : WI.heap.size ≤ w23.heap.size := hHeld.size
              replace hP7 := hP7.below (Go.Joins.below_alloc1 w23 (Obj.cells [Value.slice none 0 0, .slice none 0 0].toArray 27))
              replace hHeld := hHeld.alloc hHeld.size (Obj.cells [Value.slice none 0 0, .slice none 0 0].toArray 27)
              refine hKK.out _ _ (hHeld) (fun hHeld => ?_)
              clear hKK KK
              generalize w23.alloc (Obj.cells [Value.slice none 0 0, .slice none 0 0].toArray 27) = w26 at *
              refine wpAnyH_ready (rs := [7]) (by kernel_rfl) (by simp) ?_
              refine AllReadyH.cons rfl (fun KK hKK => ?_) AllReadyH.nil
              go_simp
              refine (CALLF.out _ a7 c7 hP7).mono ?_
              rintro e w27 ⟨vs, rfl, hQ, hb7⟩
              have hlen := hQ.len
              have hQge : ∀ b, Old 0 w26.heap.size b → WI.heap.size ≤ b := fun b hb => Nat.le_trans hHeld.size (old_ge hb)
              have hQne : ∀ b, Old 0 w26.heap.size b → b ≠ w23.heap.size := fun b hb => by have := old_ge hb; have := hN.lt; omega
              replace hN := hN.keep hb7
              replace hHeld : Below WI.heap.size WI w27 := hHeld.trans (hb7.mono hHeld.size)
              clear hb7 hP7
              go_wp2_with fail
              refine hKK.out _ _ (hHeld) (fun hHeld => ?_)
              clear hKK KK
              refine take_yes 8 75 (v := ?_) rfl rfl (by kernel_rfl) (by kernel_rfl) (by kernel_rfl) (fun _ _ _ h => h) (by rfl) ?_ hHeld ?_
              rotate_left 1
              · (intro w hSw; go_simp; try with_reducible rfl)
              simp only [Act.put, List.setIfInBounds_toArray, List.set_cons_succ, List.set_cons_zero]
              refine take_yes 9 84 (v := ?_) rfl rfl (by kernel_rfl) (by kernel_rfl) (by kernel_rfl) (fun _ _ _ h => h) (by rfl) ?_ hHeld ?_
              rotate_left 1
              · (intro w hSw; go_simp; try with_reducible rfl)
              simp only [Act.put, List.setIfInBounds_toArray, List.set_cons_succ, List.set_cons_zero]
              refine take_yes 10 85 (v := ?_) rfl rfl (by kernel_rfl) (by kernel_rfl) (by kernel_rfl) (fun _ _ _ h => h) (by rfl) ?_ hHeld ?_
              rotate_left 1
              · (intro w hSw; go_simp; try with_reducible rfl)
              simp only [Act.put, List.setIfInBounds_toArray, List.set_cons_succ, List.set_cons_zero]
              have HR : Hid (HiX (WI.heap.size ≤ ·) FL FT (w27.setCells w23.heap.size 0 vs) vs) := (hQ.sets w23.heap.size hQne vs 0).imp hQge
              have HBk : Hid (Blk (w27.setCells w23.heap.size 0 vs) w23.heap.size vs) := hN.sets vs (by rw [hlen]; rfl)
              refine step_store 12 27 w23.heap.size vs (by kernel_rfl) rfl rfl (by rfl) (by rfl) (by rfl) (by rfl) (by rw [hlen]; exact hN.there) (by rw [hlen]; exact sizeHist) hQ.one (below_sets hHeld w23.heap.size hNge vs 0) ?_
              have hHeld := below_sets hHeld w23.heap.size hNge vs 0
              refine take_yes 13 12 (v := ?_) rfl rfl (by kernel_rfl) (by kernel_rfl) (by kernel_rfl) (fun _ _ _ h => h) (by rfl) ?_ hHeld ?_
              rotate_left 1
              · (intro w hSw; go_simp; try with_reducible rfl)
              simp only [Act.put, List.setIfInBounds_toArray, List.set_cons_succ, List.set_cons_zero]
              refine wpAnyH_done (by kernel_rfl) ?_ _
              have HHeld := Lib.hid hHeld
              have HNG := Lib.hid hNge
              clear hHeld hQ hN hNge hQne hQge
              go_wp2
              go_meet
              case rel => exact ⟨_, vs, rfl, rfl, HBk.out, HR.out, HNG.out, HHeld.out⟩
          · skip
            go_simp
            have hN := Blk.new w22 [Value.slice none 0 0, .slice none 0 0] 27
            have hNge : WI.heap.size ≤ w22.heap.size := hHeld.size
            have HNE : Hid (∀ g, (Value.slice a5 m.length c5).ownBlock = some g → w22.heap.size ≠ g) := fun g hg => by have := (hO5.lt g hg).2; omega
            replace hO5 := hO5.keep (Go.Joins.below_alloc1 w22 (Obj.cells [Value.slice none 0 0, .slice none 0 0].toArray 27))
            replace hNo := hNo.keep (Go.Joins.below_alloc1 w22 (Obj.cells [Value.slice none 0 0, .slice none 0 0].toArray 27))
            replace hHeld := hHeld.alloc hHeld.size (Obj.cells [Value.slice none 0 0, .slice none 0 0].toArray 27)
            refine hKK.out _ _ (hHeld) (fun hHeld => ?_)
            clear hKK KK
            generalize w22.alloc (Obj.cells [Value.slice none 0 0, .slice none 0 0].toArray 27) = w28 at *
            refine wpAnyH_ready (rs := [6]) (by kernel_rfl) (by simp) ?_
            refine AllReadyH.cons rfl (fun KK hKK => ?_) AllReadyH.nil
            rw [if_pos ?q8]
            case q8 => kernel_rfl
            have hown := (show OwnE opC 7 35 w28 WI.heap.size (.slice a5 m.length c5) m from hO5).row
            have hszc := hHeld.size
            have hnews : ∀ j u, ([Value.int IntKind.i64 r.2.2.2.2.1, Value.int IntKind.i64 r.2.2.2.2.2.1, Value.int IntKind.i64 r.2.2.2.2.2.2.1.1, Value.int IntKind.i64 r.2.2.2.2.2.2.1.2.1, Value.int IntKind.i64 r.2.2.2.2.2.2.1.2.2, Value.int IntKind.i64 r.2.2.2.2.2.2.2.1, Value.int IntKind.i64 r.2.2.2.2.2.2.2.2] : List Value)[j]? = some u → w28.cell? ((⟨w21.heap.size, 0, none⟩ : Addr).add j) = some u := fun j u hj => by rw [Addr.add_mid, Nat.zero_add]; exact hNo.at j hj
            refine wp_append_own _ (Operand.tmp 78) (Operand.tmp 81) 58 ?n91 WI.heap.size 35 i1 _ 7 56 Tryz.underlying58 hj hy0 hy1 hy2 ?n92 ?n93 (.slice a5 m.length c5) m.length (m.flatMap opC) ?n94 hown ⟨w21.heap.size, 0, none⟩ 1 1 [Value.int IntKind.i64 r.2.2.2.2.1, Value.int IntKind.i64 r.2.2.2.2.2.1, Value.int IntKind.i64 r.2.2.2.2.2.2.1.1, Value.int IntKind.i64 r.2.2.2.2.2.2.1.2.1, Value.int IntKind.i64 r.2.2.2.2.2.2.1.2.2, Value.int IntKind.i64 r.2.2.2.2.2.2.2.1, Value.int IntKind.i64 r.2.2.2.2.2.2.2.2] ?n95 ?n96 ?n97 ?n98 ?n99 ?n9a ?n9b ?_
            case n91 => rfl
            case n92 => rfl
            case n93 => decide
            case n94 => rfl
            case n95 => rfl
            case n96 => rfl
            case n97 => exact hnews
            case n98 => exact opC_one r.2.2.2.2
            case n99 => unfold maxLen; omega
            case n9a => omega
            case n9b => exact hszc
            intro v7 w29 hown' hgrow _
            have hO7 : OwnE opC 7 35 w29 WI.heap.size v7 Mn := by
              show World.ownsRow _ _ _ _ _ _ _
              rw [HMB.out.1, HMB.out.2]
              exact hown'
            replace hHeld : Below WI.heap.size WI w29 := hHeld.grown hgrow hszc (fun g hg => (hown.lt g hg).1)
            replace hN := hN.grown hgrow (fun e => HNE.out _ e.symm rfl)
            obtain ⟨a7, c7, rfl, hP7, _⟩ := hO7.val
            clear hown hown' hnews hszc hgrow hO7 hO5 hNo HNE
            refine hKK.out _ _ (hHeld) (fun hHeld => ?_)
            clear hKK KK
            refine wpAnyH_ready (rs := [7]) (by kernel_rfl) (by simp) ?_
            refine AllReadyH.cons rfl (fun KK hKK => ?_) AllReadyH.nil
            go_simp
            refine (CALLF.out _ a7 c7 hP7).mono ?_
            rintro e w30 ⟨vs, rfl, hQ, hb7⟩
            have hlen := hQ.len
            have hQge : ∀ b, Old 0 w29.heap.size b → WI.heap.size ≤ b := fun b hb => Nat.le_trans hHeld.size (old_ge hb)
            have hQne : ∀ b, Old 0 w29.heap.size b → b ≠ w22.heap.size := fun b hb => by have := old_ge hb; have := hN.lt; omega
            replace hN := hN.keep hb7
            replace hHeld : Below WI.heap.size WI w30 := hHeld.trans (hb7.mono hHeld.size)
            clear hb7 hP7
            go_wp2_with fail
            refine hKK.out _ _ (hHeld) (fun hHeld => ?_)
            clear hKK KK
            refine take_yes 8 75 (v := ?_) rfl rfl (by kernel_rfl) (by kernel_rfl) (by kernel_rfl) (fun _ _ _ h => h) (by rfl) ?_ hHeld ?_
            rotate_left 1
            · (intro w hSw; go_simp; try with_reducible rfl)
            simp only [Act.put, List.setIfInBounds_toArray, List.set_cons_succ, List.set_cons_zero]
            refine take_yes 9 84 (v := ?_) rfl rfl (by kernel_rfl) (by kernel_rfl) (by kernel_rfl) (fun _ _ _ h => h) (by rfl) ?_ hHeld ?_
            rotate_left 1
            · (intro w hSw; go_simp; try with_reducible rfl)
            simp only [Act.put, List.setIfInBounds_toArray, List.set_cons_succ, List.set_cons_zero]
            refine take_yes 10 85 (v := ?_) rfl rfl (by kernel_rfl) (by kernel_rfl) (by kernel_rfl) (fun _ _ _ h => h) (by rfl) ?_ hHeld ?_
            rotate_left 1
            · (intro w hSw; go_simp; try with_reducible rfl)
            simp only [Act.put, List.setIfInBounds_toArray, List.set_cons_succ, List.set_cons_zero]
            have HR : Hid (HiX (WI.heap.size ≤ ·) FL FT (w30.setCells w22.heap.size 0 vs) vs) := (hQ.sets w22.heap.size hQne vs 0).imp hQge
            have HBk : Hid (Blk (w30.setCells w22.heap.size 0 vs) w22.heap.size vs) := hN.sets vs (by rw [hlen]; rfl)
            refine step_store 12 27 w22.heap.size vs (by kernel_rfl) rfl rfl (by rfl) (by rfl) (by rfl) (by rfl) (by rw [hlen]; exact hN.there) (by rw [hlen]; exact sizeHist) hQ.one (below_sets hHeld w22.heap.size hNge vs 0) ?_
            have hHeld := below_sets hHeld w22.heap.size hNge vs 0
            refine take_yes 13 12 (v := ?_) rfl rfl (by kernel_rfl) (by kernel_rfl) (by kernel_rfl) (fun _ _ _ h => h) (by rfl) ?_ hHeld ?_
            rotate_left 1
            · (intro w hSw; go_simp; try with_reducible rfl)
            simp only [Act.put, List.setIfInBounds_toArray, List.set_cons_succ, List.set_cons_zero]
            refine wpAnyH_done (by kernel_rfl) ?_ _
            have HHeld := Lib.hid hHeld
            have HNG := Lib.hid hNge
            clear hHeld hQ hN hNge hQne hQge
            go_wp2
            go_meet
            case rel => exact ⟨_, vs, rfl, rfl, HBk.out, HR.out, HNG.out, HHeld.out⟩
        · skip
          go_simp
          have hN := Blk.new w21 [Value.slice none 0 0, .slice none 0 0] 27
          have hNge : WI.heap.size ≤ w21.heap.size := hHeld.size
          have HNE : Hid (∀ g, (Value.slice a5 m.length c5).ownBlock = some g → w21.heap.size ≠ g) := fun g hg => by have := (hO5.lt g hg).2; omega
          replace hO5 := hO5.keep (Go.Joins.below_alloc1 w21 (Obj.cells [Value.slice none 0 0, .slice none 0 0].toArray 27))
          replace hHeld := hHeld.alloc hHeld.size (Obj.cells [Value.slice none 0 0, .slice none 0 0].toArray 27)
          refine hKK.out _ _ (hHeld) (fun hHeld => ?_)
          clear hKK KK
          generalize w21.alloc (Obj.cells [Value.slice none 0 0, .slice none 0 0].toArray 27) = w31 at *
          refine wpAnyH_ready (rs := [5]) (by kernel_rfl) (by simp) ?_
          refine AllReadyH.cons rfl (fun KK hKK => ?_) AllReadyH.nil
          go_simp
          have hNo := Blk.new w31 [Value.int IntKind.i64 r.2.2.2.2.1, Value.int IntKind.i64 r.2.2.2.2.2.1, Value.int IntKind.i64 r.2.2.2.2.2.2.1.1, Value.int IntKind.i64 r.2.2.2.2.2.2.1.2.1, Value.int IntKind.i64 r.2.2.2.2.2.2.1.2.2, Value.int IntKind.i64 r.2.2.2.2.2.2.2.1, Value.int IntKind.i64 r.2.2.2.2.2.2.2.2] 35
          replace hO5 := hO5.keep (Go.Joins.below_alloc1 w31 (Obj.cells [Value.int IntKind.i64 r.2.2.2.2.1, Value.int IntKind.i64 r.2.2.2.2.2.1, Value.int IntKind.i64 r.2.2.2.2.2.2.1.1, Value.int IntKind.i64 r.2.2.2.2.2.2.1.2.1, Value.int IntKind.i64 r.2.2.2.2.2.2.1.2.2, Value.int IntKind.i64 r.2.2.2.2.2.2.2.1, Value.int IntKind.i64 r.2.2.2.2.2.2.2.2].toArray 35))
          replace hN := hN.keep (Go.Joins.below_alloc1 w31 (Obj.cells [Value.int IntKind.i64 r.2.2.2.2.1, Value.int IntKind.i64 r.2.2.2.2.2.1, Value.int IntKind.i64 r.2.2.2.2.2.2.1.1, Value.int IntKind.i64 r.2.2.2.2.2.2.1.2.1, Value.int IntKind.i64 r.2.2.2.2.2.2.1.2.2, Value.int IntKind.i64 r.2.2.2.2.2.2.2.1, Value.int IntKind.i64 r.2.2.2.2.2.2.2.2].toArray 35))
          replace hHeld := hHeld.alloc hHeld.size (Obj.cells [Value.int IntKind.i64 r.2.2.2.2.1, Value.int IntKind.i64 r.2.2.2.2.2.1, Value.int IntKind.i64 r.2.2.2.2.2.2.1.1, Value.int IntKind.i64 r.2.2.2.2.2.2.1.2.1, Value.int IntKind.i64 r.2.2.2.2.2.2.1.2.2, Value.int IntKind.i64 r.2.2.2.2.2.2.2.1, Value.int IntKind.i64 r.2.2.2.2.2.2.2.2].toArray 35)
          refine hKK.out _ _ (hHeld) (fun hHeld => ?_)
          clear hKK KK
          generalize w31.alloc (Obj.cells [Value.int IntKind.i64 r.2.2.2.2.1, Value.int IntKind.i64 r.2.2.2.2.2.1, Value.int IntKind.i64 r.2.2.2.2.2.2.1.1, Value.int IntKind.i64 r.2.2.2.2.2.2.1.2.1, Value.int IntKind.i64 r.2.2.2.2.2.2.1.2.2, Value.int IntKind.i64 r.2.2.2.2.2.2.2.1, Value.int IntKind.i64 r.2.2.2.2.2.2.2.2].toArray 35) = w32 at *
          refine wpAnyH_ready (rs := [6]) (by kernel_rfl) (by simp) ?_
          refine AllReadyH.cons rfl (fun KK hKK => ?_) AllReadyH.nil
          rw [if_pos ?q12]
          case q12 => kernel_rfl
          have hown := (show OwnE opC 7 35 w32 WI.heap.size (.slice a5 m.length c5) m from hO5).row
          have hszc := hHeld.size
          have hnews : ∀ j u, ([Value.int IntKind.i64 r.2.2.2.2.1, Value.int IntKind.i64 r.2.2.2.2.2.1, Value.int IntKind.i64 r.2.2.2.2.2.2.1.1, Value.int IntKind.i64 r.2.2.2.2.2.2.1.2.1, Value.int IntKind.i64 r.2.2.2.2.2.2.1.2.2, Value.int IntKind.i64 r.2.2.2.2.2.2.2.1, Value.int IntKind.i64 r.2.2.2.2.2.2.2.2] : List Value)[j]? = some u → w32.cell? ((⟨w31.heap.size, 0, none⟩ : Addr).add j) = some u := fun j u hj => by rw [Addr.add_mid, Nat.zero_add]; exact hNo.at j hj
          refine wp_append_own _ (Operand.tmp 78) (Operand.tmp 81) 58 ?n131 WI.heap.size 35 i1 _ 7 56 Tryz.underlying58 hj hy0 hy1 hy2 ?n132 ?n133 (.slice a5 m.length c5) m.length (m.flatMap opC) ?n134 hown ⟨w31.heap.size, 0, none⟩ 1 1 [Value.int IntKind.i64 r.2.2.2.2.1, Value.int IntKind.i64 r.2.2.2.2.2.1, Value.int IntKind.i64 r.2.2.2.2.2.2.1.1, Value.int IntKind.i64 r.2.2.2.2.2.2.1.2.1, Value.int IntKind.i64 r.2.2.2.2.2.2.1.2.2, Value.int IntKind.i64 r.2.2.2.2.2.2.2.1, Value.int IntKind.i64 r.2.2.2.2.2.2.2.2] ?n135 ?n136 ?n137 ?n138 ?n139 ?n13a ?n13b ?_
          case n131 => rfl
          case n132 => rfl
          case n133 => decide
          case n134 => rfl
          case n135 => rfl
          case n136 => rfl
          case n137 => exact hnews
          case n138 => exact opC_one r.2.2.2.2
          case n139 => unfold maxLen; omega
          case n13a => omega
          case n13b => exact hszc
          intro v7 w33 hown' hgrow _
          have hO7 : OwnE opC 7 35 w33 WI.heap.size v7 Mn := by
            show World.ownsRow _ _ _ _ _ _ _
            rw [HMB.out.1, HMB.out.2]
            exact hown'
          replace hHeld : Below WI.heap.size WI w33 := hHeld.grown hgrow hszc (fun g hg => (hown.lt g hg).1)
          replace hN := hN.grown hgrow (fun e => HNE.out _ e.symm rfl)
          obtain ⟨a7, c7, rfl, hP7, _⟩ := hO7.val
          clear hown hown' hnews hszc hgrow hO7 hO5 hNo HNE
          refine hKK.out _ _ (hHeld) (fun hHeld => ?_)
          clear hKK KK
          refine wpAnyH_ready (rs := [7]) (by kernel_rfl) (by simp) ?_
          refine AllReadyH.cons rfl (fun KK hKK => ?_) AllReadyH.nil
          go_simp
          refine (CALLF.out _ a7 c7 hP7).mono ?_
          rintro e w34 ⟨vs, rfl, hQ, hb7⟩
          have hlen := hQ.len
          have hQge : ∀ b, Old 0 w33.heap.size b → WI.heap.size ≤ b := fun b hb => Nat.le_trans hHeld.size (old_ge hb)
          have hQne : ∀ b, Old 0 w33.heap.size b → b ≠ w21.heap.size := fun b hb => by have := old_ge hb; have := hN.lt; omega
          replace hN := hN.keep hb7
          replace hHeld : Below WI.heap.size WI w34 := hHeld.trans (hb7.mono hHeld.size)
          clear hb7 hP7
          go_wp2_with fail
          refine hKK.out _ _ (hHeld) (fun hHeld => ?_)
          clear hKK KK
          refine take_yes 8 75 (v := ?_) rfl rfl (by kernel_rfl) (by kernel_rfl) (by kernel_rfl) (fun _ _ _ h => h) (by rfl) ?_ hHeld ?_
          rotate_left 1
          · (intro w hSw; go_simp; try with_reducible rfl)
          simp only [Act.put, List.setIfInBounds_toArray, List.set_cons_succ, List.set_cons_zero]
          refine take_yes 9 84 (v := ?_) rfl rfl (by kernel_rfl) (by kernel_rfl) (by kernel_rfl) (fun _ _ _ h => h) (by rfl) ?_ hHeld ?_
          rotate_left 1
          · (intro w hSw; go_simp; try with_reducible rfl)
          simp only [Act.put, List.setIfInBounds_toArray, List.set_cons_succ, List.set_cons_zero]
          refine take_yes 10 85 (v := ?_) rfl rfl (by kernel_rfl) (by kernel_rfl) (by kernel_rfl) (fun _ _ _ h => h) (by rfl) ?_ hHeld ?_
          rotate_left 1
          · (intro w hSw; go_simp; try with_reducible rfl)
          simp only [Act.put, List.setIfInBounds_toArray, List.set_cons_succ, List.set_cons_zero]
          have HR : Hid (HiX (WI.heap.size ≤ ·) FL FT (w34.setCells w21.heap.size 0 vs) vs) := (hQ.sets w21.heap.size hQne vs 0).imp hQge
          have HBk : Hid (Blk (w34.setCells w21.heap.size 0 vs) w21.heap.size vs) := hN.sets vs (by rw [hlen]; rfl)
          refine step_store 12 27 w21.heap.size vs (by kernel_rfl) rfl rfl (by rfl) (by rfl) (by rfl) (by rfl) (by rw [hlen]; exact hN.there) (by rw [hlen]; exact sizeHist) hQ.one (below_sets hHeld w21.heap.size hNge vs 0) ?_
          have hHeld := below_sets hHeld w21.heap.size hNge vs 0
          refine take_yes 13 12 (v := ?_) rfl rfl (by kernel_rfl) (by kernel_rfl) (by kernel_rfl) (fun _ _ _ h => h) (by rfl) ?_ hHeld ?_
          rotate_left 1
          · (intro w hSw; go_simp; try with_reducible rfl)
          simp only [Act.put, List.setIfInBounds_toArray, List.set_cons_succ, List.set_cons_zero]
          refine wpAnyH_done (by kernel_rfl) ?_ _
          have HHeld := Lib.hid hHeld
          have HNG := Lib.hid hNge
          clear hHeld hQ hN hNge hQne hQge
          go_wp2
          go_meet
          case rel => exact ⟨_, vs, rfl, rfl, HBk.out, HR.out, HNG.out, HHeld.out⟩
      · skip
        go_simp
        have hNo := Blk.new WD [Value.int IntKind.i64 r.2.2.2.2.1, Value.int IntKind.i64 r.2.2.2.2.2.1, Value.int IntKind.i64 r.2.2.2.2.2.2.1.1, Value.int IntKind.i64 r.2.2.2.2.2.2.1.2.1, Value.int IntKind.i64 r.2.2.2.2.2.2.1.2.2, Value.int IntKind.i64 r.2.2.2.2.2.2.2.1, Value.int IntKind.i64 r.2.2.2.2.2.2.2.2] 35
        replace hHeld := hHeld.alloc hHeld.size (Obj.cells [Value.int IntKind.i64 r.2.2.2.2.1, Value.int IntKind.i64 r.2.2.2.2.2.1, Value.int IntKind.i64 r.2.2.2.2.2.2.1.1, Value.int IntKind.i64 r.2.2.2.2.2.2.1.2.1, Value.int IntKind.i64 r.2.2.2.2.2.2.1.2.2, Value.int IntKind.i64 r.2.2.2.2.2.2.2.1, Value.int IntKind.i64 r.2.2.2.2.2.2.2.2].toArray 35)
        refine hKK.out _ _ (hHeld) (fun hHeld => ?_)
        clear hKK KK
        generalize WD.alloc (Obj.cells [Value.int IntKind.i64 r.2.2.2.2.1, Value.int IntKind.i64 r.2.2.2.2.2.1, Value.int IntKind.i64 r.2.2.2.2.2.2.1.1, Value.int IntKind.i64 r.2.2.2.2.2.2.1.2.1, Value.int IntKind.i64 r.2.2.2.2.2.2.1.2.2, Value.int IntKind.i64 r.2.2.2.2.2.2.2.1, Value.int IntKind.i64 r.2.2.2.2.2.2.2.2].toArray 35) = w35 at *
        refine wpAnyH_ready (rs := [2, 11]) (by kernel_rfl) (by simp) ?_
        refine AllReadyH.cons rfl (fun KK hKK => ?_) (AllReadyH.cons rfl (fun KK hKK => ?_) AllReadyH.nil)
        · skip
          go_simp
          refine (CALLO.out _ hHeld).mono ?_
          rintro e w36 ⟨v5, rfl, hO5', hb5⟩
          have hO5 := hO5'.mono (base' := WI.heap.size) hHeld.size
          obtain ⟨a5, c5, rfl, _, _⟩ := hO5.val
          replace hNo := hNo.keep hb5
          replace hHeld : Below WI.heap.size WI w36 := hHeld.trans (hb5.mono hHeld.size)
          clear hO5' hb5
          go_wp2_with fail
          refine hKK.out _ _ (hHeld) (fun hHeld => ?_)
          clear hKK KK
          refine wpAnyH_ready (rs := [6, 11]) (by kernel_rfl) (by simp) ?_
          refine AllReadyH.cons rfl (fun KK hKK => ?_) (AllReadyH.cons rfl (fun KK hKK => ?_) AllReadyH.nil)
          · skip
            rw [if_pos ?q16]
            case q16 => kernel_rfl
            have hown := (show OwnE opC 7 35 w36 WI.heap.size (.slice a5 m.length c5) m from hO5).row
            have hszc := hHeld.size
            have hnews : ∀ j u, ([Value.int IntKind.i64 r.2.2.2.2.1, Value.int IntKind.i64 r.2.2.2.2.2.1, Value.int IntKind.i64 r.2.2.2.2.2.2.1.1, Value.int IntKind.i64 r.2.2.2.2.2.2.1.2.1, Value.int IntKind.i64 r.2.2.2.2.2.2.1.2.2, Value.int IntKind.i64 r.2.2.2.2.2.2.2.1, Value.int IntKind.i64 r.2.2.2.2.2.2.2.2] : List Value)[j]? = some u → w36.cell? ((⟨WD.heap.size, 0, none⟩ : Addr).add j) = some u := fun j u hj => by rw [Addr.add_mid, Nat.zero_add]; exact hNo.at j hj
            refine wp_append_own _ (Operand.tmp 78) (Operand.tmp 81) 58 ?n171 WI.heap.size 35 i1 _ 7 56 Tryz.underlying58 hj hy0 hy1 hy2 ?n172 ?n173 (.slice a5 m.length c5) m.length (m.flatMap opC) ?n174 hown ⟨WD.heap.size, 0, none⟩ 1 1 [Value.int IntKind.i64 r.2.2.2.2.1, Value.int IntKind.i64 r.2.2.2.2.2.1, Value.int IntKind.i64 r.2.2.2.2.2.2.1.1, Value.int IntKind.i64 r.2.2.2.2.2.2.1.2.1, Value.int IntKind.i64 r.2.2.2.2.2.2.1.2.2, Value.int IntKind.i64 r.2.2.2.2.2.2.2.1, Value.int IntKind.i64 r.2.2.2.2.2.2.2.2] ?n175 ?n176 ?n177 ?n178 ?n179 ?n17a ?n17b ?_
            case n171 => rfl
            case n172 => rfl
            case n173 => decide
            case n174 => rfl
            case n175 => rfl
            case n176 => rfl
            case n177 => exact hnews
            case n178 => exact opC_one r.2.2.2.2
            case n179 => unfold maxLen; omega
            case n17a => omega
            case n17b => exact hszc
            intro v7 w37 hown' hgrow _
            have hO7 : OwnE opC 7 35 w37 WI.heap.size v7 Mn := by
              show World.ownsRow _ _ _ _ _ _ _
              rw [HMB.out.1, HMB.out.2]
              exact hown'
            replace hHeld : Below WI.heap.size WI w37 := hHeld.grown hgrow hszc (fun g hg => (hown.lt g hg).1)
            obtain ⟨a7, c7, rfl, hP7, _⟩ := hO7.val
            clear hown hown' hnews hszc hgrow hO7 hO5 hNo
            refine hKK.out _ _ (hHeld) (fun hHeld => ?_)
            clear hKK KK
            refine wpAnyH_ready (rs := [7, 11]) (by kernel_rfl) (by simp) ?_
            refine AllReadyH.cons rfl (fun KK hKK => ?_) (AllReadyH.cons rfl (fun KK hKK => ?_) AllReadyH.nil)
            · skip
              go_simp
              refine (CALLF.out _ a7 c7 hP7).mono ?_
              rintro e w38 ⟨vs, rfl, hQ, hb7⟩
              have hlen := hQ.len
              have hQge : ∀ b, Old 0 w37.heap.size b → WI.heap.size ≤ b := fun b hb => Nat.le_trans hHeld.size (old_ge hb)
              replace hHeld : Below WI.heap.size WI w38 := hHeld.trans (hb7.mono hHeld.size)
              clear hb7 hP7
              go_wp2_with fail
              refine hKK.out _ _ (hHeld) (fun hHeld => ?_)
              clear hKK KK
              refine take_yes 8 75 (v := ?_) rfl rfl (by kernel_rfl) (by kernel_rfl) (by kernel_rfl) (fun _ _ _ h => h) (by rfl) ?_ hHeld ?_
              rotate_left 1
              · (intro w hSw; go_simp; try with_reducible rfl)
              simp only [Act.put, List.setIfInBounds_toArray, List.set_cons_succ, List.set_cons_zero]
              refine take_yes 9 84 (v := ?_) rfl rfl (by kernel_rfl) (by kernel_rfl) (by kernel_rfl) (fun _ _ _ h => h) (by rfl) ?_ hHeld ?_
              rotate_left 1
              · (intro w hSw; go_simp; try with_reducible rfl)
              simp only [Act.put, List.setIfInBounds_toArray, List.set_cons_succ, List.set_cons_zero]
              refine take_yes 10 85 (v := ?_) rfl rfl (by kernel_rfl) (by kernel_rfl) (by kernel_rfl) (fun _ _ _ h => h) (by rfl) ?_ hHeld ?_
              rotate_left 1
              · (intro w hSw; go_simp; try with_reducible rfl)
              simp only [Act.put, List.setIfInBounds_toArray, List.set_cons_succ, List.set_cons_zero]
              refine wpAnyH_ready (rs := [11]) (by kernel_rfl) (by simp) ?_
              refine AllReadyH.cons rfl (fun KK hKK => ?_) AllReadyH.nil
              go_simp
              have hN := Blk.new w38 [Value.slice none 0 0, .slice none 0 0] 27
              have hNge : WI.heap.size ≤ w38.heap.size := hHeld.size
              have hQne : ∀ b, (Old 0 w37.heap.size b ∧ b < w38.heap.size) → b ≠ w38.heap.size := fun b hb => by have := hb.2; omega
              replace hQ := hQ.lowD.keep (Go.Joins.below_alloc1 w38 (Obj.cells [Value.slice none 0 0, .slice none 0 0].toArray 27))
              replace hQge : ∀ b, (Old 0 w37.heap.size b ∧ b < w38.heap.size) → WI.heap.size ≤ b := fun b hb => hQge b hb.1
              replace hHeld := hHeld.alloc hHeld.size (Obj.cells [Value.slice none 0 0, .slice none 0 0].toArray 27)
              refine hKK.out _ _ (hHeld) (fun hHeld => ?_)
              clear hKK KK
              generalize w38.alloc (Obj.cells [Value.slice none 0 0, .slice none 0 0].toArray 27) = w39 at *
              have HR : Hid (HiX (WI.heap.size ≤ ·) FL FT (w39.setCells w38.heap.size 0 vs) vs) := (hQ.sets w38.heap.size hQne vs 0).imp hQge
              have HBk : Hid (Blk (w39.setCells w38.heap.size 0 vs) w38.heap.size vs) := hN.sets vs (by rw [hlen]; rfl)
              refine step_store 12 27 w38.heap.size vs (by kernel_rfl) rfl rfl (by rfl) (by rfl) (by rfl) (by rfl) (by rw [hlen]; exact hN.there) (by rw [hlen]; exact sizeHist) hQ.one (below_sets hHeld w38.heap.size hNge vs 0) ?_
              have hHeld := below_sets hHeld w38.heap.size hNge vs 0
              refine take_yes 13 12 (v := ?_) rfl rfl (by kernel_rfl) (by kernel_rfl) (by kernel_rfl) (fun _ _ _ h => h) (by rfl) ?_ hHeld ?_
              rotate_left 1
              · (intro w hSw; go_simp; try with_reducible rfl)
              simp only [Act.put, List.setIfInBounds_toArray, List.set_cons_succ, List.set_cons_zero]
              refine wpAnyH_done (by kernel_rfl) ?_ _
              have HHeld := Lib.hid hHeld
              have HNG := Lib.hid hNge
              clear hHeld hQ hN hNge hQne hQge
              go_wp2
              go_meet
              case rel => exact ⟨_, vs, rfl, rfl, HBk.out, HR.out, HNG.out, HHeld.out⟩
            · skip
              go_simp
              have hN := Blk.new w37 [Value.slice none 0 0, .slice none 0 0] 27
              have hNge : WI.heap.size ≤ w37.heap.size := hHeld.size
              replace hP7 := hP7.below (Go.Joins.below_alloc1 w37 (Obj.cells [Value.slice none 0 0, .slice none 0 0].toArray 27))
              replace hHeld := hHeld.alloc hHeld.size (Obj.cells [Value.slice none 0 0, .slice none 0 0].toArray 27)
              refine hKK.out _ _ (hHeld) (fun hHeld => ?_)
              clear hKK KK
              generalize w37.alloc (Obj.cells [Value.slice none 0 0, .slice none 0 0].toArray 27) = w40 at *
              refine wpAnyH_ready (rs := [7]) (by kernel_rfl) (by simp) ?_
              refine AllReadyH.cons rfl (fun KK hKK => ?_) AllReadyH.nil
              go_simp
              refine (CALLF.out _ a7 c7 hP7).mono ?_
              rintro e w41 ⟨vs, rfl, hQ, hb7⟩
              have hlen := hQ.len
              have hQge : ∀ b, Old 0 w40.heap.size b → WI.heap.size ≤ b := fun b hb => Nat.le_trans hHeld.size (old_ge hb)
              have hQne : ∀ b, Old 0 w40.heap.size b → b ≠ w37.heap.size := fun b hb => by have := old_ge hb; have := hN.lt; omega
              replace hN := hN.keep hb7
              replace hHeld : Below WI.heap.size WI w41 := hHeld.trans (hb7.mono hHeld.size)
              clear hb7 hP7
              go_wp2_with fail
              refine hKK.out _ _ (hHeld) (fun hHeld => ?_)
              clear hKK KK
              refine take_yes 8 75 (v := ?_) rfl rfl (by kernel_rfl) (by kernel_rfl) (by kernel_rfl) (fun _ _ _ h => h) (by rfl) ?_ hHeld ?_
              rotate_left 1
              · (intro w hSw; go_simp; try with_reducible rfl)
              simp only [Act.put, List.setIfInBounds_toArray, List.set_cons_succ, List.set_cons_zero]
              refine take_yes 9 84 (v := ?_) rfl rfl (by kernel_rfl) (by kernel_rfl) (by kernel_rfl) (fun _ _ _ h => h) (by rfl) ?_ hHeld ?_
              rotate_left 1
              · (intro w hSw; go_simp; try with_reducible rfl)
              simp only [Act.put, List.setIfInBounds_toArray, List.set_cons_succ, List.set_cons_zero]
              refine take_yes 10 85 (v := ?_) rfl rfl (by kernel_rfl) (by kernel_rfl) (by kernel_rfl) (fun _ _ _ h => h) (by rfl) ?_ hHeld ?_
              rotate_left 1
              · (intro w hSw; go_simp; try with_reducible rfl)
              simp only [Act.put, List.setIfInBounds_toArray, List.set_cons_succ, List.set_cons_zero]
              have HR : Hid (HiX (WI.heap.size ≤ ·) FL FT (w41.setCells w37.heap.size 0 vs) vs) := (hQ.sets w37.heap.size hQne vs 0).imp hQge
              have HBk : Hid (Blk (w41.setCells w37.heap.size 0 vs) w37.heap.size vs) := hN.sets vs (by rw [hlen]; rfl)
              refine step_store 12 27 w37.heap.size vs (by kernel_rfl) rfl rfl (by rfl) (by rfl) (by rfl) (by rfl) (by rw [hlen]; exact hN.there) (by rw [hlen]; exact sizeHist) hQ.one (below_sets hHeld w37.heap.size hNge vs 0) ?_
              have hHeld := below_sets hHeld w37.heap.size hNge vs 0
              refine take_yes 13 12 (v := ?_) rfl rfl (by kernel_rfl) (by kernel_rfl) (by kernel_rfl) (fun _ _ _ h => h) (by rfl) ?_ hHeld ?_
              rotate_left 1
              · (intro w hSw; go_simp; try with_reducible rfl)
              simp only [Act.put, List.setIfInBounds_toArray, List.set_cons_succ, List.set_cons_zero]
              refine wpAnyH_done (by kernel_rfl) ?_ _
              have HHeld := Lib.hid hHeld
              have HNG := Lib.hid hNge
              clear hHeld hQ hN hNge hQne hQge
              go_wp2
              go_meet
              case rel => exact ⟨_, vs, rfl, rfl, HBk.out, HR.out, HNG.out, HHeld.out⟩
          · skip
            go_simp
            have hN := Blk.new w36 [Value.slice none 0 0, .slice none 0 0] 27
            have hNge : WI.heap.size ≤ w36.heap.size := hHeld.size
            have HNE : Hid (∀ g, (Value.slice a5 m.length c5).ownBlock = some g → w36.heap.size ≠ g) := fun g hg => by have := (hO5.lt g hg).2; omega
            replace hO5 := hO5.keep (Go.Joins.below_alloc1 w36 (Obj.cells [Value.slice none 0 0, .slice none 0 0].toArray 27))
            replace hNo := hNo.keep (Go.Joins.below_alloc1 w36 (Obj.cells [Value.slice none 0 0, .slice none 0 0].toArray 27))
            replace hHeld := hHeld.alloc hHeld.size (Obj.cells [Value.slice none 0 0, .slice none 0 0].toArray 27)
            refine hKK.out _ _ (hHeld) (fun hHeld => ?_)
            clear hKK KK
            generalize w36.alloc (Obj.cells [Value.slice none 0 0, .slice none 0 0].toArray 27) = w42 at *
            refine wpAnyH_ready (rs := [6]) (by kernel_rfl) (by simp) ?_
            refine AllReadyH.cons rfl (fun KK hKK => ?_) AllReadyH.nil
            rw [if_pos ?q22]
            case q22 => kernel_rfl
            have hown := (show OwnE opC 7 35 w42 WI.heap.size (.slice a5 m.length c5) m from hO5).row
            have hszc := hHeld.size
            have hnews : ∀ j u, ([Value.int IntKind.i64 r.2.2.2.2.1, Value.int IntKind.i64 r.2.2.2.2.2.1, Value.int IntKind.i64 r.2.2.2.2.2.2.1.1, Value.int IntKind.i64 r.2.2.2.2.2.2.1.2.1, Value.int IntKind.i64 r.2.2.2.2.2.2.1.2.2, Value.int IntKind.i64 r.2.2.2.2.2.2.2.1, Value.int IntKind.i64 r.2.2.2.2.2.2.2.2] : List Value)[j]? = some u → w42.cell? ((⟨WD.heap.size, 0, none⟩ : Addr).add j) = some u := fun j u hj => by rw [Addr.add_mid, Nat.zero_add]; exact hNo.at j hj
            refine wp_append_own _ (Operand.tmp 78) (Operand.tmp 81) 58 ?n231 WI.heap.size 35 i1 _ 7 56 Tryz.underlying58 hj hy0 hy1 hy2 ?n232 ?n233 (.slice a5 m.length c5) m.length (m.flatMap opC) ?n234 hown ⟨WD.heap.size, 0, none⟩ 1 1 [Value.int IntKind.i64 r.2.2.2.2.1, Value.int IntKind.i64 r.2.2.2.2.2.1, Value.int IntKind.i64 r.2.2.2.2.2.2.1.1, Value.int IntKind.i64 r.2.2.2.2.2.2.1.2.1, Value.int IntKind.i64 r.2.2.2.2.2.2.1.2.2, Value.int IntKind.i64 r.2.2.2.2.2.2.2.1, Value.int IntKind.i64 r.2.2.2.2.2.2.2.2] ?n235 ?n236 ?n237 ?n238 ?n239 ?n23a ?n23b ?_
            case n231 => rfl
            case n232 => rfl
            case n233 => decide
            case n234 => rfl
            case n235 => rfl
            case n236 => rfl
            case n237 => exact hnews
            case n238 => exact opC_one r.2.2.2.2
            case n239 => unfold maxLen; omega
            case n23a => omega
            case n23b => exact hszc
            intro v7 w43 hown' hgrow _
            have hO7 : OwnE opC 7 35 w43 WI.heap.size v7 Mn := by
              show World.ownsRow _ _ _ _ _ _ _
              rw [HMB.out.1, HMB.out.2]
              exact hown'
            replace hHeld : Below WI.heap.size WI w43 := hHeld.grown hgrow hszc (fun g hg => (hown.lt g hg).1)
            replace hN := hN.grown hgrow (fun e => HNE.out _ e.symm rfl)
            obtain ⟨a7, c7, rfl, hP7, _⟩ := hO7.val
            clear hown hown' hnews hszc hgrow hO7 hO5 hNo HNE
            refine hKK.out _ _ (hHeld) (fun hHeld => ?_)
            clear hKK KK
            refine wpAnyH_ready (rs := [7]) (by kernel_rfl) (by simp) ?_
            refine AllReadyH.cons rfl (fun KK hKK => ?_) AllReadyH.nil
            go_simp
            refine (CALLF.out _ a7 c7 hP7).mono ?_
            rintro e w44 ⟨vs, rfl, hQ, hb7⟩
            have hlen := hQ.len
            have hQge : ∀ b, Old 0 w43.heap.size b → WI.heap.size ≤ b := fun b hb => Nat.le_trans hHeld.size (old_ge hb)
            have hQne : ∀ b, Old 0 w43.heap.size b → b ≠ w36.heap.size := fun b hb => by have := old_ge hb; have := hN.lt; omega
            replace hN := hN.keep hb7
            replace hHeld : Below WI.heap.size WI w44 := hHeld.trans (hb7.mono hHeld.size)
            clear hb7 hP7
            go_wp2_with fail
            refine hKK.out _ _ (hHeld) (fun hHeld => ?_)
            clear hKK KK
            refine take_yes 8 75 (v := ?_) rfl rfl (by kernel_rfl) (by kernel_rfl) (by kernel_rfl) (fun _ _ _ h => h) (by rfl) ?_ hHeld ?_
            rotate_left 1
            · (intro w hSw; go_simp; try with_reducible rfl)
            simp only [Act.put, List.setIfInBounds_toArray, List.set_cons_succ, List.set_cons_zero]
            refine take_yes 9 84 (v := ?_) rfl rfl (by kernel_rfl) (by kernel_rfl) (by kernel_rfl) (fun _ _ _ h => h) (by rfl) ?_ hHeld ?_
            rotate_left 1
            · (intro w hSw; go_simp; try with_reducible rfl)
            simp only [Act.put, List.setIfInBounds_toArray, List.set_cons_succ, List.set_cons_zero]
            refine take_yes 10 85 (v := ?_) rfl rfl (by kernel_rfl) (by kernel_rfl) (by kernel_rfl) (fun _ _ _ h => h) (by rfl) ?_ hHeld ?_
            rotate_left 1
            · (intro w hSw; go_simp; try with_reducible rfl)
            simp only [Act.put, List.setIfInBounds_toArray, List.set_cons_succ, List.set_cons_zero]
            have HR : Hid (HiX (WI.heap.size ≤ ·) FL FT (w44.setCells w36.heap.size 0 vs) vs) := (hQ.sets w36.heap.size hQne vs 0).imp hQge
            have HBk : Hid (Blk (w44.setCells w36.heap.size 0 vs) w36.heap.size vs) := hN.sets vs (by rw [hlen]; rfl)
            refine step_store 12 27 w36.heap.size vs (by kernel_rfl) rfl rfl (by rfl) (by rfl) (by rfl) (by rfl) (by rw [hlen]; exact hN.there) (by rw [hlen]; exact sizeHist) hQ.one (below_sets hHeld w36.heap.size hNge vs 0) ?_
            have hHeld := below_sets hHeld w36.heap.size hNge vs 0
            refine take_yes 13 12 (v := ?_) rfl rfl (by kernel_rfl) (by kernel_rfl) (by kernel_rfl) (fun _ _ _ h => h) (by rfl) ?_ hHeld ?_
            rotate_left 1
            · (intro w hSw; go_simp; try with_reducible rfl)
            simp only [Act.put, List.setIfInBounds_toArray, List.set_cons_succ, List.set_cons_zero]
            refine wpAnyH_done (by kernel_rfl) ?_ _
            have HHeld := Lib.hid hHeld
            have HNG := Lib.hid hNge
            clear hHeld hQ hN hNge hQne hQge
            go_wp2
            go_meet
            case rel => exact ⟨_, vs, rfl, rfl, HBk.out, HR.out, HNG.out, HHeld.out⟩
        · skip
          go_simp
          have hN := Blk.new w35 [Value.slice none 0 0, .slice none 0 0] 27
          have hNge : WI.heap.size ≤ w35.heap.size := hHeld.size
          replace hNo := hNo.keep (Go.Joins.below_alloc1 w35 (Obj.cells [Value.slice none 0 0, .slice none 0 0].toArray 27))
          replace hHeld := hHeld.alloc hHeld.size (Obj.cells [Value.slice none 0 0, .slice none 0 0].toArray 27)
          refine hKK.out _ _ (hHeld) (fun hHeld => ?_)
          clear hKK KK
          generalize w35.alloc (Obj.cells [Value.slice none 0 0, .slice none 0 0].toArray 27) = w45 at *
          refine wpAnyH_ready (rs := [2]) (by kernel_rfl) (by simp) ?_
          refine AllReadyH.cons rfl (fun KK hKK => ?_) AllReadyH.nil
          go_simp
          refine (CALLO.out _ hHeld).mono ?_
          rintro e w46 ⟨v5, rfl, hO5', hb5⟩
          have hO5 := hO5'.mono (base' := WI.heap.size) hHeld.size
          have HNE : Hid (∀ g, v5.ownBlock = some g → w35.heap.size ≠ g) := fun g hg => by have := (hO5'.lt g hg).1; have := hN.lt; omega
          obtain ⟨a5, c5, rfl, _, _⟩ := hO5.val
          replace hNo := hNo.keep hb5
          replace hN := hN.keep hb5
          replace hHeld : Below WI.heap.size WI w46 := hHeld.trans (hb5.mono hHeld.size)
          clear hO5' hb5
          go_wp2_with fail
          refine hKK.out _ _ (hHeld) (fun hHeld => ?_)
          clear hKK KK
          refine wpAnyH_ready (rs := [6]) (by kernel_rfl) (by simp) ?_
          refine AllReadyH.cons rfl (fun KK hKK => ?_) AllReadyH.nil
          rw [if_pos ?q26]
          case q26 => kernel_rfl
          have hown := (show OwnE opC 7 35 w46 WI.heap.size (.slice a5 m.length c5) m from hO5).row
          have hszc := hHeld.size
          have hnews : ∀ j u, ([Value.int IntKind.i64 r.2.2.2.2.1, Value.int IntKind.i64 r.2.2.2.2.2.1, Value.int IntKind.i64 r.2.2.2.2.2.2.1.1, Value.int IntKind.i64 r.2.2.2.2.2.2.1.2.1, Value.int IntKind.i64 r.2.2.2.2.2.2.1.2.2, Value.int IntKind.i64 r.2.2.2.2.2.2.2.1, Value.int IntKind.i64 r.2.2.2.2.2.2.2.2] : List Value)[j]? = some u → w46.cell? ((⟨WD.heap.size, 0, none⟩ : Addr).add j) = some u := fun j u hj => by rw [Addr.add_mid, Nat.zero_add]; exact hNo.at j hj
          refine wp_append_own _ (Operand.tmp 78) (Operand.tmp 81) 58 ?n271 WI.heap.size 35 i1 _ 7 56 Tryz.underlying58 hj hy0 hy1 hy2 ?n272 ?n273 (.slice a5 m.length c5) m.length (m.flatMap opC) ?n274 hown ⟨WD.heap.size, 0, none⟩ 1 1 [Value.int IntKind.i64 r.2.2.2.2.1, Value.int IntKind.i64 r.2.2.2.2.2.1, Value.int IntKind.i64 r.2.2.2.2.2.2.1.1, Value.int IntKind.i64 r.2.2.2.2.2.2.1.2.1, Value.int IntKind.i64 r.2.2.2.2.2.2.1.2.2, Value.int IntKind.i64 r.2.2.2.2.2.2.2.1, Value.int IntKind.i64 r.2.2.2.2.2.2.2.2] ?n275 ?n276 ?n277 ?n278 ?n279 ?n27a ?n27b ?_
          case n271 => rfl
          case n272 => rfl
          case n273 => decide
          case n274 => rfl
          case n275 => rfl
          case n276 => rfl
          case n277 => exact hnews
          case n278 => exact opC_one r.2.2.2.2
          case n279 => unfold maxLen; omega
          case n27a => omega
          case n27b => exact hszc
          intro v7 w47 hown' hgrow _
          have hO7 : OwnE opC 7 35 w47 WI.heap.size v7 Mn := by
            show World.ownsRow _ _ _ _ _ _ _
            rw [HMB.out.1, HMB.out.2]
            exact hown'
          replace hHeld : Below WI.heap.size WI w47 := hHeld.grown hgrow hszc (fun g hg => (hown.lt g hg).1)
          replace hN := hN.grown hgrow (fun e => HNE.out _ e.symm rfl)
          obtain ⟨a7, c7, rfl, hP7, _⟩ := hO7.val
          clear hown hown' hnews hszc hgrow hO7 hO5 hNo HNE
          refine hKK.out _ _ (hHeld) (fun hHeld => ?_)
          clear hKK KK
          refine wpAnyH_ready (rs := [7]) (by kernel_rfl) (by simp) ?_
          refine AllReadyH.cons rfl (fun KK hKK => ?_) AllReadyH.nil
          go_simp
          refine (CALLF.out _ a7 c7 hP7).mono ?_
          rintro e w48 ⟨vs, rfl, hQ, hb7⟩
          have hlen := hQ.len
          have hQge : ∀ b, Old 0 w47.heap.size b → WI.heap.size ≤ b := fun b hb => Nat.le_trans hHeld.size (old_ge hb)
          have hQne : ∀ b, Old 0 w47.heap.size b → b ≠ w35.heap.size := fun b hb => by have := old_ge hb; have := hN.lt; omega
          replace hN := hN.keep hb7
          replace hHeld : Below WI.heap.size WI w48 := hHeld.trans (hb7.mono hHeld.size)
          clear hb7 hP7
          go_wp2_with fail
          refine hKK.out _ _ (hHeld) (fun hHeld => ?_)
          clear hKK KK
          refine take_yes 8 75 (v := ?_) rfl rfl (by kernel_rfl) (by kernel_rfl) (by kernel_rfl) (fun _ _ _ h => h) (by rfl) ?_ hHeld ?_
          rotate_left 1
          · (intro w hSw; go_simp; try with_reducible rfl)
          simp only [Act.put, List.setIfInBounds_toArray, List.set_cons_succ, List.set_cons_zero]
          refine take_yes 9 84 (v := ?_) rfl rfl (by kernel_rfl) (by kernel_rfl) (by kernel_rfl) (fun _ _ _ h => h) (by rfl) ?_ hHeld ?_
          rotate_left 1
          · (intro w hSw; go_simp; try with_reducible rfl)
          simp only [Act.put, List.setIfInBounds_toArray, List.set_cons_succ, List.set_cons_zero]
          refine take_yes 10 85 (v := ?_) rfl rfl (by kernel_rfl) (by kernel_rfl) (by kernel_rfl) (fun _ _ _ h => h) (by rfl) ?_ hHeld ?_
          rotate_left 1
          · (intro w hSw; go_simp; try with_reducible rfl)
          simp only [Act.put, List.setIfInBounds_toArray, List.set_cons_succ, List.set_cons_zero]
          have HR : Hid (HiX (WI.heap.size ≤ ·) FL FT (w48.setCells w35.heap.size 0 vs) vs) := (hQ.sets w35.heap.size hQne vs 0).imp hQge
          have HBk : Hid (Blk (w48.setCells w35.heap.size 0 vs) w35.heap.size vs) := hN.sets vs (by rw [hlen]; rfl)
          refine step_store 12 27 w35.heap.size vs (by kernel_rfl) rfl rfl (by rfl) (by rfl) (by rfl) (by rfl) (by rw [hlen]; exact hN.there) (by rw [hlen]; exact sizeHist) hQ.one (below_sets hHeld w35.heap.size hNge vs 0) ?_
          have hHeld := below_sets hHeld w35.heap.size hNge vs 0
          refine take_yes 13 12 (v := ?_) rfl rfl (by kernel_rfl) (by kernel_rfl) (by kernel_rfl) (fun _ _ _ h => h) (by rfl) ?_ hHeld ?_
          rotate_left 1
          · (intro w hSw; go_simp; try with_reducible rfl)
          simp only [Act.put, List.setIfInBounds_toArray, List.set_cons_succ, List.set_cons_zero]
          refine wpAnyH_done (by kernel_rfl) ?_ _
          have HHeld := Lib.hid hHeld
          have HNG := Lib.hid hNge
          clear hHeld hQ hN hNge hQne hQge
          go_wp2
          go_meet
          case rel => exact ⟨_, vs, rfl, rfl, HBk.out, HR.out, HNG.out, HHeld.out⟩
      · skip
        go_simp
        have hN := Blk.new WD [Value.slice none 0 0, .slice none 0 0] 27
        have hNge : WI.heap.size ≤ WD.heap.size := hHeld.size
        replace hHeld := hHeld.alloc hHeld.size (Obj.cells [Value.slice none 0 0, .slice none 0 0].toArray 27)
        refine hKK.out _ _ (hHeld) (fun hHeld => ?_)
        clear hKK KK
        generalize WD.alloc (Obj.cells [Value.slice none 0 0, .slice none 0 0].toArray 27) = w49 at *
        refine wpAnyH_ready (rs := [2, 5]) (by kernel_rfl) (by simp) ?_
        refine AllReadyH.cons rfl (fun KK hKK => ?_) (AllReadyH.cons rfl (fun KK hKK => ?_) AllReadyH.nil)
        · skip
          go_simp
          refine (CALLO.out _ hHeld).mono ?_
          rintro e w50 ⟨v5, rfl, hO5', hb5⟩
          have hO5 := hO5'.mono (base' := WI.heap.size) hHeld.size
          have HNE : Hid (∀ g, v5.ownBlock = some g → WD.heap.size ≠ g) := fun g hg => by have := (hO5'.lt g hg).1; have := hN.lt; omega
          obtain ⟨a5, c5, rfl, _, _⟩ := hO5.val
          replace hN := hN.keep hb5
          replace hHeld : Below WI.heap.size WI w50 := hHeld.trans (hb5.mono hHeld.size)
          clear hO5' hb5
          go_wp2_with fail
          refine hKK.out _ _ (hHeld) (fun hHeld => ?_)
          clear hKK KK
          refine wpAnyH_ready (rs := [5]) (by kernel_rfl) (by simp) ?_
          refine AllReadyH.cons rfl (fun KK hKK => ?_) AllReadyH.nil
          go_simp
          have hNo := Blk.new w50 [Value.int IntKind.i64 r.2.2.2.2.1, Value.int IntKind.i64 r.2.2.2.2.2.1, Value.int IntKind.i64 r.2.2.2.2.2.2.1.1, Value.int IntKind.i64 r.2.2.2.2.2.2.1.2.1, Value.int IntKind.i64 r.2.2.2.2.2.2.1.2.2, Value.int IntKind.i64 r.2.2.2.2.2.2.2.1, Value.int IntKind.i64 r.2.2.2.2.2.2.2.2] 35
          replace hO5 := hO5.keep (Go.Joins.below_alloc1 w50 (Obj.cells [Value.int IntKind.i64 r.2.2.2.2.1, Value.int IntKind.i64 r.2.2.2.2.2.1, Value.int IntKind.i64 r.2.2.2.2.2.2.1.1, Value.int IntKind.i64 r.2.2.2.2.2.2.1.2.1, Value.int IntKind.i64 r.2.2.2.2.2.2.1.2.2, Value.int IntKind.i64 r.2.2.2.2.2.2.2.1, Value.int IntKind.i64 r.2.2.2.2.2.2.2.2].toArray 35))
          replace hN := hN.keep (Go.Joins.below_alloc1 w50 (Obj.cells [Value.int IntKind.i64 r.2.2.2.2.1, Value.int IntKind.i64 r.2.2.2.2.2.1, Value.int IntKind.i64 r.2.2.2.2.2.2.1.1, Value.int IntKind.i64 r.2.2.2.2.2.2.1.2.1, Value.int IntKind.i64 r.2.2.2.2.2.2.1.2.2, Value.int IntKind.i64 r.2.2.2.2.2.2.2.1, Value.int IntKind.i64 r.2.2.2.2.2.2.2.2].toArray 35))
          replace hHeld := hHeld.alloc hHeld.size (Obj.cells [Value.int IntKind.i64 r.2.2.2.2.1, Value.int IntKind.i64 r.2.2.2.2.2.1, Value.int IntKind.i64 r.2.2.2.2.2.2.1.1, Value.int IntKind.i64 r.2.2.2.2.2.2.1.2.1, Value.int IntKind.i64 r.2.2.2.2.2.2.1.2.2, Value.int IntKind.i64 r.2.2.2.2.2.2.2.1, Value.int IntKind.i64 r.2.2.2.2.2.2.2.2].toArray 35)
          refine hKK.out _ _ (hHeld) (fun hHeld => ?_)
          clear hKK KK
          generalize w50.alloc (Obj.cells [Value.int IntKind.i64 r.2.2.2.2.1, Value.int IntKind.i64 r.2.2.2.2.2.1, Value.int IntKind.i64 r.2.2.2.2.2.2.1.1, Value.int IntKind.i64 r.2.2.2.2.2.2.1.2.1, Value.int IntKind.i64 r.2.2.2.2.2.2.1.2.2, Value.int IntKind.i64 r.2.2.2.2.2.2.2.1, Value.int IntKind.i64 r.2.2.2.2.2.2.2.2].toArray 35) = w51 at *
          refine wpAnyH_ready (rs := [6]) (by kernel_rfl) (by simp) ?_
          refine AllReadyH.cons rfl (fun KK hKK => ?_) AllReadyH.nil
          rw [if_pos ?q31]
          case q31 => kernel_rfl
          have hown := (show OwnE opC 7 35 w51 WI.heap.size (.slice a5 m.length c5) m from hO5).row
          have hszc := hHeld.size
          have hnews : ∀ j u, ([Value.int IntKind.i64 r.2.2.2.2.1, Value.int IntKind.i64 r.2.2.2.2.2.1, Value.int IntKind.i64 r.2.2.2.2.2.2.1.1, Value.int IntKind.i64 r.2.2.2.2.2.2.1.2.1, Value.int IntKind.i64 r.2.2.2.2.2.2.1.2.2, Value.int IntKind.i64 r.2.2.2.2.2.2.2.1, Value.int IntKind.i64 r.2.2.2.2.2.2.2.2] : List Value)[j]? = some u → w51.cell? ((⟨w50.heap.size, 0, none⟩ : Addr).add j) = some u := fun j u hj => by rw [Addr.add_mid, Nat.zero_add]; exact hNo.at j hj
          refine wp_append_own _ (Operand.tmp 78) (Operand.tmp 81) 58 ?n321 WI.heap.size 35 i1 _ 7 56 Tryz.underlying58 hj hy0 hy1 hy2 ?n322 ?n323 (.slice a5 m.length c5) m.length (m.flatMap opC) ?n324 hown ⟨w50.heap.size, 0, none⟩ 1 1 [Value.int IntKind.i64 r.2.2.2.2.1, Value.int IntKind.i64 r.2.2.2.2.2.1, Value.int IntKind.i64 r.2.2.2.2.2.2.1.1, Value.int IntKind.i64 r.2.2.2.2.2.2.1.2.1, Value.int IntKind.i64 r.2.2.2.2.2.2.1.2.2, Value.int IntKind.i64 r.2.2.2.2.2.2.2.1, Value.int IntKind.i64 r.2.2.2.2.2.2.2.2] ?n325 ?n326 ?n327 ?n328 ?n329 ?n32a ?n32b ?_
          case n321 => rfl
          case n322 => rfl
          case n323 => decide
          case n324 => rfl
          case n325 => rfl
          case n326 => rfl
          case n327 => exact hnews
          case n328 => exact opC_one r.2.2.2.2
          case n329 => unfold maxLen; omega
          case n32a => omega
          case n32b => exact hszc
          intro v7 w52 hown' hgrow _
          have hO7 : OwnE opC 7 35 w52 WI.heap.size v7 Mn := by
            show World.ownsRow _ _ _ _ _ _ _
            rw [HMB.out.1, HMB.out.2]
            exact hown'
          replace hHeld : Below WI.heap.size WI w52 := hHeld.grown hgrow hszc (fun g hg => (hown.lt g hg).1)
          replace hN := hN.grown hgrow (fun e => HNE.out _ e.symm rfl)
          obtain ⟨a7, c7, rfl, hP7, _⟩ := hO7.val
          clear hown hown' hnews hszc hgrow hO7 hO5 hNo HNE
          refine hKK.out _ _ (hHeld) (fun hHeld => ?_)
          clear hKK KK
          refine wpAnyH_ready (rs := [7]) (by kernel_rfl) (by simp) ?_
          refine AllReadyH.cons rfl (fun KK hKK => ?_) AllReadyH.nil
          go_simp
          refine (CALLF.out _ a7 c7 hP7).mono ?_
          rintro e w53 ⟨vs, rfl, hQ, hb7⟩
          have hlen := hQ.len
          have hQge : ∀ b, Old 0 w52.heap.size b → WI.heap.size ≤ b := fun b hb => Nat.le_trans hHeld.size (old_ge hb)
          have hQne : ∀ b, Old 0 w52.heap.size b → b ≠ WD.heap.size := fun b hb => by have := old_ge hb; have := hN.lt; omega
          replace hN := hN.keep hb7
          replace hHeld : Below WI.heap.size WI w53 := hHeld.trans (hb7.mono hHeld.size)
          clear hb7 hP7
          go_wp2_with fail
          refine hKK.out _ _ (hHeld) (fun hHeld => ?_)
          clear hKK KK
          refine take_yes 8 75 (v := ?_) rfl rfl (by kernel_rfl) (by kernel_rfl) (by kernel_rfl) (fun _ _ _ h => h) (by rfl) ?_ hHeld ?_
          rotate_left 1
          · (intro w hSw; go_simp; try with_reducible rfl)
          simp only [Act.put, List.setIfInBounds_toArray, List.set_cons_succ, List.set_cons_zero]
          refine take_yes 9 84 (v := ?_) rfl rfl (by kernel_rfl) (by kernel_rfl) (by kernel_rfl) (fun _ _ _ h => h) (by rfl) ?_ hHeld ?_
          rotate_left 1
          · (intro w hSw; go_simp; try with_reducible rfl)
          simp only [Act.put, List.setIfInBounds_toArray, List.set_cons_succ, List.set_cons_zero]
          refine take_yes 10 85 (v := ?_) rfl rfl (by kernel_rfl) (by kernel_rfl) (by kernel_rfl) (fun _ _ _ h => h) (by rfl) ?_ hHeld ?_
          rotate_left 1
          · (intro w hSw; go_simp; try with_reducible rfl)
          simp only [Act.put, List.setIfInBounds_toArray, List.set_cons_succ, List.set_cons_zero]
          have HR : Hid (HiX (WI.heap.size ≤ ·) FL FT (w53.setCells WD.heap.size 0 vs) vs) := (hQ.sets WD.heap.size hQne vs 0).imp hQge
          have HBk : Hid (Blk (w53.setCells WD.heap.size 0 vs) WD.heap.size vs) := hN.sets vs (by rw [hlen]; rfl)
          refine step_store 12 27 WD.heap.size vs (by kernel_rfl) rfl rfl (by rfl) (by rfl) (by rfl) (by rfl) (by rw [hlen]; exact hN.there) (by rw [hlen]; exact sizeHist) hQ.one (below_sets hHeld WD.heap.size hNge vs 0) ?_
          have hHeld := below_sets hHeld WD.heap.size hNge vs 0
          refine take_yes 13 12 (v := ?_) rfl rfl (by kernel_rfl) (by kernel_rfl) (by kernel_rfl) (fun _ _ _ h => h) (by rfl) ?_ hHeld ?_
          rotate_left 1
          · (intro w hSw; go_simp; try with_reducible rfl)
          simp only [Act.put, List.setIfInBounds_toArray, List.set_cons_succ, List.set_cons_zero]
          refine wpAnyH_done (by kernel_rfl) ?_ _
          have HHeld := Lib.hid hHeld
          have HNG := Lib.hid hNge
          clear hHeld hQ hN hNge hQne hQge
          go_wp2
          go_meet
          case rel => exact ⟨_, vs, rfl, rfl, HBk.out, HR.out, HNG.out, HHeld.out⟩
        · skip
          go_simp
          have hNo := Blk.new w49 [Value.int IntKind.i64 r.2.2.2.2.1, Value.int IntKind.i64 r.2.2.2.2.2.1, Value.int IntKind.i64 r.2.2.2.2.2.2.1.1, Value.int IntKind.i64 r.2.2.2.2.2.2.1.2.1, Value.int IntKind.i64 r.2.2.2.2.2.2.1.2.2, Value.int IntKind.i64 r.2.2.2.2.2.2.2.1, Value.int IntKind.i64 r.2.2.2.2.2.2.2.2] 35
          replace hN := hN.keep (Go.Joins.below_alloc1 w49 (Obj.cells [Value.int IntKind.i64 r.2.2.2.2.1, Value.int IntKind.i64 r.2.2.2.2.2.1, Value.int IntKind.i64 r.2.2.2.2.2.2.1.1, Value.int IntKind.i64 r.2.2.2.2.2.2.1.2.1, Value.int IntKind.i64 r.2.2.2.2.2.2.1.2.2, Value.int IntKind.i64 r.2.2.2.2.2.2.2.1, Value.int IntKind.i64 r.2.2.2.2.2.2.2.2].toArray 35))
          replace hHeld := hHeld.alloc hHeld.size (Obj.cells [Value.int IntKind.i64 r.2.2.2.2.1, Value.int IntKind.i64 r.2.2.2.2.2.1, Value.int IntKind.i64 r.2.2.2.2.2.2.1.1, Value.int IntKind.i64 r.2.2.2.2.2.2.1.2.1, Value.int IntKind.i64 r.2.2.2.2.2.2.1.2.2, Value.int IntKind.i64 r.2.2.2.2.2.2.2.1, Value.int IntKind.i64 r.2.2.2.2.2.2.2.2].toArray 35)
          refine hKK.out _ _ (hHeld) (fun hHeld => ?_)
          clear hKK KK
          generalize w49.alloc (Obj.cells [Value.int IntKind.i64 r.2.2.2.2.1, Value.int IntKind.i64 r.2.2.2.2.2.1, Value.int IntKind.i64 r.2.2.2.2.2.2.1.1, Value.int IntKind.i64 r.2.2.2.2.2.2.1.2.1, Value.int IntKind.i64 r.2.2.2.2.2.2.1.2.2, Value.int IntKind.i64 r.2.2.2.2.2.2.2.1, Value.int IntKind.i64 r.2.2.2.2.2.2.2.2].toArray 35) = w54 at *
          refine wpAnyH_ready (rs := [2]) (by kernel_rfl) (by simp) ?_
          refine AllReadyH.cons rfl (fun KK hKK => ?_) AllReadyH.nil
          go_simp
          refine (CALLO.out _ hHeld).mono ?_
          rintro e w55 ⟨v5, rfl, hO5', hb5⟩
          have hO5 := hO5'.mono (base' := WI.heap.size) hHeld.size
          have HNE : Hid (∀ g, v5.ownBlock = some g → WD.heap.size ≠ g) := fun g hg => by have := (hO5'.lt g hg).1; have := hN.lt; omega
          obtain ⟨a5, c5, rfl, _, _⟩ := hO5.val
          replace hNo := hNo.keep hb5
          replace hN := hN.keep hb5
          replace hHeld : Below WI.heap.size WI w55 := hHeld.trans (hb5.mono hHeld.size)
          clear hO5' hb5
          go_wp2_with fail
          refine hKK.out _ _ (hHeld) (fun hHeld => ?_)
          clear hKK KK
          refine wpAnyH_ready (rs := [6]) (by kernel_rfl) (by simp) ?_
          refine AllReadyH.cons rfl (fun KK hKK => ?_) AllReadyH.nil
          rw [if_pos ?q35]
          case q35 => kernel_rfl
          have hown := (show OwnE opC 7 35 w55 WI.heap.size (.slice a5 m.length c5) m from hO5).row
          have hszc := hHeld.size
          have hnews : ∀ j u, ([Value.int IntKind.i64 r.2.2.2.2.1, Value.int IntKind.i64 r.2.2.2.2.2.1, Value.int IntKind.i64 r.2.2.2.2.2.2.1.1, Value.int IntKind.i64 r.2.2.2.2.2.2.1.2.1, Value.int IntKind.i64 r.2.2.2.2.2.2.1.2.2, Value.int IntKind.i64 r.2.2.2.2.2.2.2.1, Value.int IntKind.i64 r.2.2.2.2.2.2.2.2] : List Value)[j]? = some u → w55.cell? ((⟨w49.heap.size, 0, none⟩ : Addr).add j) = some u := fun j u hj => by rw [Addr.add_mid, Nat.zero_add]; exact hNo.at j hj
          refine wp_append_own _ (Operand.tmp 78) (Operand.tmp 81) 58 ?n361 WI.heap.size 35 i1 _ 7 56 Tryz.underlying58 hj hy0 hy1 hy2 ?n362 ?n363 (.slice a5 m.length c5) m.length (m.flatMap opC) ?n364 hown ⟨w49.heap.size, 0, none⟩ 1 1 [Value.int IntKind.i64 r.2.2.2.2.1, Value.int IntKind.i64 r.2.2.2.2.2.1, Value.int IntKind.i64 r.2.2.2.2.2.2.1.1, Value.int IntKind.i64 r.2.2.2.2.2.2.1.2.1, Value.int IntKind.i64 r.2.2.2.2.2.2.1.2.2, Value.int IntKind.i64 r.2.2.2.2.2.2.2.1, Value.int IntKind.i64 r.2.2.2.2.2.2.2.2] ?n365 ?n366 ?n367 ?n368 ?n369 ?n36a ?n36b ?_
          case n361 => rfl
          case n362 => rfl
          case n363 => decide
          case n364 => rfl
          case n365 => rfl
          case n366 => rfl
          case n367 => exact hnews
          case n368 => exact opC_one r.2.2.2.2
          case n369 => unfold maxLen; omega
          case n36a => omega
          case n36b => exact hszc
          intro v7 w56 hown' hgrow _
          have hO7 : OwnE opC 7 35 w56 WI.heap.size v7 Mn := by
            show World.ownsRow _ _ _ _ _ _ _
            rw [HMB.out.1, HMB.out.2]
            exact hown'
          replace hHeld : Below WI.heap.size WI w56 := hHeld.grown hgrow hszc (fun g hg => (hown.lt g hg).1)
          replace hN := hN.grown hgrow (fun e => HNE.out _ e.symm rfl)
          obtain ⟨a7, c7, rfl, hP7, _⟩ := hO7.val
          clear hown hown' hnews hszc hgrow hO7 hO5 hNo HNE
          refine hKK.out _ _ (hHeld) (fun hHeld => ?_)
          clear hKK KK
          refine wpAnyH_ready (rs := [7]) (by kernel_rfl) (by simp) ?_
          refine AllReadyH.cons rfl (fun KK hKK => ?_) AllReadyH.nil
          go_simp
          refine (CALLF.out _ a7 c7 hP7).mono ?_
          rintro e w57 ⟨vs, rfl, hQ, hb7⟩
          have hlen := hQ.len
          have hQge : ∀ b, Old 0 w56.heap.size b → WI.heap.size ≤ b := fun b hb => Nat.le_trans hHeld.size (old_ge hb)
          have hQne : ∀ b, Old 0 w56.heap.size b → b ≠ WD.heap.size := fun b hb => by have := old_ge hb; have := hN.lt; omega
          replace hN := hN.keep hb7
          replace hHeld : Below WI.heap.size WI w57 := hHeld.trans (hb7.mono hHeld.size)
          clear hb7 hP7
          go_wp2_with fail
          refine hKK.out _ _ (hHeld) (fun hHeld => ?_)
          clear hKK KK
          refine take_yes 8 75 (v := ?_) rfl rfl (by kernel_rfl) (by kernel_rfl) (by kernel_rfl) (fun _ _ _ h => h) (by rfl) ?_ hHeld ?_
          rotate_left 1
          · (intro w hSw; go_simp; try with_reducible rfl)
          simp only [Act.put, List.setIfInBounds_toArray, List.set_cons_succ, List.set_cons_zero]
          refine take_yes 9 84 (v := ?_) rfl rfl (by kernel_rfl) (by kernel_rfl) (by kernel_rfl) (fun _ _ _ h => h) (by rfl) ?_ hHeld ?_
          rotate_left 1
          · (intro w hSw; go_simp; try with_reducible rfl)
          simp only [Act.put, List.setIfInBounds_toArray, List.set_cons_succ, List.set_cons_zero]
          refine take_yes 10 85 (v := ?_) rfl rfl (by kernel_rfl) (by kernel_rfl) (by kernel_rfl) (fun _ _ _ h => h) (by rfl) ?_ hHeld ?_
          rotate_left 1
          · (intro w hSw; go_simp; try with_reducible rfl)
          simp only [Act.put, List.setIfInBounds_toArray, List.set_cons_succ, List.set_cons_zero]
          have HR : Hid (HiX (WI.heap.size ≤ ·) FL FT (w57.setCells WD.heap.size 0 vs) vs) := (hQ.sets WD.heap.size hQne vs 0).imp hQge
          have HBk : Hid (Blk (w57.setCells WD.heap.size 0 vs) WD.heap.size vs) := hN.sets vs (by rw [hlen]; rfl)
          refine step_store 12 27 WD.heap.size vs (by kernel_rfl) rfl rfl (by rfl) (by rfl) (by rfl) (by rfl) (by rw [hlen]; exact hN.there) (by rw [hlen]; exact sizeHist) hQ.one (below_sets hHeld WD.heap.size hNge vs 0) ?_
          have hHeld := below_sets hHeld WD.heap.size hNge vs 0
          refine take_yes 13 12 (v := ?_) rfl rfl (by kernel_rfl) (by kernel_rfl) (by kernel_rfl) (fun _ _ _ h => h) (by rfl) ?_ hHeld ?_
          rotate_left 1
          · (intro w hSw; go_simp; try with_reducible rfl)
          simp only [Act.put, List.setIfInBounds_toArray, List.set_cons_succ, List.set_cons_zero]
          refine wpAnyH_done (by kernel_rfl) ?_ _
          have HHeld := Lib.hid hHeld
          have HNG := Lib.hid hNge
          clear hHeld hQ hN hNge hQne hQge
          go_wp2
          go_meet
          case rel => exact ⟨_, vs, rfl, rfl, HBk.out, HR.out, HNG.out, HHeld.out⟩
    case rest =>
      obtain ⟨lb, vs, rfl, rfl, hbk, hQ, hge, hbc⟩ := hcut
      have HBC := Lib.hid (HB5.out.trans (hbc.mono HB5.out.size))
      have hZc := hZ5.keep hbc
      clear CALLO CALLF HOPR hA5 hA5' hC5 hZ5
      by_cases hz : FE = 0
      case neg =>
        have dz : (FE != 0) = true := by simpa using hz
        have HNZ := Lib.hid hz
        have HE : Hid (FE = stepE h r) := by show _ = _; rw [HE0.out, HG2.out.1]
        have rf := hZc.frz
        have r0 := hZc.at 0 rfl
        have r1 := hZc.at 1 rfl
        have r2 := hZc.at 2 rfl
        have r3 := hZc.at 3 rfl
        clear hz hbk hQ
        go_wp2
        have hRf := hZc.sets [Value.slice none 0 0, .slice none 0 0, .int .i64 0, .slice none 0 0] rfl
        refine ret_cell_tmp Tryz.results34 rfl rfl (hRf.load Tryz.underlying30 rfl sizeHub) ?_
        exact HBAD.out FE _ HE.out HNZ.out (below_sets HBC.out (w.heap.size + 2) (by omega) [Value.slice none 0 0, .slice none 0 0, .int .i64 0, .slice none 0 0] 0)
      have HE : Hid (stepE h r = 0) := by show _ = _; rw [HE0.out, HG2.out.1, hz]
      rw [hz]
      clear hz
      obtain ⟨aL, cL, aT, cT, rfl, hQr⟩ := hQ
      have HQ : Hid (HiX (WI.heap.size ≤ ·) FL FT wc [.slice aL FL.length cL, .slice aT FT.length cT]) := ⟨aL, cL, aT, cT, rfl, hQr⟩
      clear hQr
      have hXc := HX5.out.keep hbc
      obtain ⟨hx6, in1, in2⟩ := box_op hXc hkl HQ.out (fun b hb => ⟨by omega, by omega⟩) ((prOf h k).2.1 + 1)
      have HX6 : Hid (BoxAt 0 ((wc.setCells w2.heap.size 0 [.slice aL FL.length cL, .slice aT FT.length cT]).setCell ⟨g, k * 3 + 1, none⟩ (.int .i64 ((prOf h k).2.1 + 1))) w2.heap.size g cap aL cL aT cT (X.set k ((X[k].1.1, (prOf h k).2.1 + 1, X[k].1.2.2), X[k].2)) (stepH h r)) := by
        show BoxAt _ _ _ _ _ _ _ _ _ _ _
        rw [HHH.out, HG2.out.2.1, HG2.out.2.2]
        exact hx6
      have HDE : Hid (HuD (But DD w.heap.size (w.heap.size + 2)) aL aT (some ⟨g, 0, none⟩) (X.set k ((X[k].1.1, (prOf h k).2.1 + 1, X[k].1.2.2), X[k].2)) (stepH h r)) := by
        show HuD _ _ _ _ _ _
        rw [HHH.out, HG2.out.2.1, HG2.out.2.2]
        refine ⟨in1.imp (fun b hb => ⟨Or.inr (by omega), by omega⟩), in2.imp (fun b hb => ⟨Or.inr (by omega), by omega⟩), Or.inr (fun b off e => ?_), ?_⟩
        · obtain ⟨rfl, _⟩ : g = b ∧ 0 = off := by simpa using e
          exact ⟨Or.inr (by omega), by omega⟩
        · intro x hm
          rcases List.mem_or_eq_of_mem_set hm with hm | rfl
          · exact HDB.out.2.2 x hm
          · exact HDB.out.2.2 X[k] (List.getElem_mem hkl)
      have hZ6 := (hZc.others (by omega : w.heap.size + 2 ≠ w2.heap.size) [.slice aL FL.length cL, .slice aT FT.length cT] 0).other (by omega : w.heap.size + 2 ≠ g) (k * 3 + 1) (.int .i64 ((prOf h k).2.1 + 1))
      have HB6 : Hid (Below w.heap.size w ((wc.setCells w2.heap.size 0 [.slice aL FL.length cL, .slice aT FT.length cT]).setCell ⟨g, k * 3 + 1, none⟩ (.int .i64 ((prOf h k).2.1 + 1)))) := below_sets (below_sets HBC.out w2.heap.size (by omega) [.slice aL FL.length cL, .slice aT FT.length cT] 0) g (by omega) [_] (k * 3 + 1)
      obtain ⟨p0, p1, -⟩ := hXc.row.cells k hkl
      rw [prOf_at (h := h) HX.out.are k hkl] at p0 p1
      have pf := hXc.row.blk.frz
      have bf := hXc.blk.frz
      have v0 := hXc.blk.at 0 rfl
      have v1 := hXc.blk.at 1 rfl
      have l0 := hbk.at 0 rfl
      have l1 := hbk.at 1 rfl
      have y0 := HX6.out.blk.at 0 rfl
      have y1 := HX6.out.blk.at 1 rfl
      have y2 := HX6.out.blk.at 2 rfl
      have y3 := HX6.out.blk.at 3 rfl
      have rf := hZ6.frz
      have r0 := hZ6.at 0 rfl
      have r1 := hZ6.at 1 rfl
      have r2 := hZ6.at 2 rfl
      have r3 := hZ6.at 3 rfl
      have hgn1 : ¬ g = w2.heap.size := by omega
      have hgn2 : ¬ w2.heap.size = g := by omega
      clear hx6 in1 in2 hZc hXc hbk
      go_upto_region 29 with fail
      clear p0 p1 pf bf v0 v1 l0 l1
      have e5 : ((wc.setCell ⟨w2.heap.size, 0, none⟩ (.slice aL FL.length cL)).setCell ⟨w2.heap.size, 1, none⟩ (.slice aT FT.length cT)).setCell ⟨g, k * 3 + 1, none⟩ (.int .i64 ((prOf h k).2.1 + 1)) = (wc.setCells w2.heap.size 0 [.slice aL FL.length cL, .slice aT FT.length cT]).setCell ⟨g, k * 3 + 1, none⟩ (.int .i64 ((prOf h k).2.1 + 1)) := rfl
      rw [e5]
      clear e5
      generalize (wc.setCells w2.heap.size 0 [.slice aL FL.length cL, .slice aT FT.length cT]).setCell ⟨g, k * 3 + 1, none⟩ (.int .i64 ((prOf h k).2.1 + 1)) = W9 at *
      go_wp2
      have hRf := hZ6.sets [.slice aL (stepH h r).1.1.length cL, .slice aT (stepH h r).1.2.length cT, .int .i64 (stepH h r).2.1, .slice (some ⟨g, 0, none⟩) 3 cap] rfl
      refine ret_cell_tmp Tryz.results34 rfl rfl (hRf.load Tryz.underlying30 rfl sizeHub) ?_
      exact HGOOD.out _ _ _ _ _ _ _ _ _ HE.out HX6.out HDE.out HB6.out

/-- orangeryref.nexted -/
theorem rnexted_any (w : World) (vs : List Value) (h : Hb) (r : Rc) (ar : Option Addr) (cr : Nat) (DD : Nat → Prop) (hh : HuX DD h w vs) (hnw : ∀ b, DD b → b < w.heap.size) (hok : hubE h = 0) (hr : checkRec r = 0) (hrt : SlI w ar r.2.2.2.1) (hin : InL DD ar r.2.2.2.1) :
    Calls Tryz.prog 34 #[.agg vs.toArray, rcV r.1 r.2.1 r.2.2.1 (.slice ar r.2.2.2.1.length cr) r.2.2.2.2] w (Gives (HuX (OldD DD w.heap.size) (stepN h r)) w (stepE h r)) := by
  by_cases hk : r.1 = 1
  · exact rnexted_op w vs h r ar cr DD hh hnw hok hr hrt hin hk
  · exact rnexted_others w vs h r ar cr DD hh hnw hok hr hrt hin hk
end Go.Proofs.YthlhnokgcnieeadGreat

