/- 4 texts of the proof: orangerylaw.HubSays: the walk. A tree that came in as an argument: which places it holds. Operations and steps that came in as arguments. Slices of operations and histories that came in as arguments, and what they weigh. -/
import Derived.Deep.Slices
import Derived.Deep.Strs
import Derived.ChangeOld
import Derived.SizedLaws
import Derived.Test.YthlhnokgcnieeadGreatP20
import Derived.Test.YthlhnokgcnieeadGreatP18
import Derived.Test.YthlhnokgcnieeadGreatP22
import Derived.Test.YthlhnokgcnieeadGreatP21
import Derived.Test.YthlhnokgcnieeadGreatP01
import Derived.Test.YthlhnokgcnieeadGreatP03
/- orangerylaw.HubSays: the walk. -/
namespace Go.Proofs.YthlhnokgcnieeadGreat
open Go.ChangeShapes Go.WideShapes Go.ChangeAt Go.RowKit
open Orangery (Pl Mv Stp Rc Pr Hb hubE newHb prOf stepE stepH noHb nextE nextH ofE ofR ofK ofW viewK viewW sameV checkRec)

theorem ofR_len (l : List Pl) (R : List Int) : (ofR l R).length ≤ R.length := by
  unfold ofR
  split
  · simp
  · exact Nat.le_refl _
theorem ofK_len (l : List Pl) (R : List Int) : (ofK l R).length ≤ l.length := by
  unfold ofK
  split
  · simp
  · exact List.length_filter_le _ _
theorem ofW_len (l : List Pl) (R : List Int) : (ofW l R).length ≤ l.length := by
  unfold ofW
  split
  · simp
  · exact List.length_filter_le _ _
theorem sameV_self (R : List Int) (K V : List Pl) : sameV R R K K V V = true := by simp [sameV]

set_option maxHeartbeats 8000000 in
set_option maxRecDepth 100000 in
theorem hubSays_any (w : World) (v : Value) (h : Hb) (r : Rc) (ar : Option Addr) (cr : Nat) (v' : Value) (g : Hb) (who : Int) (hh : HuIs w v h) (hm : r.2.2.2.1.length ≤ maxLen) (hr : SlI w ar r.2.2.2.1) (hg : HuIs w v' g) :
    Calls Tryz.prog 3 #[v, rcV r.1 r.2.1 r.2.2.1 (.slice ar r.2.2.2.1.length cr) r.2.2.2.2, v', .int .i64 who] w fun e w' => e = .returned (.bool true) ∧ Below w.heap.size w w' := by
  have HM := Lib.hid hm
  have HR := Lib.hid hr
  have HH := Lib.hid hh
  obtain ⟨us, rfl, hgx⟩ := hg.x
  obtain ⟨b0, o0, i0, b1, o1, i1, b3, o3, i3, rfl⟩ := hgx.four
  have HG := Lib.hid hgx.is
  obtain ⟨vs, ev, hhx⟩ := hh.x
  obtain ⟨a, c, p, d, q, gc, X, rfl, hX⟩ := hh
  have evs : vs = [Value.slice a h.1.1.length c, .slice p h.1.2.length d, .int .i64 h.2.1, .slice q X.length gc] := by
    have e := congrArg (fun z : Value => match z with | .agg l => l.toList | _ => []) ev
    exact e.symm
  subst evs
  have HHX := Lib.hid hhx
  have HX := Lib.hid hX
  clear hg hgx hhx hX hm hr ev
  obtain ⟨W0, hW, hA0, hC0, hG0, hB, -⟩ := laid3 w [Value.slice a h.1.1.length c, .slice p h.1.2.length d, .int .i64 h.2.1, .slice q X.length gc] 30 (rcL r.1 r.2.1 r.2.2.1 (.slice ar r.2.2.2.1.length cr) r.2.2.2.2) 37 [Value.slice b0 o0 i0, .slice b1 o1 i1, .int .i64 g.2.1, .slice b3 o3 i3] 30
  have HB0 := Lib.hid hB
  clear hB
  change ((w.alloc (Obj.cells #[Value.slice a h.1.1.length c, .slice p h.1.2.length d, .int .i64 h.2.1, .slice q X.length gc] 30)).alloc (Obj.cells #[Value.int IntKind.i64 r.1, .int .i64 r.2.1, .int .i64 r.2.2.1, .slice ar r.2.2.2.1.length cr, .int .i64 r.2.2.2.2.1, .int .i64 r.2.2.2.2.2.1, .int .i64 r.2.2.2.2.2.2.1.1, .int .i64 r.2.2.2.2.2.2.1.2.1, .int .i64 r.2.2.2.2.2.2.1.2.2, .int .i64 r.2.2.2.2.2.2.2.1, .int .i64 r.2.2.2.2.2.2.2.2] 37)).alloc (Obj.cells #[Value.slice b0 o0 i0, .slice b1 o1 i1, .int .i64 g.2.1, .slice b3 o3 i3] 30) = W0 at hW
  obtain ⟨NE, hNE⟩ : ∃ NE, nextE h r = NE := ⟨_, rfl⟩
  obtain ⟨NH, hNH⟩ : ∃ NH, nextH h r = NH := ⟨_, rfl⟩
  obtain ⟨SE, hSE⟩ : ∃ SE, seesE h who = SE := ⟨_, rfl⟩
  obtain ⟨SR, hSR⟩ : ∃ SR, seesR h who = SR := ⟨_, rfl⟩
  obtain ⟨SK, hSK⟩ : ∃ SK, seesK h who = SK := ⟨_, rfl⟩
  obtain ⟨SW, hSW⟩ : ∃ SW, seesW h who = SW := ⟨_, rfl⟩
  have HSEE : Hid (seesE h who = SE ∧ seesR h who = SR ∧ seesK h who = SK ∧ seesW h who = SW) := ⟨hSE, hSR, hSK, hSW⟩
  have CNX : Hid (∀ W', Below w.heap.size w W' → Calls Tryz.prog 7 #[huV (.slice a h.1.1.length c) (.slice p h.1.2.length d) h.2.1 (.slice q X.length gc), rcV r.1 r.2.1 r.2.2.1 (.slice ar r.2.2.2.1.length cr) r.2.2.2.2] W' (Gives (HuX (W'.heap.size ≤ ·) NH) W' NE)) := fun W' hw => by
    rw [← hNE, ← hNH]; exact unext_any W' _ h r ar cr (HH.out.keep hw) HM.out (HR.out.below hw)
  have CSE : Hid (∀ W', Below w.heap.size w W' → Calls Tryz.prog 8 #[huV (.slice a h.1.1.length c) (.slice p h.1.2.length d) h.2.1 (.slice q X.length gc), .int .i64 who] W' (Gives (ViX (Old w.heap.size W'.heap.size) SR SK SW) W' SE)) := fun W' hw => by
    rw [← hSE, ← hSR, ← hSK, ← hSW]; exact usees_any W' _ h who w.heap.size (HHX.out.keep hw) hw.size
  have CRN : Hid (∀ W', Below w.heap.size w W' → Calls Tryz.prog 9 #[huV (.slice a h.1.1.length c) (.slice p h.1.2.length d) h.2.1 (.slice q X.length gc), rcV r.1 r.2.1 r.2.2.1 (.slice ar r.2.2.2.1.length cr) r.2.2.2.2] W' (Gives (HuX (OldD (· < w.heap.size) W'.heap.size) NH) W' NE)) := fun W' hw => by
    rw [← hNE, ← hNH]; exact rNexted_any W' _ h r ar cr (· < w.heap.size) (HHX.out.keep hw) (fun b hb => Nat.lt_of_lt_of_le hb hw.size) HM.out (HR.out.below hw) HR.out.isin
  clear hNE hNH hSE hSR hSK hSW HR HM HHX
  have x0 := hA0.at 0 rfl
  have x1 := hA0.at 1 rfl
  have x2 := hA0.at 2 rfl
  have x3 := hA0.at 3 rfl
  have u0 := hC0.at 0 rfl
  have u1 := hC0.at 1 rfl
  have u2 := hC0.at 2 rfl
  have u3 := hC0.at 3 rfl
  have u4 := hC0.at 4 rfl
  have u5 := hC0.at 5 rfl
  have u6 := hC0.at 6 rfl
  have u7 := hC0.at 7 rfl
  have u8 := hC0.at 8 rfl
  have u9 := hC0.at 9 rfl
  have u10 := hC0.at 10 rfl
  go_enter Tryz.func3, Tryz.ntmps3
  go_wp2_with fail
  clear hW
  clear x0 x1 x2 x3
  clear u0 u1 u2 u3 u4 u5 u6 u7 u8 u9 u10
  refine (CNX.out W0 HB0.out).mono ?_
  rintro e w1 ⟨vs, rfl, hN1, hb⟩
  clear CNX
  obtain ⟨e0, m0, d0, e1, m1, d1, e3, m3, d3, rfl⟩ := hN1.four
  have hA1 := hA0.keep hb
  have hC1 := hC0.keep hb
  have hG1 := hG0.keep hb
  have HB1 : Hid (Below w.heap.size w w1) := HB0.out.trans (hb.mono HB0.out.size)
  clear hA0 hC0 hG0 HB0 hb
  obtain ⟨W2, hW, hP2, hb, -⟩ := laid1 w1 [Value.slice e0 m0 d0, .slice e1 m1 d1, .int .i64 NH.2.1, .slice e3 m3 d3] 30
  have hA2 := hA1.keep hb
  have hC2 := hC1.keep hb
  have hG2 := hG1.keep hb
  have hN2 := hN1.keep hb
  have HB2 : Hid (Below w.heap.size w W2) := HB1.out.trans (hb.mono HB1.out.size)
  clear hA1 hC1 hG1 hN1 HB1 hb
  have x0 := hA2.at 0 rfl
  have x1 := hA2.at 1 rfl
  have x2 := hA2.at 2 rfl
  have x3 := hA2.at 3 rfl
  go_wp2_with fail
  clear hW
  clear x0 x1 x2 x3
  refine (CSE.out W2 HB2.out).mono ?_
  rintro e w3 ⟨vs, rfl, hV3, hb⟩
  clear CSE
  obtain ⟨f0, k0, f1, k1, f3, k3, rfl⟩ := hV3.three
  have hA3 := hA2.keep hb
  have hC3 := hC2.keep hb
  have hG3 := hG2.keep hb
  have hN3 := hN2.keep hb
  have hP3 := hP2.keep hb
  have HB3 : Hid (Below w.heap.size w w3) := HB2.out.trans (hb.mono HB2.out.size)
  clear hA2 hC2 hG2 hN2 hP2 HB2 hb
  obtain ⟨W4, hW, hQ4, hb, -⟩ := laid1 w3 [Value.slice f0 SR.length k0, .slice f1 SK.length k1, .slice f3 SW.length k3] 42
  have hA4 := hA3.keep hb
  have hC4 := hC3.keep hb
  have hG4 := hG3.keep hb
  have hN4 := hN3.keep hb
  have hP4 := hP3.keep hb
  have hV4 := hV3.keep hb
  have HB4 : Hid (Below w.heap.size w W4) := HB3.out.trans (hb.mono HB3.out.size)
  clear hA3 hC3 hG3 hN3 hP3 hV3 HB3 hb
  have x0 := hA4.at 0 rfl
  have x1 := hA4.at 1 rfl
  have x2 := hA4.at 2 rfl
  have x3 := hA4.at 3 rfl
  have u0 := hC4.at 0 rfl
  have u1 := hC4.at 1 rfl
  have u2 := hC4.at 2 rfl
  have u3 := hC4.at 3 rfl
  have u4 := hC4.at 4 rfl
  have u5 := hC4.at 5 rfl
  have u6 := hC4.at 6 rfl
  have u7 := hC4.at 7 rfl
  have u8 := hC4.at 8 rfl
  have u9 := hC4.at 9 rfl
  have u10 := hC4.at 10 rfl
  go_wp2_with fail
  clear hW
  clear x0 x1 x2 x3
  clear u0 u1 u2 u3 u4 u5 u6 u7 u8 u9 u10
  refine (CRN.out W4 HB4.out).mono ?_
  rintro e w5 ⟨vs, rfl, hM5, hb⟩
  clear CRN
  obtain ⟨y0, l0, j0, y1, l1, j1, y3, l3, j3, rfl⟩ := hM5.four
  have hA5 := hA4.keep hb
  have hC5 := hC4.keep hb
  have hG5 := hG4.keep hb
  have hN5 := hN4.keep hb
  have hP5 := hP4.keep hb
  have hV5 := hV4.keep hb
  have hQ5 := hQ4.keep hb
  have HB5 : Hid (Below w.heap.size w w5) := HB4.out.trans (hb.mono HB4.out.size)
  clear hA4 hC4 hG4 hN4 hP4 hV4 hQ4 HB4 hb
  obtain ⟨W6, hW, hZ6, hb, -⟩ := laid1 w5 [Value.slice y0 l0 j0, .slice y1 l1 j1, .int .i64 NH.2.1, .slice y3 l3 j3] 30
  have hA6 := hA5.keep hb
  have hC6 := hC5.keep hb
  have hG6 := hG5.keep hb
  have hN6 := hN5.keep hb
  have hP6 := hP5.keep hb
  have hV6 := hV5.keep hb
  have hQ6 := hQ5.keep hb
  have hM6 := hM5.keep hb
  have HB6 : Hid (Below w.heap.size w W6) := HB5.out.trans (hb.mono HB5.out.size)
  clear hA5 hC5 hG5 hN5 hP5 hV5 hQ5 hM5 HB5 hb
  have x0 := hA6.at 0 rfl
  have x1 := hA6.at 1 rfl
  have x2 := hA6.at 2 rfl
  have x3 := hA6.at 3 rfl
  go_wp2_with fail
  clear hW
  clear x0 x1 x2 x3
  refine (rcheckHub_any W6 _ h (HH.out.keep HB6.out)).mono ?_
  rintro e w7 ⟨rfl, hb⟩
  have hA7 := hA6.keep hb
  have hC7 := hC6.keep hb
  have hG7 := hG6.keep hb
  have hN7 := hN6.keep hb
  have hP7 := hP6.keep hb
  have hV7 := hV6.keep hb
  have hQ7 := hQ6.keep hb
  have hM7 := hM6.keep hb
  have hZ7 := hZ6.keep hb
  have HB7 : Hid (Below w.heap.size w w7) := HB6.out.trans (hb.mono HB6.out.size)
  clear hA6 hC6 hG6 hN6 hP6 hV6 hQ6 hM6 hZ6 HB6 hb
  go_upto_region 5 with fail
  have HIH : Hid (HuIs w7 (huV (.slice a h.1.1.length c) (.slice p h.1.2.length d) h.2.1 (.slice q X.length gc)) h) := HH.out.keep HB7.out
  have HIG : Hid (HuIs w7 (.agg [Value.slice b0 o0 i0, .slice b1 o1 i1, .int .i64 g.2.1, .slice b3 o3 i3].toArray) g) := HG.out.keep HB7.out
  have HIN : Hid (HuIs w7 (.agg [Value.slice e0 m0 d0, .slice e1 m1 d1, .int .i64 NH.2.1, .slice e3 m3 d3].toArray) NH) := hN7.is
  have HIM : Hid (HuIs w7 (.agg [Value.slice y0 l0 j0, .slice y1 l1 j1, .int .i64 NH.2.1, .slice y3 l3 j3].toArray) NH) := hM7.is
  have HA : Hid (Blk w7 w.heap.size [Value.slice a h.1.1.length c, .slice p h.1.2.length d, .int .i64 h.2.1, .slice q X.length gc]) := hA7
  have HGB : Hid (Blk w7 (w.heap.size + 1 + 1) [Value.slice b0 o0 i0, .slice b1 o1 i1, .int .i64 g.2.1, .slice b3 o3 i3]) := hG7
  have HP : Hid (Blk w7 w1.heap.size [Value.slice e0 m0 d0, .slice e1 m1 d1, .int .i64 NH.2.1, .slice e3 m3 d3]) := hP7
  have HZ : Hid (Blk w7 w5.heap.size [Value.slice y0 l0 j0, .slice y1 l1 j1, .int .i64 NH.2.1, .slice y3 l3 j3]) := hZ7
  have HQ : Hid (Blk w7 w3.heap.size [Value.slice f0 SR.length k0, .slice f1 SK.length k1, .slice f3 SW.length k3]) := hQ7
  have HV : Hid (ViX (Old w.heap.size W2.heap.size) SR SK SW w7 [Value.slice f0 SR.length k0, .slice f1 SK.length k1, .slice f3 SW.length k3]) := hV7
  clear hA7 hC7 hG7 hN7 hP7 hV7 hQ7 hM7 hZ7
  have hS' : Below w7.heap.size w7 w7.drew := (Below.refl _ w7).drew
  refine wp_region_held_drew (S := fun w' => Below w7.heap.size w7 w') (by kernel_rfl) hS' (fun hHeld => ?_)
  refine wpAnyH_ready (rs := [0]) (by kernel_rfl) (by simp) ?_
  refine AllReadyH.cons rfl (fun K hK => ?_) AllReadyH.nil
  go_simp
  refine (accepted_any _).mono ?_
  rintro e wn ⟨rfl, hb⟩
  have hS' : Below w7.heap.size w7 wn := Below.trans hS' (hb.mono (Below.size hS'))
  clear hb
  go_wp2_with fail
  refine hK.out _ _ hS' (fun hHeld => ?_)
  clear hK K
  refine take_yes 1 39 (v := ?_) rfl rfl (by kernel_rfl) (by kernel_rfl) (by kernel_rfl) (fun _ _ _ h => h) (by rfl) ?_ hHeld ?_
  rotate_left 1
  · (intro w hSw; go_simp; try with_reducible rfl)
  simp only [Act.put, List.setIfInBounds_toArray, List.set_cons_succ, List.set_cons_zero]
  refine take_yes 2 40 (v := ?_) rfl rfl (by kernel_rfl) (by kernel_rfl) (by kernel_rfl) (fun _ _ _ h => h) (by rfl) ?_ hHeld ?_
  rotate_left 1
  · (intro w hSw; go_simp; try with_reducible rfl)
  simp only [Act.put, List.setIfInBounds_toArray, List.set_cons_succ, List.set_cons_zero]
  refine take_load 3 41 30 w.heap.size [Value.slice a h.1.1.length c, .slice p h.1.2.length d, .int .i64 h.2.1, .slice q X.length gc] rfl rfl (by kernel_rfl) (by kernel_rfl) (by kernel_rfl) (fun _ _ _ h => h) (by rfl) (by rfl) (by rfl) (fun w hw => (HA.out.keep hw).range) Tryz.underlying30 rfl sizeHub hHeld ?_
  simp only [Act.put, List.setIfInBounds_toArray, List.set_cons_succ, List.set_cons_zero]
  refine take_yes 5 43 (v := ?_) rfl rfl (by kernel_rfl) (by kernel_rfl) (by kernel_rfl) (fun _ _ _ h => h) (by rfl) ?_ hHeld ?_
  rotate_left 1
  · (intro w hSw; go_simp; try with_reducible rfl)
  simp only [Act.put, List.setIfInBounds_toArray, List.set_cons_succ, List.set_cons_zero]
  refine wpAnyH_ready (rs := [4]) (by kernel_rfl) (by simp) ?_
  refine AllReadyH.cons rfl (fun K hK => ?_) AllReadyH.nil
  go_simp
  refine (ucheck_any _ _ h (HIH.out.keep hS')).mono ?_
  rintro e wn ⟨rfl, hb⟩
  have hS' : Below w7.heap.size w7 wn := Below.trans hS' (hb.mono (Below.size hS'))
  clear hb
  go_wp2_with fail
  refine hK.out _ _ hS' (fun hHeld => ?_)
  clear hK K
  refine take_yes 6 44 (v := ?_) rfl rfl (by kernel_rfl) (by kernel_rfl) (by kernel_rfl) (fun _ _ _ h => h) (by rfl) ?_ hHeld ?_
  rotate_left 1
  · (intro w hSw; go_simp; try with_reducible rfl)
  simp only [Act.put, List.setIfInBounds_toArray, List.set_cons_succ, List.set_cons_zero]
  refine take_yes 7 45 (v := ?_) rfl rfl (by kernel_rfl) (by kernel_rfl) (by kernel_rfl) (fun _ _ _ h => h) (by rfl) ?_ hHeld ?_
  rotate_left 1
  · (intro w hSw; go_simp; try with_reducible rfl)
  simp only [Act.put, List.setIfInBounds_toArray, List.set_cons_succ, List.set_cons_zero]
  refine take_yes 8 46 (v := ?_) rfl rfl (by kernel_rfl) (by kernel_rfl) (by kernel_rfl) (fun _ _ _ h => h) (by rfl) ?_ hHeld ?_
  rotate_left 1
  · (intro w hSw; go_simp; try with_reducible rfl)
  simp only [Act.put, List.setIfInBounds_toArray, List.set_cons_succ, List.set_cons_zero]
  refine take_load 9 47 30 w.heap.size [Value.slice a h.1.1.length c, .slice p h.1.2.length d, .int .i64 h.2.1, .slice q X.length gc] rfl rfl (by kernel_rfl) (by kernel_rfl) (by kernel_rfl) (fun _ _ _ h => h) (by rfl) (by rfl) (by rfl) (fun w hw => (HA.out.keep hw).range) Tryz.underlying30 rfl sizeHub hHeld ?_
  simp only [Act.put, List.setIfInBounds_toArray, List.set_cons_succ, List.set_cons_zero]
  refine take_load 10 48 30 (w.heap.size + 1 + 1) [Value.slice b0 o0 i0, .slice b1 o1 i1, .int .i64 g.2.1, .slice b3 o3 i3] rfl rfl (by kernel_rfl) (by kernel_rfl) (by kernel_rfl) (fun _ _ _ h => h) (by rfl) (by rfl) (by rfl) (fun w hw => (HGB.out.keep hw).range) Tryz.underlying30 rfl sizeHub hHeld ?_
  simp only [Act.put, List.setIfInBounds_toArray, List.set_cons_succ, List.set_cons_zero]
  refine take_load 12 50 30 w.heap.size [Value.slice a h.1.1.length c, .slice p h.1.2.length d, .int .i64 h.2.1, .slice q X.length gc] rfl rfl (by kernel_rfl) (by kernel_rfl) (by kernel_rfl) (fun _ _ _ h => h) (by rfl) (by rfl) (by rfl) (fun w hw => (HA.out.keep hw).range) Tryz.underlying30 rfl sizeHub hHeld ?_
  simp only [Act.put, List.setIfInBounds_toArray, List.set_cons_succ, List.set_cons_zero]
  refine take_load 13 51 30 (w.heap.size + 1 + 1) [Value.slice b0 o0 i0, .slice b1 o1 i1, .int .i64 g.2.1, .slice b3 o3 i3] rfl rfl (by kernel_rfl) (by kernel_rfl) (by kernel_rfl) (fun _ _ _ h => h) (by rfl) (by rfl) (by rfl) (fun w hw => (HGB.out.keep hw).range) Tryz.underlying30 rfl sizeHub hHeld ?_
  simp only [Act.put, List.setIfInBounds_toArray, List.set_cons_succ, List.set_cons_zero]
  refine wpAnyH_ready (rs := [11]) (by kernel_rfl) (by simp) ?_
  refine AllReadyH.cons rfl (fun K hK => ?_) AllReadyH.nil
  go_simp
  refine (usame_any _ _ _ h g (HIH.out.keep hS') (HIG.out.keep hS')).mono ?_
  rintro e wn ⟨rfl, hb⟩
  have hS' : Below w7.heap.size w7 wn := Below.trans hS' (hb.mono (Below.size hS'))
  clear hb
  go_wp2_with fail
  refine hK.out _ _ hS' (fun hHeld => ?_)
  clear hK K
  refine wpAnyH_ready (rs := [14]) (by kernel_rfl) (by simp) ?_
  refine AllReadyH.cons rfl (fun K hK => ?_) AllReadyH.nil
  go_simp
  refine (rsameHub_any _ _ _ h g (HIH.out.keep hS') (HIG.out.keep hS')).mono ?_
  rintro e wn ⟨rfl, hb⟩
  have hS' : Below w7.heap.size w7 wn := Below.trans hS' (hb.mono (Below.size hS'))
  clear hb
  go_wp2_with fail
  refine hK.out _ _ hS' (fun hHeld => ?_)
  clear hK K
  refine take_yes 15 53 (v := ?_) rfl rfl (by kernel_rfl) (by kernel_rfl) (by kernel_rfl) (fun _ _ _ h => h) (by rfl) ?_ hHeld ?_
  rotate_left 1
  · (intro w hSw; go_simp; try with_reducible rfl)
  simp only [Act.put, List.setIfInBounds_toArray, List.set_cons_succ, List.set_cons_zero]
  refine take_yes 16 54 (v := ?_) rfl rfl (by kernel_rfl) (by kernel_rfl) (by kernel_rfl) (fun _ _ _ h => h) (by rfl) ?_ hHeld ?_
  rotate_left 1
  · (intro w hSw; go_simp; try with_reducible rfl)
  simp only [Act.put, List.setIfInBounds_toArray, List.set_cons_succ, List.set_cons_zero]
  refine take_yes 17 55 (v := ?_) rfl rfl (by kernel_rfl) (by kernel_rfl) (by kernel_rfl) (fun _ _ _ h => h) (by rfl) ?_ hHeld ?_
  rotate_left 1
  · (intro w hSw; go_simp; try with_reducible rfl)
  simp only [Act.put, List.setIfInBounds_toArray, List.set_cons_succ, List.set_cons_zero]
  refine wpAnyH_ready (rs := [18]) (by kernel_rfl) (by simp) ?_
  refine AllReadyH.cons rfl (fun K hK => ?_) AllReadyH.nil
  go_simp
  refine (unew_any _).mono ?_
  rintro e wn ⟨n18, rfl, hnw, hb⟩
  have HNA := Lib.hid hnw.is
  clear hnw
  have hS' : Below w7.heap.size w7 wn := Below.trans hS' (hb.mono (Below.size hS'))
  clear hb
  go_wp2_with fail
  refine hK.out _ _ hS' (fun hHeld => ?_)
  clear hK K
  refine wpAnyH_ready (rs := [19]) (by kernel_rfl) (by simp) ?_
  refine AllReadyH.cons rfl (fun K hK => ?_) AllReadyH.nil
  go_simp
  refine (rfresh_any _).mono ?_
  rintro e wn ⟨n19, rfl, hnw, hb⟩
  have HNB := Lib.hid hnw.is
  replace HNA := Lib.hid (HNA.out.keep hb)
  clear hnw
  have hS' : Below w7.heap.size w7 wn := Below.trans hS' (hb.mono (Below.size hS'))
  clear hb
  go_wp2_with fail
  refine hK.out _ _ hS' (fun hHeld => ?_)
  clear hK K
  refine wpAnyH_ready (rs := [20]) (by kernel_rfl) (by simp) ?_
  refine AllReadyH.cons rfl (fun K hK => ?_) AllReadyH.nil
  go_simp
  refine (rsameHub_any _ _ _ newHb newHb HNA.out HNB.out).mono ?_
  rintro e wn ⟨rfl, hb⟩
  rw [sameH_refl]
  have hS' : Below w7.heap.size w7 wn := Below.trans hS' (hb.mono (Below.size hS'))
  clear hb
  go_wp2_with fail
  refine hK.out _ _ hS' (fun hHeld => ?_)
  clear hK K
  clear HNA HNB
  refine take_yes 21 59 (v := ?_) rfl rfl (by kernel_rfl) (by kernel_rfl) (by kernel_rfl) (fun _ _ _ h => h) (by rfl) ?_ hHeld ?_
  rotate_left 1
  · (intro w hSw; go_simp; try with_reducible rfl)
  simp only [Act.put, List.setIfInBounds_toArray, List.set_cons_succ, List.set_cons_zero]
  refine take_yes 22 60 (v := ?_) rfl rfl (by kernel_rfl) (by kernel_rfl) (by kernel_rfl) (fun _ _ _ h => h) (by rfl) ?_ hHeld ?_
  rotate_left 1
  · (intro w hSw; go_simp; try with_reducible rfl)
  simp only [Act.put, List.setIfInBounds_toArray, List.set_cons_succ, List.set_cons_zero]
  refine take_yes 23 61 (v := ?_) rfl rfl (by kernel_rfl) (by kernel_rfl) (by kernel_rfl) (fun _ _ _ h => h) (by rfl) ?_ hHeld ?_
  rotate_left 1
  · (intro w hSw; go_simp; try with_reducible rfl)
  simp only [Act.put, List.setIfInBounds_toArray, List.set_cons_succ, List.set_cons_zero]
  refine take_yes 24 62 (v := ?_) rfl rfl (by kernel_rfl) (by kernel_rfl) (by kernel_rfl) (fun _ _ _ h => h) (by rfl) ?_ hHeld ?_
  rotate_left 1
  · (intro w hSw; go_simp; try with_reducible rfl)
  simp only [Act.put, List.setIfInBounds_toArray, List.set_cons_succ, List.set_cons_zero]
  refine take_yes 25 63 (v := ?_) rfl rfl (by kernel_rfl) (by kernel_rfl) (by kernel_rfl) (fun _ _ _ h => h) (by rfl) ?_ hHeld ?_
  rotate_left 1
  · (intro w hSw; go_simp; try with_reducible rfl)
  simp only [Act.put, List.setIfInBounds_toArray, List.set_cons_succ, List.set_cons_zero]
  refine take_yes 26 64 (v := ?_) rfl rfl (by kernel_rfl) (by kernel_rfl) (by kernel_rfl) (fun _ _ _ h => h) (by rfl) ?_ hHeld ?_
  rotate_left 1
  · (intro w hSw; go_simp; try with_reducible rfl)
  simp only [Act.put, List.setIfInBounds_toArray, List.set_cons_succ, List.set_cons_zero]
  refine take_yes 27 65 (v := ?_) rfl rfl (by kernel_rfl) (by kernel_rfl) (by kernel_rfl) (fun _ _ _ h => h) (by rfl) ?_ hHeld ?_
  rotate_left 1
  · (intro w hSw; go_simp; try with_reducible rfl)
  simp only [Act.put, List.setIfInBounds_toArray, List.set_cons_succ, List.set_cons_zero]
  refine take_yes 28 66 (v := ?_) rfl rfl (by kernel_rfl) (by kernel_rfl) (by kernel_rfl) (fun _ _ _ h => h) (by rfl) ?_ hHeld ?_
  rotate_left 1
  · (intro w hSw; go_simp; try with_reducible rfl)
  simp only [Act.put, List.setIfInBounds_toArray, List.set_cons_succ, List.set_cons_zero]
  refine take_load 29 67 30 w1.heap.size [Value.slice e0 m0 d0, .slice e1 m1 d1, .int .i64 NH.2.1, .slice e3 m3 d3] rfl rfl (by kernel_rfl) (by kernel_rfl) (by kernel_rfl) (fun _ _ _ h => h) (by rfl) (by rfl) (by rfl) (fun w hw => (HP.out.keep hw).range) Tryz.underlying30 rfl sizeHub hHeld ?_
  simp only [Act.put, List.setIfInBounds_toArray, List.set_cons_succ, List.set_cons_zero]
  refine take_load 30 68 30 w5.heap.size [Value.slice y0 l0 j0, .slice y1 l1 j1, .int .i64 NH.2.1, .slice y3 l3 j3] rfl rfl (by kernel_rfl) (by kernel_rfl) (by kernel_rfl) (fun _ _ _ h => h) (by rfl) (by rfl) (by rfl) (fun w hw => (HZ.out.keep hw).range) Tryz.underlying30 rfl sizeHub hHeld ?_
  simp only [Act.put, List.setIfInBounds_toArray, List.set_cons_succ, List.set_cons_zero]
  refine wpAnyH_ready (rs := [31]) (by kernel_rfl) (by simp) ?_
  refine AllReadyH.cons rfl (fun K hK => ?_) AllReadyH.nil
  go_simp
  refine (rsameHub_any _ _ _ NH NH (HIN.out.keep hS') (HIM.out.keep hS')).mono ?_
  rintro e wn ⟨rfl, hb⟩
  rw [sameH_refl]
  have hS' : Below w7.heap.size w7 wn := Below.trans hS' (hb.mono (Below.size hS'))
  clear hb
  go_wp2_with fail
  refine hK.out _ _ hS' (fun hHeld => ?_)
  clear hK K
  refine take_yes 32 70 (v := ?_) rfl rfl (by kernel_rfl) (by kernel_rfl) (by kernel_rfl) (fun _ _ _ h => h) (by rfl) ?_ hHeld ?_
  rotate_left 1
  · (intro w hSw; go_simp; try with_reducible rfl)
  simp only [Act.put, List.setIfInBounds_toArray, List.set_cons_succ, List.set_cons_zero]
  refine take_yes 33 71 (v := ?_) rfl rfl (by kernel_rfl) (by kernel_rfl) (by kernel_rfl) (fun _ _ _ h => h) (by rfl) ?_ hHeld ?_
  rotate_left 1
  · (intro w hSw; go_simp; try with_reducible rfl)
  simp only [Act.put, List.setIfInBounds_toArray, List.set_cons_succ, List.set_cons_zero]
  refine wpAnyH_done (by kernel_rfl) ?_ _
  rename World => w8
  have HB8 : Hid (Below w.heap.size w w8) := HB7.out.trans (hS'.mono HB7.out.size)
  have hA8 := HA.out.keep hS'
  have hQ8 := HQ.out.keep hS'
  have HV8 := Lib.hid (HV.out.keep hS')
  clear hS' hHeld HIH HIG HIN HIM HA HGB HP HZ HQ HV HB7
  by_cases hbad : seesB h who = 0
  case neg =>
    obtain ⟨s1, s2, s3, s4⟩ := sees_bad hbad
    obtain ⟨t1, t2, t3, t4⟩ := HSEE.out
    obtain rfl : SR = [] := by rw [← t2, s2]
    obtain rfl : SK = [] := by rw [← t3, s3]
    obtain rfl : SW = [] := by rw [← t4, s4]
    have hSE : SE = seesB h who := by rw [← t1, s1]
    have HSM : Hid (∀ W', Below w8.heap.size w8 W' → Calls Tryz.prog 17 #[viV (.slice f0 ([] : List Int).length k0) (.slice f1 ([] : List Pl).length k1) (.slice f3 ([] : List Pl).length k3), viV (.slice none ([] : List Int).length 0) (.slice none ([] : List Pl).length 0) (.slice none ([] : List Pl).length 0)] W' fun e w' => e = .returned (.bool true) ∧ Below W'.heap.size W' w') := by
      intro W' hw
      have hc := rsameV_any W' f0 f1 f3 none none none k0 k1 k3 0 0 0 [] [] [] [] [] [] (by simp) (by simp) (by simp) (Or.inl rfl) (Or.inl rfl) (Or.inl rfl) (Or.inl rfl) (Or.inl rfl) (Or.inl rfl)
      rw [sameV_self] at hc
      exact hc
    clear s1 s2 s3 s4 t1 t2 t3 t4 HSEE HV8 hA8
    have z0 := hQ8.at 0 rfl
    have z1 := hQ8.at 1 rfl
    have z2 := hQ8.at 2 rfl
    by_cases hz : hubE h = 0
    · have hw : who < 0 ∨ 3 ≤ who := by
        unfold seesB at hbad
        rw [if_neg (by simp [hz])] at hbad
        by_cases hw : who < 0 ∨ 3 ≤ who
        · exact hw
        · rw [if_neg hw] at hbad; exact absurd rfl hbad
      obtain rfl : SE = 5 := by rw [hSE]; unfold seesB; rw [if_neg (by simp [hz]), if_pos hw]
      rw [hz]
      clear hz hbad hSE
      by_cases hw1 : who < 0
      · have d1 : decide (who < 0) = true := decide_eq_true hw1
        clear hw hw1
        go_wp2_with fail
        refine (HSM.out _ (Below.refl _ _)).mono ?_
        rintro e w9 ⟨rfl, hb⟩
        have HB9 := Lib.hid (HB8.out.trans (hb.mono HB8.out.size))
        clear hb HSM z0 z1 z2 hQ8
        go_wp2
        go_ret
        exact ⟨rfl, HB9.out⟩
      · have d1 : decide (who < 0) = false := decide_eq_false hw1
        have d2 : decide (who > 2) = true := decide_eq_true (by omega)
        clear hw hw1
        go_wp2_with fail
        refine (HSM.out _ (Below.refl _ _)).mono ?_
        rintro e w9 ⟨rfl, hb⟩
        have HB9 := Lib.hid (HB8.out.trans (hb.mono HB8.out.size))
        clear hb HSM z0 z1 z2 hQ8
        go_wp2
        go_ret
        exact ⟨rfl, HB9.out⟩
    · obtain rfl : SE = hubE h := by rw [hSE]; unfold seesB; rw [if_pos hz]
      have d0 : (hubE h == 0) = false := by simpa using hz
      have d1 : (hubE h != 0) = true := by simpa using hz
      have d2 : (hubE h == hubE h) = true := by simp
      clear hz hbad hSE
      generalize hubE h = OE at *
      go_wp2_with fail
      refine (HSM.out _ (Below.refl _ _)).mono ?_
      rintro e w9 ⟨rfl, hb⟩
      have HB9 := Lib.hid (HB8.out.trans (hb.mono HB8.out.size))
      clear hb HSM z0 z1 z2 hQ8
      go_wp2
      go_ret
      exact ⟨rfl, HB9.out⟩
  have hz : hubE h = 0 := by
    by_cases hz : hubE h = 0
    · exact hz
    · unfold seesB at hbad; rw [if_pos hz] at hbad; exact absurd hbad hz
  have hw : ¬ (who < 0 ∨ 3 ≤ who) := by
    intro hw
    unfold seesB at hbad
    rw [if_neg (by simp [hz]), if_pos hw] at hbad
    omega
  have HG := Lib.hid (sees_ok hbad)
  obtain ⟨f1', f2', f3', f4'⟩ := hub_few hz
  obtain ⟨k, rfl⟩ : ∃ k : Nat, who = (k : Int) := ⟨who.toNat, by omega⟩
  have hk3 : k < 3 := by omega
  have hl3 : X.length = 3 := by have := f3'; rw [← HX.out.are] at this; simpa using this
  have hkl : k < X.length := by omega
  have HPP := Lib.hid (prOf_at HX.out.are k hkl)
  obtain ⟨bq, oq, hqe, hbq, hrq⟩ := HX.out.peers.reads.at prC_len k hkl
  subst hqe
  obtain ⟨-, -, g2⟩ := pr_cells hrq
  have g2' : w8.cell? ⟨bq, oq + k * 3 + 2, none⟩ = some (.slice X[k].2.1 X[k].1.2.2.length X[k].2.2) := by rw [HB8.out.cell (by exact hbq)]; exact g2
  have HPI := Lib.hid (HX.out.peers.roots _ (List.getElem_mem hkl))
  have hbq8 : bq < w8.heap.size := Nat.lt_of_lt_of_le hbq HB8.out.size
  have HLN : Hid (SR.length ≤ maxLen ∧ SK.length ≤ maxLen ∧ SW.length ≤ maxLen) := by
    obtain ⟨t1, t2, t3, t4⟩ := HSEE.out
    obtain ⟨s1, s2, s3, s4⟩ := HG.out
    rw [← t2, ← t3, ← t4, s2, s3, s4]
    have i1 := ofR_len h.1.2 (prOf h k).2.2
    have i2 := ofK_len h.1.2 (prOf h k).2.2
    have i3 := ofW_len h.1.2 (prOf h k).2.2
    have i4 := HPI.out.2
    rw [HPP.out] at i4
    refine ⟨Nat.le_trans i1 i4, ?_, ?_⟩ <;> (unfold maxLen; omega)
  have CALLS : Hid (∀ W', Below w8.heap.size w8 W' → Calls Tryz.prog 18 #[.agg #[.slice p h.1.2.length d], .slice X[k].2.1 X[k].1.2.2.length X[k].2.2] W' (Gives (ViX (Old w8.heap.size W'.heap.size) SR SK SW) W' SE)) := by
    intro W' hw'
    obtain ⟨t1, t2, t3, t4⟩ := HSEE.out
    obtain ⟨s1, s2, s3, s4⟩ := HG.out
    rw [← t1, ← t2, ← t3, ← t4, s1, s2, s3, s4, ← HPP.out]
    have hwW := HB8.out.trans (hw'.mono HB8.out.size)
    refine (rseen_any W' p X[k].2.1 d X[k].2.2 h.1.2 X[k].1.2.2 HX.out.few2 HPI.out.2 (HX.out.places.below hwW) (HPI.out.1.below hwW)).mono ?_
    intro e w' hv
    refine views_gives hv ?_
    have hin : InL (· < w8.heap.size) X[k].2.1 X[k].1.2.2 := (HPI.out.1.isin).imp (fun b hb => Nat.lt_of_lt_of_le hb HB8.out.size)
    unfold ofR
    split
    · exact Or.inl rfl
    · exact hin
  rw [hl3] at hA8
  rw [hz]
  generalize X[k] = x at *
  obtain ⟨⟨ff, uu, R⟩, ax, cx⟩ := x
  simp only at g2' CALLS
  have hlti : (k : Int) < 3 := by omega
  have hd1 : decide ((k : Int) < 0) = false := by simp
  have hd2 : decide ((k : Int) > 2) = false := by simp; omega
  clear hz hw hbad HSEE HG f1' f2' f3' f4' hl3 hkl HPP hrq g2 HPI HX HH
  go_upto_region 11 with fail
  go_cut [16, 17] from 92 to 104 (fun r e wc => ∃ b vs, r = .pointer (some ⟨b, 0, none⟩) ∧ e = .int .i64 SE ∧ Blk wc b vs ∧ ViX (fun _ => True) SR SK SW wc vs ∧ w8.heap.size ≤ b ∧ Below w8.heap.size w8 wc)
  case first =>
    refine wp_region_held_drew (S := fun w' => Below w8.heap.size w8 w') (by kernel_rfl) ((Below.refl _ w8).drew) (fun hHeld => ?_)
    refine take_yes 0 93 (v := ?_) rfl rfl (by kernel_rfl) (by kernel_rfl) (by kernel_rfl) (fun _ _ _ h => h) (by rfl) ?_ hHeld ?_
    rotate_left 1
    · (intro w hSw; have s1 := (hA8.keep hSw).at 1 rfl; have s3 := (hA8.keep hSw).at 3 rfl; have s2 := (hSw.cell (by exact hbq8)).trans g2'; go_simp; try with_reducible rfl)
    simp only [Act.put, List.setIfInBounds_toArray, List.set_cons_succ, List.set_cons_zero]
    refine take_yes 1 94 (v := ?_) rfl rfl (by kernel_rfl) (by kernel_rfl) (by kernel_rfl) (fun _ _ _ h => h) (by rfl) ?_ hHeld ?_
    rotate_left 1
    · (intro w hSw; have s1 := (hA8.keep hSw).at 1 rfl; have s3 := (hA8.keep hSw).at 3 rfl; have s2 := (hSw.cell (by exact hbq8)).trans g2'; go_simp; try with_reducible rfl)
    simp only [Act.put, List.setIfInBounds_toArray, List.set_cons_succ, List.set_cons_zero]
    refine take_yes 2 95 (v := ?_) rfl rfl (by kernel_rfl) (by kernel_rfl) (by kernel_rfl) (fun _ _ _ h => h) (by rfl) ?_ hHeld ?_
    rotate_left 1
    · (intro w hSw; have s1 := (hA8.keep hSw).at 1 rfl; have s3 := (hA8.keep hSw).at 3 rfl; have s2 := (hSw.cell (by exact hbq8)).trans g2'; go_simp; try with_reducible rfl)
    simp only [Act.put, List.setIfInBounds_toArray, List.set_cons_succ, List.set_cons_zero]
    refine take_yes 3 96 (v := ?_) rfl rfl (by kernel_rfl) (by kernel_rfl) (by kernel_rfl) (fun _ _ _ h => h) (by rfl) ?_ hHeld ?_
    rotate_left 1
    · (intro w hSw; have s1 := (hA8.keep hSw).at 1 rfl; have s3 := (hA8.keep hSw).at 3 rfl; have s2 := (hSw.cell (by exact hbq8)).trans g2'; go_simp; try with_reducible rfl)
    simp only [Act.put, List.setIfInBounds_toArray, List.set_cons_succ, List.set_cons_zero]
    refine take_yes 4 97 (v := ?_) rfl rfl (by kernel_rfl) (by kernel_rfl) (by kernel_rfl) (fun _ _ _ h => h) (by rfl) ?_ hHeld ?_
    rotate_left 1
    · (intro w hSw; have s1 := (hA8.keep hSw).at 1 rfl; have s3 := (hA8.keep hSw).at 3 rfl; have s2 := (hSw.cell (by exact hbq8)).trans g2'; go_simp; try with_reducible rfl)
    simp only [Act.put, List.setIfInBounds_toArray, List.set_cons_succ, List.set_cons_zero]
    refine take_yes 5 98 (v := ?_) rfl rfl (by kernel_rfl) (by kernel_rfl) (by kernel_rfl) (fun _ _ _ h => h) (by rfl) ?_ hHeld ?_
    rotate_left 1
    · (intro w hSw; have s1 := (hA8.keep hSw).at 1 rfl; have s3 := (hA8.keep hSw).at 3 rfl; have s2 := (hSw.cell (by exact hbq8)).trans g2'; go_simp; try with_reducible rfl)
    simp only [Act.put, List.setIfInBounds_toArray, List.set_cons_succ, List.set_cons_zero]
    refine take_yes 6 99 (v := ?_) rfl rfl (by kernel_rfl) (by kernel_rfl) (by kernel_rfl) (fun _ _ _ h => h) (by rfl) ?_ hHeld ?_
    rotate_left 1
    · (intro w hSw; have s1 := (hA8.keep hSw).at 1 rfl; have s3 := (hA8.keep hSw).at 3 rfl; have s2 := (hSw.cell (by exact hbq8)).trans g2'; go_simp; try with_reducible rfl)
    simp only [Act.put, List.setIfInBounds_toArray, List.set_cons_succ, List.set_cons_zero]
    refine take_yes 7 100 (v := ?_) rfl rfl (by kernel_rfl) (by kernel_rfl) (by kernel_rfl) (fun _ _ _ h => h) (by rfl) ?_ hHeld ?_
    rotate_left 1
    · (intro w hSw; have s1 := (hA8.keep hSw).at 1 rfl; have s3 := (hA8.keep hSw).at 3 rfl; have s2 := (hSw.cell (by exact hbq8)).trans g2'; go_simp; try with_reducible rfl)
    simp only [Act.put, List.setIfInBounds_toArray, List.set_cons_succ, List.set_cons_zero]
    refine take_yes 8 101 (v := ?_) rfl rfl (by kernel_rfl) (by kernel_rfl) (by kernel_rfl) (fun _ _ _ h => h) (by rfl) ?_ hHeld ?_
    rotate_left 1
    · (intro w hSw; have s1 := (hA8.keep hSw).at 1 rfl; have s3 := (hA8.keep hSw).at 3 rfl; have s2 := (hSw.cell (by exact hbq8)).trans g2'; go_simp; try with_reducible rfl)
    simp only [Act.put, List.setIfInBounds_toArray, List.set_cons_succ, List.set_cons_zero]
    refine wpAnyH_ready (rs := [9, 13]) (by kernel_rfl) (by simp) ?_
    refine AllReadyH.cons rfl (fun KK hKK => ?_) (AllReadyH.cons rfl (fun KK hKK => ?_) AllReadyH.nil)
    · skip
      go_simp
      refine (CALLS.out _ hHeld).mono ?_
      rintro e w7 ⟨vs, rfl, hQ, hb7⟩
      have hS7 : Below w8.heap.size w8 w7 := hHeld.trans (hb7.mono hHeld.size)
      have hgt7 : w8.heap.size ≤ w7.heap.size := hS7.size
      have hlen := hQ.len
      go_wp2_with fail
      refine hKK.out _ _ (hS7) (fun hHeld => ?_)
      clear hKK KK
      refine take_yes 10 92 (v := ?_) rfl rfl (by kernel_rfl) (by kernel_rfl) (by kernel_rfl) (fun _ _ _ h => h) (by rfl) ?_ hHeld ?_
      rotate_left 1
      · (intro w hSw; go_simp; try with_reducible rfl)
      simp only [Act.put, List.setIfInBounds_toArray, List.set_cons_succ, List.set_cons_zero]
      refine take_yes 11 103 (v := ?_) rfl rfl (by kernel_rfl) (by kernel_rfl) (by kernel_rfl) (fun _ _ _ h => h) (by rfl) ?_ hHeld ?_
      rotate_left 1
      · (intro w hSw; go_simp; try with_reducible rfl)
      simp only [Act.put, List.setIfInBounds_toArray, List.set_cons_succ, List.set_cons_zero]
      refine take_yes 12 104 (v := ?_) rfl rfl (by kernel_rfl) (by kernel_rfl) (by kernel_rfl) (fun _ _ _ h => h) (by rfl) ?_ hHeld ?_
      rotate_left 1
      · (intro w hSw; go_simp; try with_reducible rfl)
      simp only [Act.put, List.setIfInBounds_toArray, List.set_cons_succ, List.set_cons_zero]
      refine wpAnyH_ready (rs := [13]) (by kernel_rfl) (by simp) ?_
      refine AllReadyH.cons rfl (fun KK hKK => ?_) AllReadyH.nil
      go_simp
      have hN := (Blk.new w7 [Value.slice none 0 0, .slice none 0 0, .slice none 0 0] 42)
      refine hKK.out _ _ (hHeld.alloc hHeld.size _) (fun hHeld => ?_)
      clear hKK KK
      refine step_store 14 42 w7.heap.size vs (by kernel_rfl) rfl rfl (by rfl) (by rfl) (by rfl) (by rfl) (by rw [hlen]; exact hN.there) (by rw [hlen]; exact sizeView) hQ.one (below_sets hHeld w7.heap.size (by omega) vs 0) ?_
      have hHeld := below_sets hHeld w7.heap.size (by omega) vs 0
      refine take_yes 15 17 (v := ?_) rfl rfl (by kernel_rfl) (by kernel_rfl) (by kernel_rfl) (fun _ _ _ h => h) (by rfl) ?_ hHeld ?_
      rotate_left 1
      · (intro w hSw; go_simp; try with_reducible rfl)
      simp only [Act.put, List.setIfInBounds_toArray, List.set_cons_succ, List.set_cons_zero]
      refine wpAnyH_done (by kernel_rfl) ?_ _
      have HHeld : Hid (Below w8.heap.size w8 ((w7.alloc (Obj.cells [Value.slice none 0 0, .slice none 0 0, .slice none 0 0].toArray 42)).setCells w7.heap.size 0 vs)) := hHeld
      have HR : Hid (ViX (fun _ => True) SR SK SW ((w7.alloc (Obj.cells [Value.slice none 0 0, .slice none 0 0, .slice none 0 0].toArray 42)).setCells w7.heap.size 0 vs) vs) := ((hQ.lowD.keep (Go.Joins.below_alloc1 w7 _)).sets w7.heap.size (fun b hb => Nat.ne_of_lt hb.2) vs 0).imp (fun _ _ => trivial)
      have HBk : Hid (Blk ((w7.alloc (Obj.cells [Value.slice none 0 0, .slice none 0 0, .slice none 0 0].toArray 42)).setCells w7.heap.size 0 vs) w7.heap.size vs) := hN.sets vs (by rw [hlen]; rfl)
      clear hHeld hQ hb7 hS7
      go_wp2
      go_meet
      case rel => exact ⟨_, vs, rfl, rfl, HBk.out, HR.out, by omega, HHeld.out⟩
    · skip
      go_simp
      have hN := (Blk.new w8 [Value.slice none 0 0, .slice none 0 0, .slice none 0 0] 42).drew
      refine hKK.out _ _ (hHeld.alloc hHeld.size _) (fun hHeld => ?_)
      clear hKK KK
      have hszB := hHeld.size
      refine wpAnyH_ready (rs := [9]) (by kernel_rfl) (by simp) ?_
      refine AllReadyH.cons rfl (fun KK hKK => ?_) AllReadyH.nil
      go_simp
      refine (CALLS.out _ hHeld).mono ?_
      rintro e w7 ⟨vs, rfl, hQ, hb7⟩
      have hS7 : Below w8.heap.size w8 w7 := hHeld.trans (hb7.mono hHeld.size)
      have hgt7 : w8.heap.size ≤ w7.heap.size := hS7.size
      have hN7 := hN.keep hb7
      have hlt7 : w8.heap.size < w7.heap.size := hN7.lt
      have hlen := hQ.len
      go_wp2_with fail
      refine hKK.out _ _ (hS7) (fun hHeld => ?_)
      clear hKK KK
      refine take_yes 10 92 (v := ?_) rfl rfl (by kernel_rfl) (by kernel_rfl) (by kernel_rfl) (fun _ _ _ h => h) (by rfl) ?_ hHeld ?_
      rotate_left 1
      · (intro w hSw; go_simp; try with_reducible rfl)
      simp only [Act.put, List.setIfInBounds_toArray, List.set_cons_succ, List.set_cons_zero]
      refine take_yes 11 103 (v := ?_) rfl rfl (by kernel_rfl) (by kernel_rfl) (by kernel_rfl) (fun _ _ _ h => h) (by rfl) ?_ hHeld ?_
      rotate_left 1
      · (intro w hSw; go_simp; try with_reducible rfl)
      simp only [Act.put, List.setIfInBounds_toArray, List.set_cons_succ, List.set_cons_zero]
      refine take_yes 12 104 (v := ?_) rfl rfl (by kernel_rfl) (by kernel_rfl) (by kernel_rfl) (fun _ _ _ h => h) (by rfl) ?_ hHeld ?_
      rotate_left 1
      · (intro w hSw; go_simp; try with_reducible rfl)
      simp only [Act.put, List.setIfInBounds_toArray, List.set_cons_succ, List.set_cons_zero]
      refine step_store 14 42 w8.heap.size vs (by kernel_rfl) rfl rfl (by rfl) (by rfl) (by rfl) (by rfl) (by rw [hlen]; exact hN7.there) (by rw [hlen]; exact sizeView) hQ.one (below_sets hHeld w8.heap.size (by omega) vs 0) ?_
      have hHeld := below_sets hHeld w8.heap.size (by omega) vs 0
      refine take_yes 15 17 (v := ?_) rfl rfl (by kernel_rfl) (by kernel_rfl) (by kernel_rfl) (fun _ _ _ h => h) (by rfl) ?_ hHeld ?_
      rotate_left 1
      · (intro w hSw; go_simp; try with_reducible rfl)
      simp only [Act.put, List.setIfInBounds_toArray, List.set_cons_succ, List.set_cons_zero]
      refine wpAnyH_done (by kernel_rfl) ?_ _
      have HHeld : Hid (Below w8.heap.size w8 (w7.setCells w8.heap.size 0 vs)) := hHeld
      have HR : Hid (ViX (fun _ => True) SR SK SW (w7.setCells w8.heap.size 0 vs) vs) := (hQ.sets w8.heap.size (old_ne hN.lt) vs 0).imp (fun _ _ => trivial)
      have HBk : Hid (Blk (w7.setCells w8.heap.size 0 vs) w8.heap.size vs) := hN7.sets vs (by rw [hlen]; rfl)
      clear hHeld hQ hb7 hS7
      go_wp2
      go_meet
      case rel => exact ⟨_, vs, rfl, rfl, HBk.out, HR.out, by omega, HHeld.out⟩
  case rest =>
    obtain ⟨lb, vs, rfl, rfl, hbk, hQ, hge, hbc⟩ := hcut
    have hQ9 := hQ8.keep hbc
    have HB9 := Lib.hid (HB8.out.trans (hbc.mono HB8.out.size))
    have HV9 := Lib.hid (HV8.out.keep hbc)
    obtain ⟨y0', i0', y1', i1', y3', i3', rfl⟩ := hQ.three
    have HSM : Hid (Calls Tryz.prog 17 #[viV (.slice f0 SR.length k0) (.slice f1 SK.length k1) (.slice f3 SW.length k3), viV (.slice y0' SR.length i0') (.slice y1' SK.length i1') (.slice y3' SW.length i3')] wc fun e w' => e = .returned (.bool true) ∧ Below wc.heap.size wc w') := by
      obtain ⟨x0, x1, x2, z0, z1, z2, e1, h1, h2, h3, -⟩ := HV9.out
      simp only [List.cons.injEq, Value.slice.injEq, true_and, and_true] at e1
      obtain ⟨⟨rfl, rfl⟩, ⟨rfl, rfl⟩, rfl, rfl⟩ := e1
      obtain ⟨x0, x1, x2, z0, z1, z2, e2, h4, h5, h6, -⟩ := hQ
      simp only [List.cons.injEq, Value.slice.injEq, true_and, and_true] at e2
      obtain ⟨⟨rfl, rfl⟩, ⟨rfl, rfl⟩, rfl, rfl⟩ := e2
      have hc := rsameV_any wc _ _ _ _ _ _ k0 k1 k3 i0' i1' i3' SR SR SK SK SW SW HLN.out.1 HLN.out.2.1 HLN.out.2.2 h1 h2 h3 h4 h5 h6
      rw [sameV_self] at hc
      exact hc
    have z0 := hQ9.at 0 rfl
    have z1 := hQ9.at 1 rfl
    have z2 := hQ9.at 2 rfl
    have l0' := hbk.at 0 rfl
    have l1' := hbk.at 1 rfl
    have l2' := hbk.at 2 rfl
    have dd : (SE == SE) = true := by simp
    clear hQ hbc hQ8 HV8 HV9 CALLS HLN hA8 g2' HB8
    go_wp2_with fail
    refine HSM.out.mono ?_
    rintro e w10 ⟨rfl, hb⟩
    have HB10 := Lib.hid (HB9.out.trans (hb.mono HB9.out.size))
    clear hb HSM z0 z1 z2 l0' l1' l2' hQ9 hbk dd
    go_wp2
    go_ret
    exact ⟨rfl, HB10.out⟩
end Go.Proofs.YthlhnokgcnieeadGreat

/- A tree that came in as an argument: which places it holds. -/
namespace Go.Proofs.YthlhnokgcnieeadGreat
open Go.ChangeShapes Go.WideShapes Go.ChangeAt Go.RowKit
open Orangery (Pl)

theorem cells3_of {w : World} {base : Nat} {a : Addr} {cs : List Value} (h : w.cells? base a 3 = some cs) :
    ∃ x y z, cs = [x, y, z] ∧ w.cell? (a.add 0) = some x ∧ w.cell? (a.add 1) = some y ∧ w.cell? (a.add 2) = some z := by
  unfold World.cells? at h
  split at h
  · simp only [show List.range 3 = [0, 1, 2] from rfl, List.mapM_cons, List.mapM_nil] at h
    cases h0 : w.cell? (a.add 0) with
    | none => simp [h0] at h
    | some x =>
      cases h1 : w.cell? (a.add 1) with
      | none => simp [h0, h1] at h
      | some y =>
        cases h2 : w.cell? (a.add 2) with
        | none => simp [h0, h1, h2] at h
        | some z =>
          simp [h0, h1, h2] at h
          exact ⟨x, y, z, h.symm, rfl, rfl, rfl⟩
  · simp at h

theorem add_at (b off i : Nat) : (⟨b, off, none⟩ : Addr).add i = ⟨b, off + i, none⟩ := by
  unfold Addr.add
  by_cases hz : i = 0 <;> simp [hz]

/-- a slice of places that is read -/
theorem open_places {H : Type} {enc : TypeId × Value → H} {w : World} {base fuel : Nat} {spare : Nat → Bool} {held : Bool} {v : Value} {x : DataW H × List MemPlace}
    (h : DataW.trod enc Tryz.prog w base spare held fuel 23 [v] = some x) : ∃ a c, ∃ l : List Pl, v = .slice a l.length c ∧ l.length ≤ maxLen ∧ SlP w a l := by
  rcases Go.Deep.open_slice Tryz.underlying23 h with ⟨hcs, _⟩ | ⟨a, len, cap, m, n, D, Pq, hcs, _, hle, hm, hmm, _, hel⟩
  · simp at hcs
    subst hcs
    exact ⟨none, 0, [], rfl, by simp, Or.inl rfl⟩
  · simp at hcs
    subst hcs
    have hlm : len ≤ m := by rw [hmm]; split <;> omega
    have hC : Tryz.prog.cellsOf 64 = 3 := by kernel_rfl
    have hI : Tryz.prog.cellsOf 3 = 1 := by kernel_rfl
    have key : ∀ i, i < len → ∃ q : Pl, w.cell? ((a.add (i * 3)).add 0) = some (.int .i64 q.1) ∧ w.cell? ((a.add (i * 3)).add 1) = some (.int .i64 q.2.1) ∧ w.cell? ((a.add (i * 3)).add 2) = some (.int .i64 q.2.2) := by
      intro i hi
      obtain ⟨cs', h1, h2⟩ := hel i (by omega)
      rw [hC] at h1
      obtain ⟨x, y, z, rfl, c0, c1, c2⟩ := cells3_of h1
      obtain ⟨y0, y1, y2, n', _, _, t0, t1, t2⟩ := Go.Deep.trod_struct3 Tryz.underlying64 h2
      simp [hI] at t0 t1 t2
      obtain ⟨q0, e0, _, _⟩ := DataW.trod_int Tryz.underlying3 t0
      obtain ⟨q1, e1, _, _⟩ := DataW.trod_int Tryz.underlying3 t1
      obtain ⟨q2, e2, _, _⟩ := DataW.trod_int Tryz.underlying3 t2
      simp at e0 e1 e2
      subst e0 e1 e2
      exact ⟨(q0, q1, q2), c0, c1, c2⟩
    obtain ⟨f, hf⟩ := Go.Deep.choose_lt key
    refine ⟨some a, cap, (List.range len).map f, by simp, by simp; omega, ?_⟩
    by_cases hz : len = 0
    · exact Or.inl (by simp [hz])
    · right
      have h0 := (hf 0 (by omega)).1
      obtain ⟨b, off, spot⟩ := a
      have hspot : spot = none := by simpa [Addr.add] using World.cell?_spot h0
      subst hspot
      have hb : b < w.heap.size := by
        have := World.block_lt_of_cell? w _ h0
        rw [add_at, add_at] at this
        exact this
      refine ⟨b, off, rfl, hb, fun i hi => ?_⟩
      have hi' : i < len := by simpa using hi
      have := hf i hi'
      rw [add_at, add_at, add_at, add_at] at this
      simpa using this

set_option maxRecDepth 100000 in
/-- a tree that came in -/
theorem open_tree {H : Type} {enc : TypeId × Value → H} {w : World} {r : Reach} {b0 base : Nat} {spare : Nat → Bool} {held : Bool} {v : Value} {d : DataW H} {p : List MemPlace}
    (hv : Value.okWide Tryz.prog w r b0 25 v) (h : DataW.Trod enc Tryz.prog w base spare held 25 v d p) : ∃ a c, ∃ l : List Pl, v = .agg #[.slice a l.length c] ∧ l.length ≤ maxLen ∧ SlP w a l := by
  obtain ⟨cs, rfl, hsz⟩ := okWide_struct Tryz.underlying25 hv
  have hC : Tryz.prog.cellsOf 25 = 1 := by kernel_rfl
  have hD : Tryz.prog.cellsOf 23 = 1 := by kernel_rfl
  rw [hC] at hsz
  obtain ⟨c0, rfl⟩ : ∃ c0, cs = #[c0] := by
    have h1 : cs.toList.length = 1 := by simpa using hsz
    obtain ⟨x, hx⟩ := List.length_eq_one_iff.1 h1
    exact ⟨x, by cases cs; simp_all⟩
  obtain ⟨fuel, hf⟩ := h
  obtain ⟨y0, n, _, _, h0⟩ := trod_struct1 Tryz.underlying25 hf
  simp [Value.cells, hD] at h0
  obtain ⟨a, c, l, rfl, h1, h2⟩ := open_places h0
  exact ⟨a, c, l, rfl, h1, h2⟩
end Go.Proofs.YthlhnokgcnieeadGreat

/- Operations and steps that came in as arguments. -/
namespace Go.Proofs.YthlhnokgcnieeadGreat
open Go.ChangeShapes Go.WideShapes Go.ChangeAt Go.RowKit
open Orangery (Pl Mv Stp)

theorem list7 {cs : List Value} (h : cs.length = 7) : ∃ a b c d e f g, cs = [a, b, c, d, e, f, g] := by
  match cs, h with
  | [a, b, c, d, e, f, g], _ => exact ⟨a, b, c, d, e, f, g, rfl⟩
theorem list11 {cs : List Value} (h : cs.length = 11) : ∃ a b c d e f g i j k l, cs = [a, b, c, d, e, f, g, i, j, k, l] := by
  match cs, h with
  | [a, b, c, d, e, f, g, i, j, k, l], _ => exact ⟨a, b, c, d, e, f, g, i, j, k, l, rfl⟩

set_option maxRecDepth 100000 in
theorem open_opC {H : Type} {enc : TypeId × Value → H} {w : World} {base fuel : Nat} {spare : Nat → Bool} {held : Bool} {cs : List Value} {x : DataW H × List MemPlace}
    (h : DataW.trod enc Tryz.prog w base spare held fuel 35 cs = some x) : ∃ o : Mv, cs = opC o := by
  obtain ⟨xs, n, _, _, hl, hlen, hf⟩ := DataW.trod_struct Tryz.underlying35 h
  have hC : Tryz.prog.cellsOf 35 = 7 := by kernel_rfl
  have hI : Tryz.prog.cellsOf 3 = 1 := by kernel_rfl
  have hT : Tryz.prog.cellsOf 33 = 2 := by kernel_rfl
  rw [hC] at hl
  obtain ⟨c0, c1, c2, c3, c4, c5, c6, rfl⟩ := list7 hl
  have hx : xs.length = 6 := hlen
  have g0 := hf 0 _ rfl
  have g1 := hf 1 _ rfl
  have g2 := hf 2 _ rfl
  have g3 := hf 3 _ rfl
  have g4 := hf 4 _ rfl
  have g5 := hf 5 _ rfl
  simp [hI, hT] at g0 g1 g2 g3 g4 g5
  rw [List.getElem?_eq_getElem (by omega)] at g0 g1 g2 g3 g4 g5
  obtain ⟨o3, e3, _, _⟩ := DataW.trod_int Tryz.underlying3 g1
  obtain ⟨o4, e4, _, _⟩ := DataW.trod_int Tryz.underlying3 g2
  obtain ⟨o5, e5, _, _⟩ := DataW.trod_int Tryz.underlying3 g3
  obtain ⟨o6, e6, _, _⟩ := DataW.trod_int Tryz.underlying3 g4
  obtain ⟨o7, e7, _, _⟩ := DataW.trod_int Tryz.underlying3 g5
  obtain ⟨y0, y1, n', _, _, t0, t1⟩ := trod_struct2 Tryz.underlying33 g0
  simp [hI] at t0 t1
  obtain ⟨o1, e1, _, _⟩ := DataW.trod_int Tryz.underlying3 t0
  obtain ⟨o2, e2, _, _⟩ := DataW.trod_int Tryz.underlying3 t1
  simp at e1 e2 e3 e4 e5 e6 e7
  subst e1 e2 e3 e4 e5 e6 e7
  exact ⟨(o1, o2, (o3, o4, o5), o6, o7), rfl⟩

set_option maxRecDepth 100000 in
/-- an operation that came in -/
theorem open_op {H : Type} {enc : TypeId × Value → H} {w : World} {r : Reach} {b0 base : Nat} {spare : Nat → Bool} {held : Bool} {v : Value} {d : DataW H} {p : List MemPlace}
    (hv : Value.okWide Tryz.prog w r b0 35 v) (h : DataW.Trod enc Tryz.prog w base spare held 35 v d p) : ∃ o : Mv, v = opV o := by
  obtain ⟨cs, rfl, hsz⟩ := okWide_struct Tryz.underlying35 hv
  obtain ⟨fuel, hf⟩ := h
  obtain ⟨o, ho⟩ := open_opC hf
  refine ⟨o, ?_⟩
  have : cs = (opC o).toArray := by rw [← ho]; simp [Value.cells]
  rw [this]
  rfl

set_option maxRecDepth 100000 in
theorem open_stC {H : Type} {enc : TypeId × Value → H} {w : World} {base fuel : Nat} {spare : Nat → Bool} {held : Bool} {cs : List Value} {x : DataW H × List MemPlace}
    (h : DataW.trod enc Tryz.prog w base spare held fuel 95 cs = some x) : ∃ s : Stp, cs = stC s := by
  obtain ⟨y0, y1, y2, n, _, hl, t0, t1, t2⟩ := Go.Deep.trod_struct3 Tryz.underlying95 h
  have hC : Tryz.prog.cellsOf 95 = 11 := by kernel_rfl
  have hO : Tryz.prog.cellsOf 35 = 7 := by kernel_rfl
  have hB : Tryz.prog.cellsOf 4 = 1 := by kernel_rfl
  have hP : Tryz.prog.cellsOf 64 = 3 := by kernel_rfl
  have hI : Tryz.prog.cellsOf 3 = 1 := by kernel_rfl
  rw [hC] at hl
  obtain ⟨c0, c1, c2, c3, c4, c5, c6, c7, c8, c9, c10, rfl⟩ := list11 hl
  simp [hO, hB, hP] at t0 t1 t2
  obtain ⟨o, ho⟩ := open_opC t0
  obtain ⟨b, hb, _⟩ := DataW.trod_bool Tryz.underlying4 t1
  obtain ⟨z0, z1, z2, n', _, _, q0, q1, q2⟩ := Go.Deep.trod_struct3 Tryz.underlying64 t2
  simp [hI] at q0 q1 q2
  obtain ⟨p1, e1, _, _⟩ := DataW.trod_int Tryz.underlying3 q0
  obtain ⟨p2, e2, _, _⟩ := DataW.trod_int Tryz.underlying3 q1
  obtain ⟨p3, e3, _, _⟩ := DataW.trod_int Tryz.underlying3 q2
  simp at e1 e2 e3 hb
  subst e1 e2 e3 hb
  simp [opC] at ho
  obtain ⟨rfl, rfl, rfl, rfl, rfl, rfl, rfl⟩ := ho
  exact ⟨(o, b, (p1, p2, p3)), rfl⟩

set_option maxRecDepth 100000 in
/-- a step that came in -/
theorem open_step {H : Type} {enc : TypeId × Value → H} {w : World} {r : Reach} {b0 base : Nat} {spare : Nat → Bool} {held : Bool} {v : Value} {d : DataW H} {p : List MemPlace}
    (hv : Value.okWide Tryz.prog w r b0 95 v) (h : DataW.Trod enc Tryz.prog w base spare held 95 v d p) : ∃ s : Stp, v = stV s := by
  obtain ⟨cs, rfl, hsz⟩ := okWide_struct Tryz.underlying95 hv
  obtain ⟨fuel, hf⟩ := h
  obtain ⟨o, ho⟩ := open_stC hf
  refine ⟨o, ?_⟩
  have : cs = (stC o).toArray := by rw [← ho]; simp [Value.cells]
  rw [this]
  rfl
end Go.Proofs.YthlhnokgcnieeadGreat

/- Slices of operations and histories that came in as arguments, and what they weigh. -/
namespace Go.Proofs.YthlhnokgcnieeadGreat
open Go.ChangeShapes Go.WideShapes Go.ChangeAt Go.RowKit
open Orangery (Pl Mv Stp)

/-- a slice of such elements that came in, with what it weighs -/
theorem open_slW {α : Type} [Inhabited α] {enc : α → List Value} {k : Nat} {H : Type} {en : TypeId × Value → H} {w : World} {base fuel : Nat} {spare : Nat → Bool} {held : Bool} {v : Value} {x : DataW H × List MemPlace} {t e : TypeId}
    (hk : ∀ x, (enc x).length = k) (hpos : 0 < k) (ht : Tryz.prog.underlying t = some (.slice e)) (hC : Tryz.prog.cellsOf e = k)
    (hel : ∀ (n : Nat) (cs : List Value) (y : DataW H × List MemPlace), DataW.trod en Tryz.prog w base spare held n e cs = some y → ∃ z : α, cs = enc z)
    (h : DataW.trod en Tryz.prog w base spare held fuel t [v] = some x) : ∃ a c, ∃ l : List α, v = .slice a l.length c ∧ l.length ≤ maxLen ∧ l.length ≤ c ∧ (c ≤ maxLen ∧ (a = none → c = 0)) ∧ SlE enc w a l ∧ (l = [] ∨ ∃ m, l.length ≤ m ∧ m * Tryz.prog.bytesOf e ∈ x.1.weights Tryz.prog t) := by
  rcases Go.Deep.open_slice ht h with ⟨hcs, _⟩ | ⟨a, len, cap, m, n, D, Pq, hcs, _, hle, hm, hmm, hxx, hx⟩
  · simp at hcs
    subst hcs
    exact ⟨none, 0, [], rfl, by simp, by simp, ⟨by simp, fun _ => rfl⟩, Or.inl rfl, Or.inl rfl⟩
  · simp at hcs
    subst hcs
    have hlm : len ≤ m := by rw [hmm]; split <;> omega
    have key : ∀ i, i < len → ∃ z : α, ∀ (j : Nat) (v : Value), (enc z)[j]? = some v → w.cell? ((a.add (i * k)).add j) = some v := by
      intro i hi
      obtain ⟨cs', h1, h2⟩ := hx i (by omega)
      rw [hC] at h1
      obtain ⟨z, rfl⟩ := hel _ _ _ h2
      exact ⟨z, (cells_range h1).2⟩
    obtain ⟨f, hf⟩ := Go.Deep.choose_lt key
    refine ⟨some a, cap, (List.range len).map f, by simp, by simp; omega, by simp; omega, ⟨hm, fun e => by simp at e⟩, ?_, Or.inr ⟨m, by simpa using hlm, ?_⟩⟩
    · by_cases hz : len = 0
      · exact Or.inl (by simp [hz])
      · right
        obtain ⟨u, hu⟩ : ∃ u, (enc (f 0))[0]? = some u := ⟨_, List.getElem?_eq_getElem (by rw [hk]; exact hpos)⟩
        have h0 := hf 0 (by omega) 0 u hu
        obtain ⟨b, off, spot⟩ := a
        have hspot : spot = none := by simpa [Addr.add] using World.cell?_spot h0
        subst hspot
        have hb : b < w.heap.size := by
          have := World.block_lt_of_cell? w _ h0
          rw [Addr.add_mid, Addr.add_mid] at this
          exact this
        refine ⟨b, off, rfl, hb, fun j v hv => ?_⟩
        have hj : j < len * k := by
          have := (List.getElem?_eq_some_iff.1 hv).1
          rw [flatE_len hk] at this
          simpa using this
        have hi : j / k < len := (Nat.div_lt_iff_lt_mul hpos).2 hj
        have hc : j % k < k := Nat.mod_lt _ hpos
        have e1 : j / k * k + j % k = j := by rw [Nat.mul_comm]; exact Nat.div_add_mod j k
        have e2 := flatE_get hk ((List.range len).map f) (j / k) (by simpa using hi) (j % k) hc
        rw [e1, hv] at e2
        have e3 := hf (j / k) hi (j % k) v (by simpa using e2.symm)
        rw [Addr.add_mid, Addr.add_mid] at e3
        rw [show off + j = off + j / k * k + j % k by omega]
        exact e3
    · subst hxx
      simp only [DataW.weights, ht]
      have e : ((List.range len).map D).length + ((List.range (m - len)).map fun j => D (len + j)).length = m := by simp; omega
      rw [e]
      exact List.mem_cons_self

set_option maxRecDepth 100000 in
/-- operations that came in -/
theorem open_ops {H : Type} {enc : TypeId × Value → H} {w : World} {r : Reach} {b0 base : Nat} {spare : Nat → Bool} {held : Bool} {v : Value} {d : DataW H} {p : List MemPlace}
    (hv : Value.okWide Tryz.prog w r b0 58 v) (h : DataW.Trod enc Tryz.prog w base spare held 58 v d p) : ∃ a c, ∃ l : List Mv, v = .slice a l.length c ∧ l.length ≤ maxLen ∧ l.length ≤ c ∧ SlE opC w a l := by
  obtain ⟨a', n', c', rfl⟩ := okWide_slice Tryz.underlying58 hv
  obtain ⟨fuel, hf⟩ := h
  obtain ⟨a, c, l, e, h1, h2, _, h3, _⟩ := open_slW opC_len (by omega) Tryz.underlying58 (by kernel_rfl) (fun n cs y hy => open_opC hy) hf
  exact ⟨a, c, l, e, h1, h2, h3⟩

set_option maxRecDepth 100000 in
/-- operations that came in, and the room behind them -/
theorem open_opsN {H : Type} {enc : TypeId × Value → H} {w : World} {r : Reach} {b0 base : Nat} {spare : Nat → Bool} {held : Bool} {v : Value} {d : DataW H} {p : List MemPlace}
    (hv : Value.okWide Tryz.prog w r b0 58 v) (h : DataW.Trod enc Tryz.prog w base spare held 58 v d p) : ∃ a c, ∃ l : List Mv, v = .slice a l.length c ∧ l.length ≤ maxLen ∧ l.length ≤ c ∧ c ≤ maxLen ∧ (a = none → c = 0) ∧ SlE opC w a l := by
  obtain ⟨a', n', c', rfl⟩ := okWide_slice Tryz.underlying58 hv
  obtain ⟨fuel, hf⟩ := h
  obtain ⟨a, c, l, e, h1, h2, ⟨h4, h5⟩, h3, _⟩ := open_slW opC_len (by omega) Tryz.underlying58 (by kernel_rfl) (fun n cs y hy => open_opC hy) hf
  exact ⟨a, c, l, e, h1, h2, h4, h5, h3⟩

set_option maxRecDepth 100000 in
/-- a history that came in -/
theorem open_hist {H : Type} {enc : TypeId × Value → H} {w : World} {r : Reach} {b0 base : Nat} {spare : Nat → Bool} {held : Bool} {v : Value} {d : DataW H} {p : List MemPlace}
    (hv : Value.okWide Tryz.prog w r b0 27 v) (h : DataW.Trod enc Tryz.prog w base spare held 27 v d p) :
    ∃ aL aT cL cT, ∃ (L : List Stp) (T : List Pl), v = hiV (.slice aL L.length cL) (.slice aT T.length cT) ∧ T.length ≤ maxLen ∧ SlE stC w aL L ∧ SlP w aT T ∧ (L = [] ∨ ∃ m, L.length ≤ m ∧ m * 88 ∈ d.weights Tryz.prog 27) := by
  obtain ⟨cs, rfl, hsz⟩ := okWide_struct Tryz.underlying27 hv
  have hC : Tryz.prog.cellsOf 27 = 2 := by kernel_rfl
  have hD : Tryz.prog.cellsOf 22 = 1 := by kernel_rfl
  have hE : Tryz.prog.cellsOf 25 = 1 := by kernel_rfl
  have hF : Tryz.prog.cellsOf 23 = 1 := by kernel_rfl
  have hby : Tryz.prog.bytesOf 95 = 88 := by kernel_rfl
  rw [hC] at hsz
  obtain ⟨c0, c1, rfl⟩ : ∃ c0 c1, cs = #[c0, c1] := by
    have h1 : cs.toList.length = 2 := by simpa using hsz
    cases cs with
    | mk l =>
      match l, h1 with
      | [x, y], _ => exact ⟨x, y, rfl⟩
  obtain ⟨fuel, hf⟩ := h
  obtain ⟨y0, y1, n, hd, _, h0, h1⟩ := trod_struct2 Tryz.underlying27 hf
  simp [Value.cells, hD, hE] at h0 h1
  obtain ⟨aL, cL, L, rfl, _, _, _, hL, hw⟩ := open_slW stC_len (by omega) Tryz.underlying22 (by kernel_rfl) (fun n cs y hy => open_stC hy) h0
  obtain ⟨z0, n', _, _, h2⟩ := trod_struct1 Tryz.underlying25 h1
  simp [hF] at h2
  obtain ⟨aT, cT, T, rfl, hT1, hT2⟩ := open_places h2
  refine ⟨aL, aT, cL, cT, L, T, rfl, hT1, hL, hT2, ?_⟩
  rcases hw with hw | ⟨m, hm, hw⟩
  · exact Or.inl hw
  · right
    refine ⟨m, hm, ?_⟩
    have e : d = .agg [y0.1, y1.1] := congrArg Prod.fst hd
    rw [e]
    rw [hby] at hw
    simp only [DataW.weights, Tryz.underlying27]
    exact DataW.weights_mem_each (j := 0) rfl rfl _ hw

theorem sized_hist {H : Type} {ts : List TypeId} {ds : List (DataW H)} (h : (DataW.weightsEach Tryz.prog ts ds).all (· ≤ reachBytes) = true) {j : Nat} {d : DataW H} (ht : ts[j]? = some 27) (hd : ds[j]? = some d) {L : List Stp}
    (hw : L = [] ∨ ∃ m, L.length ≤ m ∧ m * 88 ∈ d.weights Tryz.prog 27) : L.length * 88 ≤ 140737488351232 := by
  rcases hw with rfl | ⟨m, hm, hw⟩
  · simp
  · have := List.all_eq_true.1 h _ (DataW.weights_mem_each ht hd _ hw)
    have h2 : m * 88 ≤ reachBytes := by simpa using this
    unfold reachBytes at h2
    omega
end Go.Proofs.YthlhnokgcnieeadGreat

