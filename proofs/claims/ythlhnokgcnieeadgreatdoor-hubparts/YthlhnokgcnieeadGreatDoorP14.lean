/- 1 texts of the proof: orangerylaw.accepted: the closed fact that the laws on hubs ask first. -/
import Derived.Test.YthlhnokgcnieeadGreatDoorP12
import Derived.Test.YthlhnokgcnieeadGreatDoorP08
import Derived.Test.YthlhnokgcnieeadGreatDoorP13
/- orangerylaw.accepted: the closed fact that the laws on hubs ask first. -/
namespace Go.Proofs.YthlhnokgcnieeadGreatDoor
open Go.ChangeShapes Go.WideShapes Go.ChangeAt Go.RowKit
open Orangery (Pl Mv Stp Rc Pr Hb peerE peersE rootsOk hubE histE newHb prOf stepE stepH noHb insE insL insT checkRec nextE nextH orI ofE ofR ofK ofW runE runH replayE replayH noOp accL accH accG)

theorem old_neb {n nb m : Nat} (h1 : n ≤ nb) (h2 : nb < m) : ∀ b, Old n m b → b ≠ nb := by
  intro b hb
  rcases hb with hb | hb <;> omega
set_option maxHeartbeats 1000000 in
theorem acc1_any (w : World) (n : Int) : Calls Tryz.prog 15 #[.int .i64 n] w fun e w' => e = .returned (rcV 2 1 n (.slice none 0 0) noOp) ∧ Below w.heap.size w w' := by
  obtain ⟨W0, hW, hZ, hB, -⟩ := laid1 w (rcL 0 0 0 (.slice none 0 0) noOp) 43
  change (w.alloc (Obj.cells #[Value.int IntKind.i64 0, .int .i64 0, .int .i64 0, .slice none 0 0, .int .i64 0, .int .i64 0, .int .i64 0, .int .i64 0, .int .i64 0, .int .i64 0, .int .i64 0] 43)) = W0 at hW
  have rf := hZ.frz

  have r0 := hZ.at 0 rfl
  have r1 := hZ.at 1 rfl
  have r2 := hZ.at 2 rfl
  have r3 := hZ.at 3 rfl
  have r4 := hZ.at 4 rfl
  have r5 := hZ.at 5 rfl
  have r6 := hZ.at 6 rfl
  have r7 := hZ.at 7 rfl
  have r8 := hZ.at 8 rfl
  have r9 := hZ.at 9 rfl
  have r10 := hZ.at 10 rfl
  go_enter Tryz.func15, Tryz.ntmps15
  go_wp2
  have hRf := hZ.sets (rcL 2 1 n (.slice none 0 0) noOp) rfl
  refine ret_cell Tryz.results15 rfl (hRf.load Tryz.underlying43 rfl sizeRecH) ?_
  exact ⟨rfl, below_sets hB w.heap.size (Nat.le_refl _) (rcL 2 1 n (.slice none 0 0) noOp) 0⟩
theorem lop1_any (w : World) (t n p : Int) : Calls Tryz.prog 17 #[.int .i64 t, .int .i64 1, .int .i64 n, .int .i64 p] w fun e w' => e = .returned (.agg #[Value.int .i64 t, .int .i64 1, .int .i64 n, .int .i64 p, .int .i64 0, .int .i64 1, .int .i64 t]) ∧ Below w.heap.size w w' := lop_any w t 1 n p
set_option maxHeartbeats 1000000 in
theorem acc2_any (w : World) (t n p f q : Int) : Calls Tryz.prog 16 #[.int .i64 t, .int .i64 n, .int .i64 p, .int .i64 f, .int .i64 q] w fun e w' => e = .returned (rcV 1 0 0 (.slice none 0 0) (t, 1, (n, p, 0), f, q)) ∧ Below w.heap.size w w' := by
  go_enter Tryz.func16, Tryz.ntmps16
  go_wp2_with fail
  obtain ⟨W0, hW, hZ, hB, -⟩ := laid1 w (rcL 0 0 0 (.slice none 0 0) noOp) 43
  change (w.alloc (Obj.cells #[Value.int IntKind.i64 0, .int .i64 0, .int .i64 0, .slice none 0 0, .int .i64 0, .int .i64 0, .int .i64 0, .int .i64 0, .int .i64 0, .int .i64 0, .int .i64 0] 43)) = W0 at hW
  rw [hW]
  clear hW
  refine (lop1_any W0 t n p).mono ?_
  rintro e w1 ⟨rfl, hb⟩
  obtain ⟨W2, hW, hO, hB2, -⟩ := laid1 w1 [Value.int .i64 t, .int .i64 1, .int .i64 n, .int .i64 p, .int .i64 0, .int .i64 1, .int .i64 t] 41
  have hZ2 := (hZ.keep hb).keep hB2
  have HB2 := Lib.hid ((hB.trans (hb.mono hB.size)).trans (hB2.mono (hB.trans (hb.mono hB.size)).size))
  have hlt : w.heap.size < w1.heap.size := (hZ.keep hb).lt
  have hO3 := (hO.set 5 (by simp) (.int .i64 f)).set 6 (by simp) (.int .i64 q)
  have hZ3 := (hZ2.other (by omega : w.heap.size ≠ w1.heap.size) 5 (.int .i64 f)).other (by omega : w.heap.size ≠ w1.heap.size) 6 (.int .i64 q)
  have HB3 : Hid (Below w.heap.size w ((W2.setCell ⟨w1.heap.size, 5, none⟩ (.int .i64 f)).setCell ⟨w1.heap.size, 6, none⟩ (.int .i64 q))) := below_sets HB2.out w1.heap.size (by omega) [.int .i64 f, .int .i64 q] 5
  have zf := hO.frz
  have z0 := hO.at 0 rfl
  have z1 := hO.at 1 rfl
  have z2 := hO.at 2 rfl
  have z3 := hO.at 3 rfl
  have z4 := hO.at 4 rfl
  have z5 := hO.at 5 rfl
  have z6 := hO.at 6 rfl
  have rf := hZ3.frz
  have r0 := hZ3.at 0 rfl
  have r1 := hZ3.at 1 rfl
  have r2 := hZ3.at 2 rfl
  have r3 := hZ3.at 3 rfl
  have r4 := hZ3.at 4 rfl
  have r5 := hZ3.at 5 rfl
  have r6 := hZ3.at 6 rfl
  have r7 := hZ3.at 7 rfl
  have r8 := hZ3.at 8 rfl
  have r9 := hZ3.at 9 rfl
  have r10 := hZ3.at 10 rfl
  clear hZ hB hb hB2 HB2 hZ2
  go_wp2
  have hRf := hZ3.sets (rcL 1 0 0 (.slice none 0 0) (t, 1, (n, p, 0), f, q)) rfl
  refine ret_cell Tryz.results16 rfl (hRf.load Tryz.underlying43 rfl sizeRecH) ?_
  exact ⟨rfl, below_sets HB3.out w.heap.size (Nat.le_refl _) (rcL 1 0 0 (.slice none 0 0) (t, 1, (n, p, 0), f, q)) 0⟩

/-- the four records of the closed fact -/
def accX (b : Nat) : List Rq := [((2, 1, 1, [], noOp), none, 0), ((1, 0, 0, [], (1, 1, (2, 0, 0), 1, 1)), none, 0), ((1, 0, 0, [], (2, 1, (3, 2, 0), 1, 2)), none, 0), ((3, 1, 0, [2], noOp), some ⟨b, 0, none⟩, 1)]
theorem accX_are (b : Nat) : (accX b).map (·.1) = accL := rfl
theorem accX_reads {W : World} {b g : Nat} (h1 : Blk W b [.int .i64 2]) (h2 : Blk W g ((accX b).flatMap rqC)) : SlC W (some ⟨g, 0, none⟩) (accX b) := by
  refine ⟨Or.inr ⟨g, 0, rfl, h2.lt, h2.range⟩, ?_⟩
  intro x hx
  simp only [accX, List.mem_cons, List.not_mem_nil, or_false] at hx
  rcases hx with rfl | rfl | rfl | rfl
  · exact ⟨Or.inl rfl, by simp [maxLen]⟩
  · exact ⟨Or.inl rfl, by simp [maxLen]⟩
  · exact ⟨Or.inl rfl, by simp [maxLen]⟩
  · refine ⟨Or.inr ⟨b, 0, rfl, h1.lt, ?_⟩, by simp [maxLen]⟩
    intro i hi
    simp only [List.length_cons, List.length_nil] at hi
    have : i = 0 := by omega
    subst this
    exact h1.at 0 rfl

/-- the second peer of a hub, in its cells -/
def PeerB (n f u : Int) (m : Nat) (w : World) (vs : List Value) : Prop := ∃ a0 n0 c0 a1 n1 c1 b o c3 ar cr, vs = [.slice a0 n0 c0, .slice a1 n1 c1, .int .i64 n, .slice (some ⟨b, o, none⟩) 3 c3] ∧ b < w.heap.size ∧ w.cell? ⟨b, o + 3, none⟩ = some (.int .i64 f) ∧ w.cell? ⟨b, o + 3 + 1, none⟩ = some (.int .i64 u) ∧ w.cell? ⟨b, o + 3 + 2, none⟩ = some (.slice ar m cr)
theorem HuX.peer {D : Nat → Prop} {h : Hb} {w : World} {vs : List Value} (hx : HuX D h w vs) (hl : h.2.2.length = 3) {n f u : Int} {m : Nat} (e1 : h.2.1 = n) (e2 : (prOf h 1).1 = f) (e3 : (prOf h 1).2.1 = u) (e4 : (prOf h 1).2.2.length = m) : PeerB n f u m w vs := by
  subst e1 e2 e3 e4
  obtain ⟨a, c, p, d, q, g, X, rfl, hx, _⟩ := hx
  have hl3 : X.length = 3 := by rw [← hx.are] at hl; simpa using hl
  have hk : 1 < X.length := by omega
  obtain ⟨b, o, e, hb, hr⟩ := hx.peers.reads.at prC_len 1 hk
  subst e
  have hp := prOf_at hx.are 1 hk
  obtain ⟨g0, g1, g2⟩ := pr_cells hr
  rw [hp] at g0 g1
  have e2 : X[1].1.2.2.length = (prOf h 1).2.2.length := by rw [hp]; rfl
  rw [e2] at g2
  exact ⟨_, _, _, _, _, _, b, o, g, X[1].2.1, X[1].2.2, by rw [hl3], hb, g0, g1, g2⟩
theorem accRH : replayH accL = accH := by rw [replay_ok Orangery.acc1.1]; exact Orangery.acc1.2
theorem accS : seesE accH 1 = 0 ∧ seesR accH 1 = [2] ∧ seesK accH 1 = [(2, 0, 0), (3, 2, 0)] ∧ seesW accH 1 = [] := by
  have h1 : seesB accH 1 = 0 := by unfold seesB; rw [if_neg (by simp [Orangery.acc2.1]), if_neg (by omega)]
  obtain ⟨e1, e2, e3, e4⟩ := sees_ok h1
  have hp : (prOf accH 1).2.2 = [2] := rfl
  rw [e1, e2, e3, e4, hp]
  unfold ofR ofK ofW
  rw [if_neg (by simp [Orangery.acc4.2.2]), if_neg (by simp [Orangery.acc4.2.2]), if_neg (by simp [Orangery.acc4.2.2])]
  exact ⟨Orangery.acc4.2.2, rfl, Orangery.acc4.1, Orangery.acc4.2.1⟩

set_option maxHeartbeats 8000000 in
set_option maxRecDepth 100000 in
theorem accepted_any (w : World) : Calls Tryz.prog 5 #[] w fun e w' => e = .returned (.bool true) ∧ Below w.heap.size w w' := by
  go_enter Tryz.func5, Tryz.ntmps5
  go_wp2_with fail
  refine (acc1_any w 1).mono ?_
  rintro e w1 ⟨rfl, hb1⟩
  go_wp2_with fail
  refine (acc2_any w1 1 2 0 1 1).mono ?_
  rintro e w2 ⟨rfl, hb2⟩
  go_wp2_with fail
  refine (acc2_any w2 2 3 2 1 2).mono ?_
  rintro e w3 ⟨rfl, hb3⟩
  have HB3 := Lib.hid ((hb1.trans (hb2.mono hb1.size)).trans (hb3.mono (hb1.trans (hb2.mono hb1.size)).size))
  clear hb1 hb2 hb3
  go_wp2_with fail
  obtain ⟨W4, hW, hI, hL, hB4, -⟩ := laid2 w3 [Value.int .i64 2] 3 ((accX w3.heap.size).flatMap rqC) 43
  have key : ∀ Q, Calls Tryz.prog 4 #[.slice (some ⟨w3.heap.size + 1, 0, none⟩) 4 4] W4 Q → Calls Tryz.prog 4 #[.slice (some ⟨w3.heap.size + 1, 0, none⟩) 4 4] ((w3.alloc (Obj.cells [Value.int .i64 2].toArray 3)).alloc (Obj.cells ((accX w3.heap.size).flatMap rqC).toArray 43)) Q := by
    intro Q h
    rw [hW]
    exact h
  refine key _ ?_
  clear key hW
  have hc := ureplay_any W4 (some ⟨w3.heap.size + 1, 0, none⟩) 4 (accX w3.heap.size) accL rfl (by simp [accX, maxLen]) (accX_reads hI hL)
  rw [Orangery.acc1.1, accRH] at hc
  refine hc.mono ?_
  rintro e w5 ⟨vs, rfl, hH, hb5⟩
  have HB5 := Lib.hid ((HB3.out.trans (hB4.mono HB3.out.size)).trans (hb5.mono (HB3.out.trans (hB4.mono HB3.out.size)).size))
  clear hc HB3 hB4 hb5 hI hL
  obtain ⟨a0, n0, c0, a1, n1, c1, b3, o3, c3, ar, cr, rfl, hlb3, p1, p2, p3⟩ : PeerB 4 1 2 1 w5 vs := hH.peer rfl rfl rfl rfl rfl
  obtain ⟨W6, hW, hX6, hB6, hS6⟩ := laid1 w5 [Value.slice a0 n0 c0, .slice a1 n1 c1, .int .i64 4, .slice (some ⟨b3, o3, none⟩) 3 c3] 31
  have hH6 := (hH.keep hB6)
  have HB6 := Lib.hid (HB5.out.trans (hB6.mono HB5.out.size))
  have HP6 : Hid (b3 < W6.heap.size ∧ W6.cell? ⟨b3, o3 + 3 + 1, none⟩ = some (.int .i64 2)) := ⟨by have := hB6.size; omega, by rw [hB6.cell (by exact hlb3)]; exact p2⟩
  have y0 := hX6.at 0 rfl
  have y1 := hX6.at 1 rfl
  have y2 := hX6.at 2 rfl
  have y3 := hX6.at 3 rfl
  clear hH HB5 hB6 hlb3 p1 p2 p3
  go_wp2_with fail
  clear y0 y1 y2 y3 hW
  generalize hbb : w5.heap.size = B3 at *
  clear hbb
  have hc := usees_any W6 [Value.slice a0 n0 c0, .slice a1 n1 c1, .int .i64 4, .slice (some ⟨b3, o3, none⟩) 3 c3] accH 1 W6.heap.size hH6.low (Nat.le_refl _)
  rw [accS.1, accS.2.1, accS.2.2.1, accS.2.2.2] at hc
  refine hc.mono ?_
  rintro e w7 ⟨vs, rfl, hV, hb7⟩
  clear hc
  obtain ⟨s0, t0, s1, t1, s2, t2, rfl⟩ : ∃ s0 t0 s1 t1 s2 t2, vs = [.slice s0 1 t0, .slice s1 2 t1, .slice s2 0 t2] := hV.three
  obtain ⟨W8, hW, hV8, hB8, -⟩ := laid1 w7 [Value.slice s0 1 t0, .slice s1 2 t1, .slice s2 0 t2] 62
  have hb8 := hb7.trans (hB8.mono hb7.size)
  have HK8 : Hid (W8.cell? ⟨w7.heap.size, 1, none⟩ = some (.slice s1 2 t1) ∧ w7.heap.size < W8.heap.size) := ⟨hV8.at 1 rfl, hV8.lt⟩
  have hX8 := hX6.keep hb8
  have hH8 := hH6.keep hb8
  have HP8 : Hid (b3 < W8.heap.size ∧ W8.cell? ⟨b3, o3 + 3 + 1, none⟩ = some (.int .i64 2)) := ⟨by have := hb8.size; have := HP6.out.1; omega, by rw [hb8.cell (by exact HP6.out.1)]; exact HP6.out.2⟩
  have HB8 := Lib.hid (HB6.out.trans (hb8.mono HB6.out.size))
  clear hX6 hH6 HP6 HB6 hb7 hB8 hb8 hV8 hV
  have HH8 := Lib.hid hH8
  have C1 : Hid (∀ W', Below W8.heap.size W8 W' → Calls Tryz.prog 16 #[.int .i64 3, .int .i64 4, .int .i64 0, .int .i64 1, .int .i64 4] W' fun e w' => e = .returned (rcV 1 0 0 (.slice none 0 0) (3, 1, (4, 0, 0), 1, 4)) ∧ Below W'.heap.size W' w') := fun W' _ => acc2_any W' 3 4 0 1 4
  have C2 : Hid (∀ W', Below W8.heap.size W8 W' → Calls Tryz.prog 7 #[.agg [Value.slice a0 n0 c0, .slice a1 n1 c1, .int .i64 4, .slice (some ⟨b3, o3, none⟩) 3 c3].toArray, rcV 1 0 0 (.slice none 0 0) (3, 1, (4, 0, 0), 1, 4)] W' (Gives (HuX (Old W8.heap.size W'.heap.size) noHb) W' 7)) := by
    intro W' hw
    have hc := unext_any W' _ accH (1, 0, 0, [], (3, 1, (4, 0, 0), 1, 4)) none 0 (HH8.out.keep hw).is (by simp [maxLen]) (Or.inl rfl)
    rw [nextH_bad (by rw [Orangery.acc2.2.1]; omega), Orangery.acc2.2.1] at hc
    exact hc.mono (fun e w' ⟨vs, e1, e2, e3⟩ => ⟨vs, e1, e2.imp (fun b hb => Or.inr hb), e3⟩)
  clear hH8
  go_upto_region 5 with fail
  clear hW
  generalize w7.heap.size = B5 at *
  go_cut [7, 8] from 33 to 39 (fun r e wc => ∃ b vs, r = .pointer (some ⟨b, 0, none⟩) ∧ e = .int .i64 7 ∧ Blk wc b vs ∧ HuX (fun _ => True) noHb wc vs ∧ W8.heap.size ≤ b ∧ Below W8.heap.size W8 wc)
  case first =>
    refine wp_region_held_drew (S := fun w' => Below W8.heap.size W8 w') (by kernel_rfl) ((Below.refl _ W8).drew) (fun hHeld => ?_)
    refine take_load 0 34 31 B3 [Value.slice a0 n0 c0, .slice a1 n1 c1, .int .i64 4, .slice (some ⟨b3, o3, none⟩) 3 c3] rfl rfl (by kernel_rfl) (by kernel_rfl) (by kernel_rfl) (fun _ _ _ h => h) (by rfl) (by rfl) (by rfl) (fun w hw => (hX8.keep hw).range) Tryz.underlying31 rfl sizeHub hHeld ?_
    simp only [Act.put, List.setIfInBounds_toArray, List.set_cons_succ, List.set_cons_zero]
    refine take_yes 1 35 (v := ?_) rfl rfl (by kernel_rfl) (by kernel_rfl) (by kernel_rfl) (fun _ _ _ h => h) (by rfl) ?_ hHeld ?_
    rotate_left 1
    · (intro w hSw; go_simp; try with_reducible rfl)
    simp only [Act.put, List.setIfInBounds_toArray, List.set_cons_succ, List.set_cons_zero]
    refine wpAnyH_ready (rs := [2, 7]) (by kernel_rfl) (by simp) ?_
    refine AllReadyH.cons rfl (fun KK hKK => ?_) (AllReadyH.cons rfl (fun KK hKK => ?_) AllReadyH.nil)
    · skip
      go_simp
      refine (C1.out _ hHeld).mono ?_
      rintro e w7a ⟨rfl, hb7⟩
      have hS7 : Below W8.heap.size W8 w7a := hHeld.trans (hb7.mono hHeld.size)
      have hgt7 := hS7.size
      go_wp2_with fail
      refine hKK.out _ _ (hS7) (fun hHeld => ?_)
      clear hKK KK
      clear hS7
      refine wpAnyH_ready (rs := [3, 7]) (by kernel_rfl) (by simp) ?_
      refine AllReadyH.cons rfl (fun KK hKK => ?_) (AllReadyH.cons rfl (fun KK hKK => ?_) AllReadyH.nil)
      · skip
        go_simp
        refine (C2.out _ hHeld).mono ?_
        rintro e w8a ⟨vs, rfl, hQ, hb7⟩
        have hS7 : Below W8.heap.size W8 w8a := hHeld.trans (hb7.mono hHeld.size)
        have hgt7 := hS7.size
        have hlen := hQ.len
        go_wp2_with fail
        refine hKK.out _ _ (hS7) (fun hHeld => ?_)
        clear hKK KK
        clear hS7
        refine take_yes 4 33 (v := ?_) rfl rfl (by kernel_rfl) (by kernel_rfl) (by kernel_rfl) (fun _ _ _ h => h) (by rfl) ?_ hHeld ?_
        rotate_left 1
        · (intro w hSw; go_simp; try with_reducible rfl)
        simp only [Act.put, List.setIfInBounds_toArray, List.set_cons_succ, List.set_cons_zero]
        refine take_yes 5 38 (v := ?_) rfl rfl (by kernel_rfl) (by kernel_rfl) (by kernel_rfl) (fun _ _ _ h => h) (by rfl) ?_ hHeld ?_
        rotate_left 1
        · (intro w hSw; go_simp; try with_reducible rfl)
        simp only [Act.put, List.setIfInBounds_toArray, List.set_cons_succ, List.set_cons_zero]
        refine take_yes 6 39 (v := ?_) rfl rfl (by kernel_rfl) (by kernel_rfl) (by kernel_rfl) (fun _ _ _ h => h) (by rfl) ?_ hHeld ?_
        rotate_left 1
        · (intro w hSw; go_simp; try with_reducible rfl)
        simp only [Act.put, List.setIfInBounds_toArray, List.set_cons_succ, List.set_cons_zero]
        refine wpAnyH_ready (rs := [7]) (by kernel_rfl) (by simp) ?_
        refine AllReadyH.cons rfl (fun KK hKK => ?_) AllReadyH.nil
        go_simp
        have hN := (Blk.new w8a [Value.slice none 0 0, .slice none 0 0, .int .i64 0, .slice none 0 0] 31)
        have hgtw := hHeld.size
        refine hKK.out _ _ (hHeld.alloc hHeld.size _) (fun hHeld => ?_)
        clear hKK KK
        refine step_store 8 31 w8a.heap.size vs (by kernel_rfl) rfl rfl (by rfl) (by rfl) (by rfl) (by rfl) (by rw [hlen]; exact hN.there) (by rw [hlen]; exact sizeHub) hQ.one (below_sets hHeld w8a.heap.size (by omega) vs 0) ?_
        have hHeld := below_sets hHeld w8a.heap.size (by omega) vs 0
        refine take_yes 9 8 (v := ?_) rfl rfl (by kernel_rfl) (by kernel_rfl) (by kernel_rfl) (fun _ _ _ h => h) (by rfl) ?_ hHeld ?_
        rotate_left 1
        · (intro w hSw; go_simp; try with_reducible rfl)
        simp only [Act.put, List.setIfInBounds_toArray, List.set_cons_succ, List.set_cons_zero]
        refine wpAnyH_done (by kernel_rfl) ?_ _
        have HHeld : Hid (Below W8.heap.size W8 ((w8a.alloc (Obj.cells [Value.slice none 0 0, .slice none 0 0, .int .i64 0, .slice none 0 0].toArray 31)).setCells w8a.heap.size 0 vs)) := hHeld
        have HR : Hid (HuX (fun _ => True) noHb ((w8a.alloc (Obj.cells [Value.slice none 0 0, .slice none 0 0, .int .i64 0, .slice none 0 0].toArray 31)).setCells w8a.heap.size 0 vs) vs) := ((hQ.lowD.keep (Go.Joins.below_alloc1 w8a _)).sets w8a.heap.size (fun b hb => Nat.ne_of_lt hb.2) vs 0).imp (fun _ _ => trivial)
        have HBk : Hid (Blk ((w8a.alloc (Obj.cells [Value.slice none 0 0, .slice none 0 0, .int .i64 0, .slice none 0 0].toArray 31)).setCells w8a.heap.size 0 vs) w8a.heap.size vs) := hN.sets vs (by rw [hlen]; rfl)
        clear hHeld hQ
        go_wp2
        go_meet
        case rel => exact ⟨_, vs, rfl, rfl, HBk.out, HR.out, by omega, HHeld.out⟩
      · skip
        go_simp
        have hN := (Blk.new w7a [Value.slice none 0 0, .slice none 0 0, .int .i64 0, .slice none 0 0] 31)
        have hnb : W8.heap.size ≤ w7a.heap.size := hHeld.size
        refine hKK.out _ _ (hHeld.alloc hHeld.size _) (fun hHeld => ?_)
        clear hKK KK
        refine wpAnyH_ready (rs := [3]) (by kernel_rfl) (by simp) ?_
        refine AllReadyH.cons rfl (fun KK hKK => ?_) AllReadyH.nil
        go_simp
        have hltb := hN.lt
        refine (C2.out _ hHeld).mono ?_
        rintro e w9b ⟨vs, rfl, hQ, hb7⟩
        have hS7 : Below W8.heap.size W8 w9b := hHeld.trans (hb7.mono hHeld.size)
        have hgt7 := hS7.size
        have hN := hN.keep hb7
        have hlen := hQ.len
        go_wp2_with fail
        refine hKK.out _ _ (hS7) (fun hHeld => ?_)
        clear hKK KK
        clear hS7
        refine take_yes 4 33 (v := ?_) rfl rfl (by kernel_rfl) (by kernel_rfl) (by kernel_rfl) (fun _ _ _ h => h) (by rfl) ?_ hHeld ?_
        rotate_left 1
        · (intro w hSw; go_simp; try with_reducible rfl)
        simp only [Act.put, List.setIfInBounds_toArray, List.set_cons_succ, List.set_cons_zero]
        refine take_yes 5 38 (v := ?_) rfl rfl (by kernel_rfl) (by kernel_rfl) (by kernel_rfl) (fun _ _ _ h => h) (by rfl) ?_ hHeld ?_
        rotate_left 1
        · (intro w hSw; go_simp; try with_reducible rfl)
        simp only [Act.put, List.setIfInBounds_toArray, List.set_cons_succ, List.set_cons_zero]
        refine take_yes 6 39 (v := ?_) rfl rfl (by kernel_rfl) (by kernel_rfl) (by kernel_rfl) (fun _ _ _ h => h) (by rfl) ?_ hHeld ?_
        rotate_left 1
        · (intro w hSw; go_simp; try with_reducible rfl)
        simp only [Act.put, List.setIfInBounds_toArray, List.set_cons_succ, List.set_cons_zero]
        refine step_store 8 31 w7a.heap.size vs (by kernel_rfl) rfl rfl (by rfl) (by rfl) (by rfl) (by rfl) (by rw [hlen]; exact hN.there) (by rw [hlen]; exact sizeHub) hQ.one (below_sets hHeld w7a.heap.size (by omega) vs 0) ?_
        have hHeld := below_sets hHeld w7a.heap.size (by omega) vs 0
        refine take_yes 9 8 (v := ?_) rfl rfl (by kernel_rfl) (by kernel_rfl) (by kernel_rfl) (fun _ _ _ h => h) (by rfl) ?_ hHeld ?_
        rotate_left 1
        · (intro w hSw; go_simp; try with_reducible rfl)
        simp only [Act.put, List.setIfInBounds_toArray, List.set_cons_succ, List.set_cons_zero]
        refine wpAnyH_done (by kernel_rfl) ?_ _
        have HHeld : Hid (Below W8.heap.size W8 (w9b.setCells w7a.heap.size 0 vs)) := hHeld
        have HR : Hid (HuX (fun _ => True) noHb (w9b.setCells w7a.heap.size 0 vs) vs) := (hQ.sets w7a.heap.size (old_neb hnb hltb) vs 0).imp (fun _ _ => trivial)
        have HBk : Hid (Blk (w9b.setCells w7a.heap.size 0 vs) w7a.heap.size vs) := hN.sets vs (by rw [hlen]; rfl)
        clear hHeld hQ
        go_wp2
        go_meet
        case rel => exact ⟨_, vs, rfl, rfl, HBk.out, HR.out, by omega, HHeld.out⟩
    · skip
      go_simp
      have hN := (Blk.new W8 [Value.slice none 0 0, .slice none 0 0, .int .i64 0, .slice none 0 0] 31).drew
      have hnb : W8.heap.size ≤ W8.heap.size := hHeld.size
      refine hKK.out _ _ (hHeld.alloc hHeld.size _) (fun hHeld => ?_)
      clear hKK KK
      refine wpAnyH_ready (rs := [2]) (by kernel_rfl) (by simp) ?_
      refine AllReadyH.cons rfl (fun KK hKK => ?_) AllReadyH.nil
      go_simp
      refine (C1.out _ hHeld).mono ?_
      rintro e w8b ⟨rfl, hb7⟩
      have hS7 : Below W8.heap.size W8 w8b := hHeld.trans (hb7.mono hHeld.size)
      have hgt7 := hS7.size
      have hN := hN.keep hb7
      go_wp2_with fail
      refine hKK.out _ _ (hS7) (fun hHeld => ?_)
      clear hKK KK
      clear hS7
      refine wpAnyH_ready (rs := [3]) (by kernel_rfl) (by simp) ?_
      refine AllReadyH.cons rfl (fun KK hKK => ?_) AllReadyH.nil
      go_simp
      have hltb := hN.lt
      refine (C2.out _ hHeld).mono ?_
      rintro e w9b ⟨vs, rfl, hQ, hb7⟩
      have hS7 : Below W8.heap.size W8 w9b := hHeld.trans (hb7.mono hHeld.size)
      have hgt7 := hS7.size
      have hN := hN.keep hb7
      have hlen := hQ.len
      go_wp2_with fail
      refine hKK.out _ _ (hS7) (fun hHeld => ?_)
      clear hKK KK
      clear hS7
      refine take_yes 4 33 (v := ?_) rfl rfl (by kernel_rfl) (by kernel_rfl) (by kernel_rfl) (fun _ _ _ h => h) (by rfl) ?_ hHeld ?_
      rotate_left 1
      · (intro w hSw; go_simp; try with_reducible rfl)
      simp only [Act.put, List.setIfInBounds_toArray, List.set_cons_succ, List.set_cons_zero]
      refine take_yes 5 38 (v := ?_) rfl rfl (by kernel_rfl) (by kernel_rfl) (by kernel_rfl) (fun _ _ _ h => h) (by rfl) ?_ hHeld ?_
      rotate_left 1
      · (intro w hSw; go_simp; try with_reducible rfl)
      simp only [Act.put, List.setIfInBounds_toArray, List.set_cons_succ, List.set_cons_zero]
      refine take_yes 6 39 (v := ?_) rfl rfl (by kernel_rfl) (by kernel_rfl) (by kernel_rfl) (fun _ _ _ h => h) (by rfl) ?_ hHeld ?_
      rotate_left 1
      · (intro w hSw; go_simp; try with_reducible rfl)
      simp only [Act.put, List.setIfInBounds_toArray, List.set_cons_succ, List.set_cons_zero]
      refine step_store 8 31 W8.heap.size vs (by kernel_rfl) rfl rfl (by rfl) (by rfl) (by rfl) (by rfl) (by rw [hlen]; exact hN.there) (by rw [hlen]; exact sizeHub) hQ.one (below_sets hHeld W8.heap.size (by omega) vs 0) ?_
      have hHeld := below_sets hHeld W8.heap.size (by omega) vs 0
      refine take_yes 9 8 (v := ?_) rfl rfl (by kernel_rfl) (by kernel_rfl) (by kernel_rfl) (fun _ _ _ h => h) (by rfl) ?_ hHeld ?_
      rotate_left 1
      · (intro w hSw; go_simp; try with_reducible rfl)
      simp only [Act.put, List.setIfInBounds_toArray, List.set_cons_succ, List.set_cons_zero]
      refine wpAnyH_done (by kernel_rfl) ?_ _
      have HHeld : Hid (Below W8.heap.size W8 (w9b.setCells W8.heap.size 0 vs)) := hHeld
      have HR : Hid (HuX (fun _ => True) noHb (w9b.setCells W8.heap.size 0 vs) vs) := (hQ.sets W8.heap.size (old_neb hnb hltb) vs 0).imp (fun _ _ => trivial)
      have HBk : Hid (Blk (w9b.setCells W8.heap.size 0 vs) W8.heap.size vs) := hN.sets vs (by rw [hlen]; rfl)
      clear hHeld hQ
      go_wp2
      go_meet
      case rel => exact ⟨_, vs, rfl, rfl, HBk.out, HR.out, by omega, HHeld.out⟩
  case rest =>
    obtain ⟨bz, vz, rfl, rfl, -, -, -, hbc⟩ := hcut
    have hX9 := hX8.keep hbc
    have HH9 := Lib.hid (HH8.out.keep hbc)
    have HP9 : Hid (b3 < wc.heap.size ∧ wc.cell? ⟨b3, o3 + 3 + 1, none⟩ = some (.int .i64 2)) := ⟨by have := hbc.size; have := HP8.out.1; omega, by rw [hbc.cell (by exact HP8.out.1)]; exact HP8.out.2⟩
    have HK9 : Hid (wc.cell? ⟨B5, 1, none⟩ = some (.slice s1 2 t1) ∧ B5 < wc.heap.size) := ⟨by rw [hbc.cell (by exact HK8.out.2)]; exact HK8.out.1, by have := hbc.size; have := HK8.out.2; omega⟩
    have HB9 := Lib.hid (HB8.out.trans (hbc.mono HB8.out.size))
    clear C1 C2 hX8 HH8 HP8 HK8 HB8 hbc
    rename World => W9
    have C1 : Hid (∀ W', Below W9.heap.size W9 W' → Calls Tryz.prog 15 #[.int .i64 2] W' fun e w' => e = .returned (rcV 2 1 2 (.slice none 0 0) noOp) ∧ Below W'.heap.size W' w') := fun W' _ => acc1_any W' 2
    have C2 : Hid (∀ W', Below W9.heap.size W9 W' → Calls Tryz.prog 7 #[.agg [Value.slice a0 n0 c0, .slice a1 n1 c1, .int .i64 4, .slice (some ⟨b3, o3, none⟩) 3 c3].toArray, rcV 2 1 2 (.slice none 0 0) noOp] W' (Gives (HuX (Old W9.heap.size W'.heap.size) accG) W' 0)) := by
      intro W' hw
      have hc := unext_any W' _ accH (2, 1, 2, [], noOp) none 0 (HH9.out.keep hw).is (by simp [maxLen]) (Or.inl rfl)
      rw [nextH_ok Orangery.acc2.2.2.1, Orangery.acc2.2.2.1, Orangery.acc2.2.2.2] at hc
      exact hc.mono (fun e w' ⟨vs, e1, e2, e3⟩ => ⟨vs, e1, e2.imp (fun b hb => Or.inr hb), e3⟩)
    go_upto_region 6 with fail
    go_cut [9, 10] from 40 to 46 (fun r e wc => ∃ b vs, r = .pointer (some ⟨b, 0, none⟩) ∧ e = .int .i64 0 ∧ Blk wc b vs ∧ HuX (fun _ => True) accG wc vs ∧ W9.heap.size ≤ b ∧ Below W9.heap.size W9 wc)
    case first =>
      refine wp_region_held_drew (S := fun w' => Below W9.heap.size W9 w') (by kernel_rfl) ((Below.refl _ W9).drew) (fun hHeld => ?_)
      refine take_load 0 41 31 B3 [Value.slice a0 n0 c0, .slice a1 n1 c1, .int .i64 4, .slice (some ⟨b3, o3, none⟩) 3 c3] rfl rfl (by kernel_rfl) (by kernel_rfl) (by kernel_rfl) (fun _ _ _ h => h) (by rfl) (by rfl) (by rfl) (fun w hw => (hX9.keep hw).range) Tryz.underlying31 rfl sizeHub hHeld ?_
      simp only [Act.put, List.setIfInBounds_toArray, List.set_cons_succ, List.set_cons_zero]
      refine take_yes 1 42 (v := ?_) rfl rfl (by kernel_rfl) (by kernel_rfl) (by kernel_rfl) (fun _ _ _ h => h) (by rfl) ?_ hHeld ?_
      rotate_left 1
      · (intro w hSw; go_simp; try with_reducible rfl)
      simp only [Act.put, List.setIfInBounds_toArray, List.set_cons_succ, List.set_cons_zero]
      refine wpAnyH_ready (rs := [2, 7]) (by kernel_rfl) (by simp) ?_
      refine AllReadyH.cons rfl (fun KK hKK => ?_) (AllReadyH.cons rfl (fun KK hKK => ?_) AllReadyH.nil)
      · skip
        go_simp
        refine (C1.out _ hHeld).mono ?_
        rintro e w7a ⟨rfl, hb7⟩
        have hS7 : Below W9.heap.size W9 w7a := hHeld.trans (hb7.mono hHeld.size)
        have hgt7 := hS7.size
        go_wp2_with fail
        refine hKK.out _ _ (hS7) (fun hHeld => ?_)
        clear hKK KK
        clear hS7
        refine wpAnyH_ready (rs := [3, 7]) (by kernel_rfl) (by simp) ?_
        refine AllReadyH.cons rfl (fun KK hKK => ?_) (AllReadyH.cons rfl (fun KK hKK => ?_) AllReadyH.nil)
        · skip
          go_simp
          refine (C2.out _ hHeld).mono ?_
          rintro e w8a ⟨vs, rfl, hQ, hb7⟩
          have hS7 : Below W9.heap.size W9 w8a := hHeld.trans (hb7.mono hHeld.size)
          have hgt7 := hS7.size
          have hlen := hQ.len
          go_wp2_with fail
          refine hKK.out _ _ (hS7) (fun hHeld => ?_)
          clear hKK KK
          clear hS7
          refine take_yes 4 40 (v := ?_) rfl rfl (by kernel_rfl) (by kernel_rfl) (by kernel_rfl) (fun _ _ _ h => h) (by rfl) ?_ hHeld ?_
          rotate_left 1
          · (intro w hSw; go_simp; try with_reducible rfl)
          simp only [Act.put, List.setIfInBounds_toArray, List.set_cons_succ, List.set_cons_zero]
          refine take_yes 5 45 (v := ?_) rfl rfl (by kernel_rfl) (by kernel_rfl) (by kernel_rfl) (fun _ _ _ h => h) (by rfl) ?_ hHeld ?_
          rotate_left 1
          · (intro w hSw; go_simp; try with_reducible rfl)
          simp only [Act.put, List.setIfInBounds_toArray, List.set_cons_succ, List.set_cons_zero]
          refine take_yes 6 46 (v := ?_) rfl rfl (by kernel_rfl) (by kernel_rfl) (by kernel_rfl) (fun _ _ _ h => h) (by rfl) ?_ hHeld ?_
          rotate_left 1
          · (intro w hSw; go_simp; try with_reducible rfl)
          simp only [Act.put, List.setIfInBounds_toArray, List.set_cons_succ, List.set_cons_zero]
          refine wpAnyH_ready (rs := [7]) (by kernel_rfl) (by simp) ?_
          refine AllReadyH.cons rfl (fun KK hKK => ?_) AllReadyH.nil
          go_simp
          have hN := (Blk.new w8a [Value.slice none 0 0, .slice none 0 0, .int .i64 0, .slice none 0 0] 31)
          have hgtw := hHeld.size
          refine hKK.out _ _ (hHeld.alloc hHeld.size _) (fun hHeld => ?_)
          clear hKK KK
          refine step_store 8 31 w8a.heap.size vs (by kernel_rfl) rfl rfl (by rfl) (by rfl) (by rfl) (by rfl) (by rw [hlen]; exact hN.there) (by rw [hlen]; exact sizeHub) hQ.one (below_sets hHeld w8a.heap.size (by omega) vs 0) ?_
          have hHeld := below_sets hHeld w8a.heap.size (by omega) vs 0
          refine take_yes 9 10 (v := ?_) rfl rfl (by kernel_rfl) (by kernel_rfl) (by kernel_rfl) (fun _ _ _ h => h) (by rfl) ?_ hHeld ?_
          rotate_left 1
          · (intro w hSw; go_simp; try with_reducible rfl)
          simp only [Act.put, List.setIfInBounds_toArray, List.set_cons_succ, List.set_cons_zero]
          refine wpAnyH_done (by kernel_rfl) ?_ _
          have HHeld : Hid (Below W9.heap.size W9 ((w8a.alloc (Obj.cells [Value.slice none 0 0, .slice none 0 0, .int .i64 0, .slice none 0 0].toArray 31)).setCells w8a.heap.size 0 vs)) := hHeld
          have HR : Hid (HuX (fun _ => True) accG ((w8a.alloc (Obj.cells [Value.slice none 0 0, .slice none 0 0, .int .i64 0, .slice none 0 0].toArray 31)).setCells w8a.heap.size 0 vs) vs) := ((hQ.lowD.keep (Go.Joins.below_alloc1 w8a _)).sets w8a.heap.size (fun b hb => Nat.ne_of_lt hb.2) vs 0).imp (fun _ _ => trivial)
          have HBk : Hid (Blk ((w8a.alloc (Obj.cells [Value.slice none 0 0, .slice none 0 0, .int .i64 0, .slice none 0 0].toArray 31)).setCells w8a.heap.size 0 vs) w8a.heap.size vs) := hN.sets vs (by rw [hlen]; rfl)
          clear hHeld hQ
          go_wp2
          go_meet
          case rel => exact ⟨_, vs, rfl, rfl, HBk.out, HR.out, by omega, HHeld.out⟩
        · skip
          go_simp
          have hN := (Blk.new w7a [Value.slice none 0 0, .slice none 0 0, .int .i64 0, .slice none 0 0] 31)
          have hnb : W9.heap.size ≤ w7a.heap.size := hHeld.size
          refine hKK.out _ _ (hHeld.alloc hHeld.size _) (fun hHeld => ?_)
          clear hKK KK
          refine wpAnyH_ready (rs := [3]) (by kernel_rfl) (by simp) ?_
          refine AllReadyH.cons rfl (fun KK hKK => ?_) AllReadyH.nil
          go_simp
          have hltb := hN.lt
          refine (C2.out _ hHeld).mono ?_
          rintro e w9b ⟨vs, rfl, hQ, hb7⟩
          have hS7 : Below W9.heap.size W9 w9b := hHeld.trans (hb7.mono hHeld.size)
          have hgt7 := hS7.size
          have hN := hN.keep hb7
          have hlen := hQ.len
          go_wp2_with fail
          refine hKK.out _ _ (hS7) (fun hHeld => ?_)
          clear hKK KK
          clear hS7
          refine take_yes 4 40 (v := ?_) rfl rfl (by kernel_rfl) (by kernel_rfl) (by kernel_rfl) (fun _ _ _ h => h) (by rfl) ?_ hHeld ?_
          rotate_left 1
          · (intro w hSw; go_simp; try with_reducible rfl)
          simp only [Act.put, List.setIfInBounds_toArray, List.set_cons_succ, List.set_cons_zero]
          refine take_yes 5 45 (v := ?_) rfl rfl (by kernel_rfl) (by kernel_rfl) (by kernel_rfl) (fun _ _ _ h => h) (by rfl) ?_ hHeld ?_
          rotate_left 1
          · (intro w hSw; go_simp; try with_reducible rfl)
          simp only [Act.put, List.setIfInBounds_toArray, List.set_cons_succ, List.set_cons_zero]
          refine take_yes 6 46 (v := ?_) rfl rfl (by kernel_rfl) (by kernel_rfl) (by kernel_rfl) (fun _ _ _ h => h) (by rfl) ?_ hHeld ?_
          rotate_left 1
          · (intro w hSw; go_simp; try with_reducible rfl)
          simp only [Act.put, List.setIfInBounds_toArray, List.set_cons_succ, List.set_cons_zero]
          refine step_store 8 31 w7a.heap.size vs (by kernel_rfl) rfl rfl (by rfl) (by rfl) (by rfl) (by rfl) (by rw [hlen]; exact hN.there) (by rw [hlen]; exact sizeHub) hQ.one (below_sets hHeld w7a.heap.size (by omega) vs 0) ?_
          have hHeld := below_sets hHeld w7a.heap.size (by omega) vs 0
          refine take_yes 9 10 (v := ?_) rfl rfl (by kernel_rfl) (by kernel_rfl) (by kernel_rfl) (fun _ _ _ h => h) (by rfl) ?_ hHeld ?_
          rotate_left 1
          · (intro w hSw; go_simp; try with_reducible rfl)
          simp only [Act.put, List.setIfInBounds_toArray, List.set_cons_succ, List.set_cons_zero]
          refine wpAnyH_done (by kernel_rfl) ?_ _
          have HHeld : Hid (Below W9.heap.size W9 (w9b.setCells w7a.heap.size 0 vs)) := hHeld
          have HR : Hid (HuX (fun _ => True) accG (w9b.setCells w7a.heap.size 0 vs) vs) := (hQ.sets w7a.heap.size (old_neb hnb hltb) vs 0).imp (fun _ _ => trivial)
          have HBk : Hid (Blk (w9b.setCells w7a.heap.size 0 vs) w7a.heap.size vs) := hN.sets vs (by rw [hlen]; rfl)
          clear hHeld hQ
          go_wp2
          go_meet
          case rel => exact ⟨_, vs, rfl, rfl, HBk.out, HR.out, by omega, HHeld.out⟩
      · skip
        go_simp
        have hN := (Blk.new W9 [Value.slice none 0 0, .slice none 0 0, .int .i64 0, .slice none 0 0] 31).drew
        have hnb : W9.heap.size ≤ W9.heap.size := hHeld.size
        refine hKK.out _ _ (hHeld.alloc hHeld.size _) (fun hHeld => ?_)
        clear hKK KK
        refine wpAnyH_ready (rs := [2]) (by kernel_rfl) (by simp) ?_
        refine AllReadyH.cons rfl (fun KK hKK => ?_) AllReadyH.nil
        go_simp
        refine (C1.out _ hHeld).mono ?_
        rintro e w8b ⟨rfl, hb7⟩
        have hS7 : Below W9.heap.size W9 w8b := hHeld.trans (hb7.mono hHeld.size)
        have hgt7 := hS7.size
        have hN := hN.keep hb7
        go_wp2_with fail
        refine hKK.out _ _ (hS7) (fun hHeld => ?_)
        clear hKK KK
        clear hS7
        refine wpAnyH_ready (rs := [3]) (by kernel_rfl) (by simp) ?_
        refine AllReadyH.cons rfl (fun KK hKK => ?_) AllReadyH.nil
        go_simp
        have hltb := hN.lt
        refine (C2.out _ hHeld).mono ?_
        rintro e w9b ⟨vs, rfl, hQ, hb7⟩
        have hS7 : Below W9.heap.size W9 w9b := hHeld.trans (hb7.mono hHeld.size)
        have hgt7 := hS7.size
        have hN := hN.keep hb7
        have hlen := hQ.len
        go_wp2_with fail
        refine hKK.out _ _ (hS7) (fun hHeld => ?_)
        clear hKK KK
        clear hS7
        refine take_yes 4 40 (v := ?_) rfl rfl (by kernel_rfl) (by kernel_rfl) (by kernel_rfl) (fun _ _ _ h => h) (by rfl) ?_ hHeld ?_
        rotate_left 1
        · (intro w hSw; go_simp; try with_reducible rfl)
        simp only [Act.put, List.setIfInBounds_toArray, List.set_cons_succ, List.set_cons_zero]
        refine take_yes 5 45 (v := ?_) rfl rfl (by kernel_rfl) (by kernel_rfl) (by kernel_rfl) (fun _ _ _ h => h) (by rfl) ?_ hHeld ?_
        rotate_left 1
        · (intro w hSw; go_simp; try with_reducible rfl)
        simp only [Act.put, List.setIfInBounds_toArray, List.set_cons_succ, List.set_cons_zero]
        refine take_yes 6 46 (v := ?_) rfl rfl (by kernel_rfl) (by kernel_rfl) (by kernel_rfl) (fun _ _ _ h => h) (by rfl) ?_ hHeld ?_
        rotate_left 1
        · (intro w hSw; go_simp; try with_reducible rfl)
        simp only [Act.put, List.setIfInBounds_toArray, List.set_cons_succ, List.set_cons_zero]
        refine step_store 8 31 W9.heap.size vs (by kernel_rfl) rfl rfl (by rfl) (by rfl) (by rfl) (by rfl) (by rw [hlen]; exact hN.there) (by rw [hlen]; exact sizeHub) hQ.one (below_sets hHeld W9.heap.size (by omega) vs 0) ?_
        have hHeld := below_sets hHeld W9.heap.size (by omega) vs 0
        refine take_yes 9 10 (v := ?_) rfl rfl (by kernel_rfl) (by kernel_rfl) (by kernel_rfl) (fun _ _ _ h => h) (by rfl) ?_ hHeld ?_
        rotate_left 1
        · (intro w hSw; go_simp; try with_reducible rfl)
        simp only [Act.put, List.setIfInBounds_toArray, List.set_cons_succ, List.set_cons_zero]
        refine wpAnyH_done (by kernel_rfl) ?_ _
        have HHeld : Hid (Below W9.heap.size W9 (w9b.setCells W9.heap.size 0 vs)) := hHeld
        have HR : Hid (HuX (fun _ => True) accG (w9b.setCells W9.heap.size 0 vs) vs) := (hQ.sets W9.heap.size (old_neb hnb hltb) vs 0).imp (fun _ _ => trivial)
        have HBk : Hid (Blk (w9b.setCells W9.heap.size 0 vs) W9.heap.size vs) := hN.sets vs (by rw [hlen]; rfl)
        clear hHeld hQ
        go_wp2
        go_meet
        case rel => exact ⟨_, vs, rfl, rfl, HBk.out, HR.out, by omega, HHeld.out⟩
    case rest =>
      obtain ⟨B9, vz, rfl, rfl, hG, hGx, -, hbc⟩ := hcut
      obtain ⟨d0, l0, k0, d1, l1, k1, b9, o9, k3, ar9, cr9, rfl, hlb9, p1, p2, p3⟩ : PeerB 5 2 0 0 wc vz := hGx.peer rfl rfl rfl rfl rfl
      have HG10 := Lib.hid hGx
      have HQ10 : Hid (b9 < wc.heap.size ∧ wc.cell? ⟨b9, o9 + 3 + 1, none⟩ = some (.int .i64 0) ∧ wc.cell? ⟨b9, o9 + 3 + 2, none⟩ = some (.slice ar9 0 cr9)) := ⟨hlb9, p2, p3⟩
      have hX10 := hX9.keep hbc
      have HH10 := Lib.hid (HH9.out.keep hbc)
      have HP10 : Hid (b3 < wc.heap.size ∧ wc.cell? ⟨b3, o3 + 3 + 1, none⟩ = some (.int .i64 2)) := ⟨by have := hbc.size; have := HP9.out.1; omega, by rw [hbc.cell (by exact HP9.out.1)]; exact HP9.out.2⟩
      have HK10 : Hid (wc.cell? ⟨B5, 1, none⟩ = some (.slice s1 2 t1) ∧ B5 < wc.heap.size) := ⟨by rw [hbc.cell (by exact HK9.out.2)]; exact HK9.out.1, by have := hbc.size; have := HK9.out.2; omega⟩
      have HB10 := Lib.hid (HB9.out.trans (hbc.mono HB9.out.size))
      clear C1 C2 hX9 HH9 HP9 HK9 HB9 hbc hGx hlb9 p1 p2 p3
      rename World => W10
      have C1 : Hid (∀ W', Below W10.heap.size W10 W' → Calls Tryz.prog 16 #[.int .i64 3, .int .i64 4, .int .i64 0, .int .i64 1, .int .i64 3] W' fun e w' => e = .returned (rcV 1 0 0 (.slice none 0 0) (3, 1, (4, 0, 0), 1, 3)) ∧ Below W'.heap.size W' w') := fun W' _ => acc2_any W' 3 4 0 1 3
      have C2 : Hid (∀ W', Below W10.heap.size W10 W' → Calls Tryz.prog 7 #[.agg [Value.slice d0 l0 k0, .slice d1 l1 k1, .int .i64 5, .slice (some ⟨b9, o9, none⟩) 3 k3].toArray, rcV 1 0 0 (.slice none 0 0) (3, 1, (4, 0, 0), 1, 3)] W' (Gives (HuX (Old W10.heap.size W'.heap.size) noHb) W' 7)) := by
        intro W' hw
        have hc := unext_any W' _ accG (1, 0, 0, [], (3, 1, (4, 0, 0), 1, 3)) none 0 (HG10.out.keep hw).is (by simp [maxLen]) (Or.inl rfl)
        rw [nextH_bad (by rw [Orangery.acc3.1]; omega), Orangery.acc3.1] at hc
        exact hc.mono (fun e w' ⟨vs, e1, e2, e3⟩ => ⟨vs, e1, e2.imp (fun b hb => Or.inr hb), e3⟩)
      go_upto_region 7 with fail
      go_cut [11, 12] from 47 to 53 (fun r e wc => ∃ b vs, r = .pointer (some ⟨b, 0, none⟩) ∧ e = .int .i64 7 ∧ Blk wc b vs ∧ HuX (fun _ => True) noHb wc vs ∧ W10.heap.size ≤ b ∧ Below W10.heap.size W10 wc)
      case first =>
        refine wp_region_held_drew (S := fun w' => Below W10.heap.size W10 w') (by kernel_rfl) ((Below.refl _ W10).drew) (fun hHeld => ?_)
        refine take_load 0 48 31 B9 [Value.slice d0 l0 k0, .slice d1 l1 k1, .int .i64 5, .slice (some ⟨b9, o9, none⟩) 3 k3] rfl rfl (by kernel_rfl) (by kernel_rfl) (by kernel_rfl) (fun _ _ _ h => h) (by rfl) (by rfl) (by rfl) (fun w hw => (hG.keep hw).range) Tryz.underlying31 rfl sizeHub hHeld ?_
        simp only [Act.put, List.setIfInBounds_toArray, List.set_cons_succ, List.set_cons_zero]
        refine take_yes 1 49 (v := ?_) rfl rfl (by kernel_rfl) (by kernel_rfl) (by kernel_rfl) (fun _ _ _ h => h) (by rfl) ?_ hHeld ?_
        rotate_left 1
        · (intro w hSw; go_simp; try with_reducible rfl)
        simp only [Act.put, List.setIfInBounds_toArray, List.set_cons_succ, List.set_cons_zero]
        refine wpAnyH_ready (rs := [2, 7]) (by kernel_rfl) (by simp) ?_
        refine AllReadyH.cons rfl (fun KK hKK => ?_) (AllReadyH.cons rfl (fun KK hKK => ?_) AllReadyH.nil)
        · skip
          go_simp
          refine (C1.out _ hHeld).mono ?_
          rintro e w7a ⟨rfl, hb7⟩
          have hS7 : Below W10.heap.size W10 w7a := hHeld.trans (hb7.mono hHeld.size)
          have hgt7 := hS7.size
          go_wp2_with fail
          refine hKK.out _ _ (hS7) (fun hHeld => ?_)
          clear hKK KK
          clear hS7
          refine wpAnyH_ready (rs := [3, 7]) (by kernel_rfl) (by simp) ?_
          refine AllReadyH.cons rfl (fun KK hKK => ?_) (AllReadyH.cons rfl (fun KK hKK => ?_) AllReadyH.nil)
          · skip
            go_simp
            refine (C2.out _ hHeld).mono ?_
            rintro e w8a ⟨vs, rfl, hQ, hb7⟩
            have hS7 : Below W10.heap.size W10 w8a := hHeld.trans (hb7.mono hHeld.size)
            have hgt7 := hS7.size
            have hlen := hQ.len
            go_wp2_with fail
            refine hKK.out _ _ (hS7) (fun hHeld => ?_)
            clear hKK KK
            clear hS7
            refine take_yes 4 47 (v := ?_) rfl rfl (by kernel_rfl) (by kernel_rfl) (by kernel_rfl) (fun _ _ _ h => h) (by rfl) ?_ hHeld ?_
            rotate_left 1
            · (intro w hSw; go_simp; try with_reducible rfl)
            simp only [Act.put, List.setIfInBounds_toArray, List.set_cons_succ, List.set_cons_zero]
            refine take_yes 5 52 (v := ?_) rfl rfl (by kernel_rfl) (by kernel_rfl) (by kernel_rfl) (fun _ _ _ h => h) (by rfl) ?_ hHeld ?_
            rotate_left 1
            · (intro w hSw; go_simp; try with_reducible rfl)
            simp only [Act.put, List.setIfInBounds_toArray, List.set_cons_succ, List.set_cons_zero]
            refine take_yes 6 53 (v := ?_) rfl rfl (by kernel_rfl) (by kernel_rfl) (by kernel_rfl) (fun _ _ _ h => h) (by rfl) ?_ hHeld ?_
            rotate_left 1
            · (intro w hSw; go_simp; try with_reducible rfl)
            simp only [Act.put, List.setIfInBounds_toArray, List.set_cons_succ, List.set_cons_zero]
            refine wpAnyH_ready (rs := [7]) (by kernel_rfl) (by simp) ?_
            refine AllReadyH.cons rfl (fun KK hKK => ?_) AllReadyH.nil
            go_simp
            have hN := (Blk.new w8a [Value.slice none 0 0, .slice none 0 0, .int .i64 0, .slice none 0 0] 31)
            have hgtw := hHeld.size
            refine hKK.out _ _ (hHeld.alloc hHeld.size _) (fun hHeld => ?_)
            clear hKK KK
            refine step_store 8 31 w8a.heap.size vs (by kernel_rfl) rfl rfl (by rfl) (by rfl) (by rfl) (by rfl) (by rw [hlen]; exact hN.there) (by rw [hlen]; exact sizeHub) hQ.one (below_sets hHeld w8a.heap.size (by omega) vs 0) ?_
            have hHeld := below_sets hHeld w8a.heap.size (by omega) vs 0
            refine take_yes 9 12 (v := ?_) rfl rfl (by kernel_rfl) (by kernel_rfl) (by kernel_rfl) (fun _ _ _ h => h) (by rfl) ?_ hHeld ?_
            rotate_left 1
            · (intro w hSw; go_simp; try with_reducible rfl)
            simp only [Act.put, List.setIfInBounds_toArray, List.set_cons_succ, List.set_cons_zero]
            refine wpAnyH_done (by kernel_rfl) ?_ _
            have HHeld : Hid (Below W10.heap.size W10 ((w8a.alloc (Obj.cells [Value.slice none 0 0, .slice none 0 0, .int .i64 0, .slice none 0 0].toArray 31)).setCells w8a.heap.size 0 vs)) := hHeld
            have HR : Hid (HuX (fun _ => True) noHb ((w8a.alloc (Obj.cells [Value.slice none 0 0, .slice none 0 0, .int .i64 0, .slice none 0 0].toArray 31)).setCells w8a.heap.size 0 vs) vs) := ((hQ.lowD.keep (Go.Joins.below_alloc1 w8a _)).sets w8a.heap.size (fun b hb => Nat.ne_of_lt hb.2) vs 0).imp (fun _ _ => trivial)
            have HBk : Hid (Blk ((w8a.alloc (Obj.cells [Value.slice none 0 0, .slice none 0 0, .int .i64 0, .slice none 0 0].toArray 31)).setCells w8a.heap.size 0 vs) w8a.heap.size vs) := hN.sets vs (by rw [hlen]; rfl)
            clear hHeld hQ
            go_wp2
            go_meet
            case rel => exact ⟨_, vs, rfl, rfl, HBk.out, HR.out, by omega, HHeld.out⟩
          · skip
            go_simp
            have hN := (Blk.new w7a [Value.slice none 0 0, .slice none 0 0, .int .i64 0, .slice none 0 0] 31)
            have hnb : W10.heap.size ≤ w7a.heap.size := hHeld.size
            refine hKK.out _ _ (hHeld.alloc hHeld.size _) (fun hHeld => ?_)
            clear hKK KK
            refine wpAnyH_ready (rs := [3]) (by kernel_rfl) (by simp) ?_
            refine AllReadyH.cons rfl (fun KK hKK => ?_) AllReadyH.nil
            go_simp
            have hltb := hN.lt
            refine (C2.out _ hHeld).mono ?_
            rintro e w9b ⟨vs, rfl, hQ, hb7⟩
            have hS7 : Below W10.heap.size W10 w9b := hHeld.trans (hb7.mono hHeld.size)
            have hgt7 := hS7.size
            have hN := hN.keep hb7
            have hlen := hQ.len
            go_wp2_with fail
            refine hKK.out _ _ (hS7) (fun hHeld => ?_)
            clear hKK KK
            clear hS7
            refine take_yes 4 47 (v := ?_) rfl rfl (by kernel_rfl) (by kernel_rfl) (by kernel_rfl) (fun _ _ _ h => h) (by rfl) ?_ hHeld ?_
            rotate_left 1
            · (intro w hSw; go_simp; try with_reducible rfl)
            simp only [Act.put, List.setIfInBounds_toArray, List.set_cons_succ, List.set_cons_zero]
            refine take_yes 5 52 (v := ?_) rfl rfl (by kernel_rfl) (by kernel_rfl) (by kernel_rfl) (fun _ _ _ h => h) (by rfl) ?_ hHeld ?_
            rotate_left 1
            · (intro w hSw; go_simp; try with_reducible rfl)
            simp only [Act.put, List.setIfInBounds_toArray, List.set_cons_succ, List.set_cons_zero]
            refine take_yes 6 53 (v := ?_) rfl rfl (by kernel_rfl) (by kernel_rfl) (by kernel_rfl) (fun _ _ _ h => h) (by rfl) ?_ hHeld ?_
            rotate_left 1
            · (intro w hSw; go_simp; try with_reducible rfl)
            simp only [Act.put, List.setIfInBounds_toArray, List.set_cons_succ, List.set_cons_zero]
            refine step_store 8 31 w7a.heap.size vs (by kernel_rfl) rfl rfl (by rfl) (by rfl) (by rfl) (by rfl) (by rw [hlen]; exact hN.there) (by rw [hlen]; exact sizeHub) hQ.one (below_sets hHeld w7a.heap.size (by omega) vs 0) ?_
            have hHeld := below_sets hHeld w7a.heap.size (by omega) vs 0
            refine take_yes 9 12 (v := ?_) rfl rfl (by kernel_rfl) (by kernel_rfl) (by kernel_rfl) (fun _ _ _ h => h) (by rfl) ?_ hHeld ?_
            rotate_left 1
            · (intro w hSw; go_simp; try with_reducible rfl)
            simp only [Act.put, List.setIfInBounds_toArray, List.set_cons_succ, List.set_cons_zero]
            refine wpAnyH_done (by kernel_rfl) ?_ _
            have HHeld : Hid (Below W10.heap.size W10 (w9b.setCells w7a.heap.size 0 vs)) := hHeld
            have HR : Hid (HuX (fun _ => True) noHb (w9b.setCells w7a.heap.size 0 vs) vs) := (hQ.sets w7a.heap.size (old_neb hnb hltb) vs 0).imp (fun _ _ => trivial)
            have HBk : Hid (Blk (w9b.setCells w7a.heap.size 0 vs) w7a.heap.size vs) := hN.sets vs (by rw [hlen]; rfl)
            clear hHeld hQ
            go_wp2
            go_meet
            case rel => exact ⟨_, vs, rfl, rfl, HBk.out, HR.out, by omega, HHeld.out⟩
        · skip
          go_simp
          have hN := (Blk.new W10 [Value.slice none 0 0, .slice none 0 0, .int .i64 0, .slice none 0 0] 31).drew
          have hnb : W10.heap.size ≤ W10.heap.size := hHeld.size
          refine hKK.out _ _ (hHeld.alloc hHeld.size _) (fun hHeld => ?_)
          clear hKK KK
          refine wpAnyH_ready (rs := [2]) (by kernel_rfl) (by simp) ?_
          refine AllReadyH.cons rfl (fun KK hKK => ?_) AllReadyH.nil
          go_simp
          refine (C1.out _ hHeld).mono ?_
          rintro e w8b ⟨rfl, hb7⟩
          have hS7 : Below W10.heap.size W10 w8b := hHeld.trans (hb7.mono hHeld.size)
          have hgt7 := hS7.size
          have hN := hN.keep hb7
          go_wp2_with fail
          refine hKK.out _ _ (hS7) (fun hHeld => ?_)
          clear hKK KK
          clear hS7
          refine wpAnyH_ready (rs := [3]) (by kernel_rfl) (by simp) ?_
          refine AllReadyH.cons rfl (fun KK hKK => ?_) AllReadyH.nil
          go_simp
          have hltb := hN.lt
          refine (C2.out _ hHeld).mono ?_
          rintro e w9b ⟨vs, rfl, hQ, hb7⟩
          have hS7 : Below W10.heap.size W10 w9b := hHeld.trans (hb7.mono hHeld.size)
          have hgt7 := hS7.size
          have hN := hN.keep hb7
          have hlen := hQ.len
          go_wp2_with fail
          refine hKK.out _ _ (hS7) (fun hHeld => ?_)
          clear hKK KK
          clear hS7
          refine take_yes 4 47 (v := ?_) rfl rfl (by kernel_rfl) (by kernel_rfl) (by kernel_rfl) (fun _ _ _ h => h) (by rfl) ?_ hHeld ?_
          rotate_left 1
          · (intro w hSw; go_simp; try with_reducible rfl)
          simp only [Act.put, List.setIfInBounds_toArray, List.set_cons_succ, List.set_cons_zero]
          refine take_yes 5 52 (v := ?_) rfl rfl (by kernel_rfl) (by kernel_rfl) (by kernel_rfl) (fun _ _ _ h => h) (by rfl) ?_ hHeld ?_
          rotate_left 1
          · (intro w hSw; go_simp; try with_reducible rfl)
          simp only [Act.put, List.setIfInBounds_toArray, List.set_cons_succ, List.set_cons_zero]
          refine take_yes 6 53 (v := ?_) rfl rfl (by kernel_rfl) (by kernel_rfl) (by kernel_rfl) (fun _ _ _ h => h) (by rfl) ?_ hHeld ?_
          rotate_left 1
          · (intro w hSw; go_simp; try with_reducible rfl)
          simp only [Act.put, List.setIfInBounds_toArray, List.set_cons_succ, List.set_cons_zero]
          refine step_store 8 31 W10.heap.size vs (by kernel_rfl) rfl rfl (by rfl) (by rfl) (by rfl) (by rfl) (by rw [hlen]; exact hN.there) (by rw [hlen]; exact sizeHub) hQ.one (below_sets hHeld W10.heap.size (by omega) vs 0) ?_
          have hHeld := below_sets hHeld W10.heap.size (by omega) vs 0
          refine take_yes 9 12 (v := ?_) rfl rfl (by kernel_rfl) (by kernel_rfl) (by kernel_rfl) (fun _ _ _ h => h) (by rfl) ?_ hHeld ?_
          rotate_left 1
          · (intro w hSw; go_simp; try with_reducible rfl)
          simp only [Act.put, List.setIfInBounds_toArray, List.set_cons_succ, List.set_cons_zero]
          refine wpAnyH_done (by kernel_rfl) ?_ _
          have HHeld : Hid (Below W10.heap.size W10 (w9b.setCells W10.heap.size 0 vs)) := hHeld
          have HR : Hid (HuX (fun _ => True) noHb (w9b.setCells W10.heap.size 0 vs) vs) := (hQ.sets W10.heap.size (old_neb hnb hltb) vs 0).imp (fun _ _ => trivial)
          have HBk : Hid (Blk (w9b.setCells W10.heap.size 0 vs) W10.heap.size vs) := hN.sets vs (by rw [hlen]; rfl)
          clear hHeld hQ
          go_wp2
          go_meet
          case rel => exact ⟨_, vs, rfl, rfl, HBk.out, HR.out, by omega, HHeld.out⟩
      case rest =>
        obtain ⟨bz2, vz2, rfl, rfl, -, -, -, hbc⟩ := hcut
        have hG11 := hG.keep hbc
        have HG11 := Lib.hid (HG10.out.keep hbc)
        have HQ11 : Hid (b9 < wc.heap.size ∧ wc.cell? ⟨b9, o9 + 3 + 1, none⟩ = some (.int .i64 0) ∧ wc.cell? ⟨b9, o9 + 3 + 2, none⟩ = some (.slice ar9 0 cr9)) := ⟨by have := hbc.size; have := HQ10.out.1; omega, by rw [hbc.cell (by exact HQ10.out.1)]; exact HQ10.out.2.1, by rw [hbc.cell (by exact HQ10.out.1)]; exact HQ10.out.2.2⟩
        have hX11 := hX10.keep hbc
        have HH11 := Lib.hid (HH10.out.keep hbc)
        have HP11 : Hid (b3 < wc.heap.size ∧ wc.cell? ⟨b3, o3 + 3 + 1, none⟩ = some (.int .i64 2)) := ⟨by have := hbc.size; have := HP10.out.1; omega, by rw [hbc.cell (by exact HP10.out.1)]; exact HP10.out.2⟩
        have HK11 : Hid (wc.cell? ⟨B5, 1, none⟩ = some (.slice s1 2 t1) ∧ B5 < wc.heap.size) := ⟨by rw [hbc.cell (by exact HK10.out.2)]; exact HK10.out.1, by have := hbc.size; have := HK10.out.2; omega⟩
        have HB11 := Lib.hid (HB10.out.trans (hbc.mono HB10.out.size))
        clear C1 C2 hX10 HH10 HP10 HK10 HB10 hbc hG HG10 HQ10
        rename World => W11
        have C1 : Hid (∀ W', Below W11.heap.size W11 W' → Calls Tryz.prog 16 #[.int .i64 3, .int .i64 4, .int .i64 0, .int .i64 2, .int .i64 1] W' fun e w' => e = .returned (rcV 1 0 0 (.slice none 0 0) (3, 1, (4, 0, 0), 2, 1)) ∧ Below W'.heap.size W' w') := fun W' _ => acc2_any W' 3 4 0 2 1
        have C2 : Hid (∀ W', Below W11.heap.size W11 W' → Calls Tryz.prog 7 #[.agg [Value.slice d0 l0 k0, .slice d1 l1 k1, .int .i64 5, .slice (some ⟨b9, o9, none⟩) 3 k3].toArray, rcV 1 0 0 (.slice none 0 0) (3, 1, (4, 0, 0), 2, 1)] W' (Gives (HuX (Old W11.heap.size W'.heap.size) (nextH accG (1, 0, 0, [], (3, 1, (4, 0, 0), 2, 1)))) W' 0)) := by
          intro W' hw
          have hc := unext_any W' _ accG (1, 0, 0, [], (3, 1, (4, 0, 0), 2, 1)) none 0 (HG11.out.keep hw).is (by simp [maxLen]) (Or.inl rfl)
          rw [Orangery.acc3.2] at hc
          exact hc.mono (fun e w' ⟨vs, e1, e2, e3⟩ => ⟨vs, e1, e2.imp (fun b hb => Or.inr hb), e3⟩)
        generalize nextH accG (1, 0, 0, [], (3, 1, (4, 0, 0), 2, 1)) = HZ at *
        go_upto_region 8 with fail
        go_cut [13, 14] from 54 to 60 (fun r e wc => ∃ b vs, r = .pointer (some ⟨b, 0, none⟩) ∧ e = .int .i64 0 ∧ Blk wc b vs ∧ HuX (fun _ => True) HZ wc vs ∧ W11.heap.size ≤ b ∧ Below W11.heap.size W11 wc)
        case first =>
          refine wp_region_held_drew (S := fun w' => Below W11.heap.size W11 w') (by kernel_rfl) ((Below.refl _ W11).drew) (fun hHeld => ?_)
          refine take_load 0 55 31 B9 [Value.slice d0 l0 k0, .slice d1 l1 k1, .int .i64 5, .slice (some ⟨b9, o9, none⟩) 3 k3] rfl rfl (by kernel_rfl) (by kernel_rfl) (by kernel_rfl) (fun _ _ _ h => h) (by rfl) (by rfl) (by rfl) (fun w hw => (hG11.keep hw).range) Tryz.underlying31 rfl sizeHub hHeld ?_
          simp only [Act.put, List.setIfInBounds_toArray, List.set_cons_succ, List.set_cons_zero]
          refine take_yes 1 56 (v := ?_) rfl rfl (by kernel_rfl) (by kernel_rfl) (by kernel_rfl) (fun _ _ _ h => h) (by rfl) ?_ hHeld ?_
          rotate_left 1
          · (intro w hSw; go_simp; try with_reducible rfl)
          simp only [Act.put, List.setIfInBounds_toArray, List.set_cons_succ, List.set_cons_zero]
          refine wpAnyH_ready (rs := [2, 7]) (by kernel_rfl) (by simp) ?_
          refine AllReadyH.cons rfl (fun KK hKK => ?_) (AllReadyH.cons rfl (fun KK hKK => ?_) AllReadyH.nil)
          · skip
            go_simp
            refine (C1.out _ hHeld).mono ?_
            rintro e w7a ⟨rfl, hb7⟩
            have hS7 : Below W11.heap.size W11 w7a := hHeld.trans (hb7.mono hHeld.size)
            have hgt7 := hS7.size
            go_wp2_with fail
            refine hKK.out _ _ (hS7) (fun hHeld => ?_)
            clear hKK KK
            clear hS7
            refine wpAnyH_ready (rs := [3, 7]) (by kernel_rfl) (by simp) ?_
            refine AllReadyH.cons rfl (fun KK hKK => ?_) (AllReadyH.cons rfl (fun KK hKK => ?_) AllReadyH.nil)
            · skip
              go_simp
              refine (C2.out _ hHeld).mono ?_
              rintro e w8a ⟨vs, rfl, hQ, hb7⟩
              have hS7 : Below W11.heap.size W11 w8a := hHeld.trans (hb7.mono hHeld.size)
              have hgt7 := hS7.size
              have hlen := hQ.len
              go_wp2_with fail
              refine hKK.out _ _ (hS7) (fun hHeld => ?_)
              clear hKK KK
              clear hS7
              refine take_yes 4 54 (v := ?_) rfl rfl (by kernel_rfl) (by kernel_rfl) (by kernel_rfl) (fun _ _ _ h => h) (by rfl) ?_ hHeld ?_
              rotate_left 1
              · (intro w hSw; go_simp; try with_reducible rfl)
              simp only [Act.put, List.setIfInBounds_toArray, List.set_cons_succ, List.set_cons_zero]
              refine take_yes 5 59 (v := ?_) rfl rfl (by kernel_rfl) (by kernel_rfl) (by kernel_rfl) (fun _ _ _ h => h) (by rfl) ?_ hHeld ?_
              rotate_left 1
              · (intro w hSw; go_simp; try with_reducible rfl)
              simp only [Act.put, List.setIfInBounds_toArray, List.set_cons_succ, List.set_cons_zero]
              refine take_yes 6 60 (v := ?_) rfl rfl (by kernel_rfl) (by kernel_rfl) (by kernel_rfl) (fun _ _ _ h => h) (by rfl) ?_ hHeld ?_
              rotate_left 1
              · (intro w hSw; go_simp; try with_reducible rfl)
              simp only [Act.put, List.setIfInBounds_toArray, List.set_cons_succ, List.set_cons_zero]
              refine wpAnyH_ready (rs := [7]) (by kernel_rfl) (by simp) ?_
              refine AllReadyH.cons rfl (fun KK hKK => ?_) AllReadyH.nil
              go_simp
              have hN := (Blk.new w8a [Value.slice none 0 0, .slice none 0 0, .int .i64 0, .slice none 0 0] 31)
              have hgtw := hHeld.size
              refine hKK.out _ _ (hHeld.alloc hHeld.size _) (fun hHeld => ?_)
              clear hKK KK
              refine step_store 8 31 w8a.heap.size vs (by kernel_rfl) rfl rfl (by rfl) (by rfl) (by rfl) (by rfl) (by rw [hlen]; exact hN.there) (by rw [hlen]; exact sizeHub) hQ.one (below_sets hHeld w8a.heap.size (by omega) vs 0) ?_
              have hHeld := below_sets hHeld w8a.heap.size (by omega) vs 0
              refine take_yes 9 14 (v := ?_) rfl rfl (by kernel_rfl) (by kernel_rfl) (by kernel_rfl) (fun _ _ _ h => h) (by rfl) ?_ hHeld ?_
              rotate_left 1
              · (intro w hSw; go_simp; try with_reducible rfl)
              simp only [Act.put, List.setIfInBounds_toArray, List.set_cons_succ, List.set_cons_zero]
              refine wpAnyH_done (by kernel_rfl) ?_ _
              have HHeld : Hid (Below W11.heap.size W11 ((w8a.alloc (Obj.cells [Value.slice none 0 0, .slice none 0 0, .int .i64 0, .slice none 0 0].toArray 31)).setCells w8a.heap.size 0 vs)) := hHeld
              have HR : Hid (HuX (fun _ => True) HZ ((w8a.alloc (Obj.cells [Value.slice none 0 0, .slice none 0 0, .int .i64 0, .slice none 0 0].toArray 31)).setCells w8a.heap.size 0 vs) vs) := ((hQ.lowD.keep (Go.Joins.below_alloc1 w8a _)).sets w8a.heap.size (fun b hb => Nat.ne_of_lt hb.2) vs 0).imp (fun _ _ => trivial)
              have HBk : Hid (Blk ((w8a.alloc (Obj.cells [Value.slice none 0 0, .slice none 0 0, .int .i64 0, .slice none 0 0].toArray 31)).setCells w8a.heap.size 0 vs) w8a.heap.size vs) := hN.sets vs (by rw [hlen]; rfl)
              clear hHeld hQ
              go_wp2
              go_meet
              case rel => exact ⟨_, vs, rfl, rfl, HBk.out, HR.out, by omega, HHeld.out⟩
            · skip
              go_simp
              have hN := (Blk.new w7a [Value.slice none 0 0, .slice none 0 0, .int .i64 0, .slice none 0 0] 31)
              have hnb : W11.heap.size ≤ w7a.heap.size := hHeld.size
              refine hKK.out _ _ (hHeld.alloc hHeld.size _) (fun hHeld => ?_)
              clear hKK KK
              refine wpAnyH_ready (rs := [3]) (by kernel_rfl) (by simp) ?_
              refine AllReadyH.cons rfl (fun KK hKK => ?_) AllReadyH.nil
              go_simp
              have hltb := hN.lt
              refine (C2.out _ hHeld).mono ?_
              rintro e w9b ⟨vs, rfl, hQ, hb7⟩
              have hS7 : Below W11.heap.size W11 w9b := hHeld.trans (hb7.mono hHeld.size)
              have hgt7 := hS7.size
              have hN := hN.keep hb7
              have hlen := hQ.len
              go_wp2_with fail
              refine hKK.out _ _ (hS7) (fun hHeld => ?_)
              clear hKK KK
              clear hS7
              refine take_yes 4 54 (v := ?_) rfl rfl (by kernel_rfl) (by kernel_rfl) (by kernel_rfl) (fun _ _ _ h => h) (by rfl) ?_ hHeld ?_
              rotate_left 1
              · (intro w hSw; go_simp; try with_reducible rfl)
              simp only [Act.put, List.setIfInBounds_toArray, List.set_cons_succ, List.set_cons_zero]
              refine take_yes 5 59 (v := ?_) rfl rfl (by kernel_rfl) (by kernel_rfl) (by kernel_rfl) (fun _ _ _ h => h) (by rfl) ?_ hHeld ?_
              rotate_left 1
              · (intro w hSw; go_simp; try with_reducible rfl)
              simp only [Act.put, List.setIfInBounds_toArray, List.set_cons_succ, List.set_cons_zero]
              refine take_yes 6 60 (v := ?_) rfl rfl (by kernel_rfl) (by kernel_rfl) (by kernel_rfl) (fun _ _ _ h => h) (by rfl) ?_ hHeld ?_
              rotate_left 1
              · (intro w hSw; go_simp; try with_reducible rfl)
              simp only [Act.put, List.setIfInBounds_toArray, List.set_cons_succ, List.set_cons_zero]
              refine step_store 8 31 w7a.heap.size vs (by kernel_rfl) rfl rfl (by rfl) (by rfl) (by rfl) (by rfl) (by rw [hlen]; exact hN.there) (by rw [hlen]; exact sizeHub) hQ.one (below_sets hHeld w7a.heap.size (by omega) vs 0) ?_
              have hHeld := below_sets hHeld w7a.heap.size (by omega) vs 0
              refine take_yes 9 14 (v := ?_) rfl rfl (by kernel_rfl) (by kernel_rfl) (by kernel_rfl) (fun _ _ _ h => h) (by rfl) ?_ hHeld ?_
              rotate_left 1
              · (intro w hSw; go_simp; try with_reducible rfl)
              simp only [Act.put, List.setIfInBounds_toArray, List.set_cons_succ, List.set_cons_zero]
              refine wpAnyH_done (by kernel_rfl) ?_ _
              have HHeld : Hid (Below W11.heap.size W11 (w9b.setCells w7a.heap.size 0 vs)) := hHeld
              have HR : Hid (HuX (fun _ => True) HZ (w9b.setCells w7a.heap.size 0 vs) vs) := (hQ.sets w7a.heap.size (old_neb hnb hltb) vs 0).imp (fun _ _ => trivial)
              have HBk : Hid (Blk (w9b.setCells w7a.heap.size 0 vs) w7a.heap.size vs) := hN.sets vs (by rw [hlen]; rfl)
              clear hHeld hQ
              go_wp2
              go_meet
              case rel => exact ⟨_, vs, rfl, rfl, HBk.out, HR.out, by omega, HHeld.out⟩
          · skip
            go_simp
            have hN := (Blk.new W11 [Value.slice none 0 0, .slice none 0 0, .int .i64 0, .slice none 0 0] 31).drew
            have hnb : W11.heap.size ≤ W11.heap.size := hHeld.size
            refine hKK.out _ _ (hHeld.alloc hHeld.size _) (fun hHeld => ?_)
            clear hKK KK
            refine wpAnyH_ready (rs := [2]) (by kernel_rfl) (by simp) ?_
            refine AllReadyH.cons rfl (fun KK hKK => ?_) AllReadyH.nil
            go_simp
            refine (C1.out _ hHeld).mono ?_
            rintro e w8b ⟨rfl, hb7⟩
            have hS7 : Below W11.heap.size W11 w8b := hHeld.trans (hb7.mono hHeld.size)
            have hgt7 := hS7.size
            have hN := hN.keep hb7
            go_wp2_with fail
            refine hKK.out _ _ (hS7) (fun hHeld => ?_)
            clear hKK KK
            clear hS7
            refine wpAnyH_ready (rs := [3]) (by kernel_rfl) (by simp) ?_
            refine AllReadyH.cons rfl (fun KK hKK => ?_) AllReadyH.nil
            go_simp
            have hltb := hN.lt
            refine (C2.out _ hHeld).mono ?_
            rintro e w9b ⟨vs, rfl, hQ, hb7⟩
            have hS7 : Below W11.heap.size W11 w9b := hHeld.trans (hb7.mono hHeld.size)
            have hgt7 := hS7.size
            have hN := hN.keep hb7
            have hlen := hQ.len
            go_wp2_with fail
            refine hKK.out _ _ (hS7) (fun hHeld => ?_)
            clear hKK KK
            clear hS7
            refine take_yes 4 54 (v := ?_) rfl rfl (by kernel_rfl) (by kernel_rfl) (by kernel_rfl) (fun _ _ _ h => h) (by rfl) ?_ hHeld ?_
            rotate_left 1
            · (intro w hSw; go_simp; try with_reducible rfl)
            simp only [Act.put, List.setIfInBounds_toArray, List.set_cons_succ, List.set_cons_zero]
            refine take_yes 5 59 (v := ?_) rfl rfl (by kernel_rfl) (by kernel_rfl) (by kernel_rfl) (fun _ _ _ h => h) (by rfl) ?_ hHeld ?_
            rotate_left 1
            · (intro w hSw; go_simp; try with_reducible rfl)
            simp only [Act.put, List.setIfInBounds_toArray, List.set_cons_succ, List.set_cons_zero]
            refine take_yes 6 60 (v := ?_) rfl rfl (by kernel_rfl) (by kernel_rfl) (by kernel_rfl) (fun _ _ _ h => h) (by rfl) ?_ hHeld ?_
            rotate_left 1
            · (intro w hSw; go_simp; try with_reducible rfl)
            simp only [Act.put, List.setIfInBounds_toArray, List.set_cons_succ, List.set_cons_zero]
            refine step_store 8 31 W11.heap.size vs (by kernel_rfl) rfl rfl (by rfl) (by rfl) (by rfl) (by rfl) (by rw [hlen]; exact hN.there) (by rw [hlen]; exact sizeHub) hQ.one (below_sets hHeld W11.heap.size (by omega) vs 0) ?_
            have hHeld := below_sets hHeld W11.heap.size (by omega) vs 0
            refine take_yes 9 14 (v := ?_) rfl rfl (by kernel_rfl) (by kernel_rfl) (by kernel_rfl) (fun _ _ _ h => h) (by rfl) ?_ hHeld ?_
            rotate_left 1
            · (intro w hSw; go_simp; try with_reducible rfl)
            simp only [Act.put, List.setIfInBounds_toArray, List.set_cons_succ, List.set_cons_zero]
            refine wpAnyH_done (by kernel_rfl) ?_ _
            have HHeld : Hid (Below W11.heap.size W11 (w9b.setCells W11.heap.size 0 vs)) := hHeld
            have HR : Hid (HuX (fun _ => True) HZ (w9b.setCells W11.heap.size 0 vs) vs) := (hQ.sets W11.heap.size (old_neb hnb hltb) vs 0).imp (fun _ _ => trivial)
            have HBk : Hid (Blk (w9b.setCells W11.heap.size 0 vs) W11.heap.size vs) := hN.sets vs (by rw [hlen]; rfl)
            clear hHeld hQ
            go_wp2
            go_meet
            case rel => exact ⟨_, vs, rfl, rfl, HBk.out, HR.out, by omega, HHeld.out⟩
        case rest =>
          obtain ⟨bz3, vz3, rfl, rfl, -, -, -, hbc⟩ := hcut
          have hG12 := hG11.keep hbc
          have HQ12 : Hid (b9 < wc.heap.size ∧ wc.cell? ⟨b9, o9 + 3 + 1, none⟩ = some (.int .i64 0) ∧ wc.cell? ⟨b9, o9 + 3 + 2, none⟩ = some (.slice ar9 0 cr9)) := ⟨by have := hbc.size; have := HQ11.out.1; omega, by rw [hbc.cell (by exact HQ11.out.1)]; exact HQ11.out.2.1, by rw [hbc.cell (by exact HQ11.out.1)]; exact HQ11.out.2.2⟩
          have hX12 := hX11.keep hbc
          have HH12 := Lib.hid (HH11.out.keep hbc)
          have HP12 : Hid (b3 < wc.heap.size ∧ wc.cell? ⟨b3, o3 + 3 + 1, none⟩ = some (.int .i64 2)) := ⟨by have := hbc.size; have := HP11.out.1; omega, by rw [hbc.cell (by exact HP11.out.1)]; exact HP11.out.2⟩
          have HK12 : Hid (wc.cell? ⟨B5, 1, none⟩ = some (.slice s1 2 t1) ∧ B5 < wc.heap.size) := ⟨by rw [hbc.cell (by exact HK11.out.2)]; exact HK11.out.1, by have := hbc.size; have := HK11.out.2; omega⟩
          have HB12 := Lib.hid (HB11.out.trans (hbc.mono HB11.out.size))
          clear C1 C2 hX11 HH11 HP11 HK11 HB11 hbc hG11 HG11 HQ11
          rename World => W12
          have C1 : Hid (∀ W', Below W12.heap.size W12 W' → Calls Tryz.prog 19 #[.agg [Value.slice a0 n0 c0, .slice a1 n1 c1, .int .i64 4, .slice (some ⟨b3, o3, none⟩) 3 c3].toArray] W' fun e w' => e = .returned (.int .i64 0) ∧ Below W'.heap.size W' w') := by
            intro W' hw
            have hc := ucheck_any W' _ accH (HH12.out.keep hw).is
            rw [Orangery.acc2.1] at hc
            exact hc
          have C2 : Hid (∀ W', Below W12.heap.size W12 W' → Calls Tryz.prog 11 #[.agg [Value.slice a0 n0 c0, .slice a1 n1 c1, .int .i64 4, .slice (some ⟨b3, o3, none⟩) 3 c3].toArray, .agg [Value.slice a0 n0 c0, .slice a1 n1 c1, .int .i64 4, .slice (some ⟨b3, o3, none⟩) 3 c3].toArray] W' fun e w' => e = .returned (.bool true) ∧ Below W'.heap.size W' w') := by
            intro W' hw
            have hc := usame_any W' _ _ accH accH (HH12.out.keep hw).is (HH12.out.keep hw).is
            rw [sameH_refl] at hc
            exact hc
          have FACT : Hid (∀ w', Below W12.heap.size W12 w' → w'.cell? ⟨B3, 2, none⟩ = some (.int .i64 4) ∧ w'.cell? ⟨B3, 3, none⟩ = some (.slice (some ⟨b3, o3, none⟩) 3 c3) ∧ w'.cell? ⟨b3, o3 + 3 + 1, none⟩ = some (.int .i64 2) ∧ w'.cell? ⟨B5, 1, none⟩ = some (.slice s1 2 t1) ∧ w'.cell? ⟨B9, 3, none⟩ = some (.slice (some ⟨b9, o9, none⟩) 3 k3) ∧ w'.cell? ⟨b9, o9 + 3 + 1, none⟩ = some (.int .i64 0) ∧ w'.cell? ⟨b9, o9 + 3 + 2, none⟩ = some (.slice ar9 0 cr9)) := by
            intro w' hw
            refine ⟨(hX12.keep hw).at 2 rfl, (hX12.keep hw).at 3 rfl, ?_, ?_, (hG12.keep hw).at 3 rfl, ?_, ?_⟩
            · rw [hw.cell (by exact HP12.out.1)]; exact HP12.out.2
            · rw [hw.cell (by exact HK12.out.2)]; exact HK12.out.1
            · rw [hw.cell (by exact HQ12.out.1)]; exact HQ12.out.2.1
            · rw [hw.cell (by exact HQ12.out.1)]; exact HQ12.out.2.2
          obtain ⟨q1, q2, q3, q4, q5, q6, q7⟩ := FACT.out _ (Below.refl _ _)
          have y0 := hX12.at 0 rfl
          have y1 := hX12.at 1 rfl
          clear HQ12 HK12 HP12 FACT
          go_wp2_with fail
          refine (C1.out _ (Below.refl _ _)).mono ?_
          rintro e w13 ⟨rfl, hb⟩
          have hX13 := hX12.keep hb
          have HB13 := Lib.hid (HB12.out.trans (hb.mono HB12.out.size))
          have z0 := hX13.at 0 rfl
          have z1 := hX13.at 1 rfl
          have z2 := hX13.at 2 rfl
          have z3 := hX13.at 3 rfl
          have C3 := Lib.hid (C2.out _ hb)
          clear q1 q2 q3 q4 q5 q6 q7 y0 y1 hX12 C1 C2 HB12 hb
          go_wp2_with fail
          refine C3.out.mono ?_
          rintro e w14 ⟨rfl, hb2⟩
          have HBE := Lib.hid (HB13.out.trans (hb2.mono HB13.out.size))
          clear hb2 z0 z1 z2 z3 hX13 C3 HB13
          go_wp2
          go_ret
          exact ⟨rfl, HBE.out⟩

end Go.Proofs.YthlhnokgcnieeadGreatDoor

