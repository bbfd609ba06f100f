/- 8 texts of the proof: hub.acceptOp. hub.accept. orangeryref.OpsOf. orangeryref.table: places laid out by node. orangeryref.places: the places of a table. orangeryref.done: an operation on right places. Plain facts on the reference's fold: the least one above the last one, looked for one by one. orangeryref.Folded. -/
import Derived.Deep.WholeRow
import Derived.Deep.DeepCutAuto
import Derived.Test.YthlhnokgcnieeadGreatDoorP10
import Derived.Test.YthlhnokgcnieeadGreatDoorP07
import Derived.Test.YthlhnokgcnieeadGreatDoorP09
import Derived.Test.YthlhnokgcnieeadGreatDoorP04
import Derived.Test.YthlhnokgcnieeadGreatDoorP08
/- hub.acceptOp. -/
namespace Go.Proofs.YthlhnokgcnieeadGreatDoor
open Go.ChangeShapes Go.WideShapes Go.ChangeAt Go.RowKit
open Orangery (Pl Mv Stp Rc Pr Hb peerE peersE rootsOk hubE histE newHb prOf stepE stepH noHb insE insL insT)

theorem Blk.two {w : World} {b : Nat} {x y z u : Value} (h : Blk w b [x, y, z, u]) : Blk w b [x, y] := ⟨h.1, h.2.1, fun i v e => by
  match i, e with
  | 0, e => exact h.2.2 0 v e
  | 1, e => exact h.2.2 1 v e⟩

set_option maxHeartbeats 4000000 in
set_option maxRecDepth 100000 in
theorem uop_any (W : World) (B nb g cap : Nat) (a p : Option Addr) (c d : Nat) (X : List Pm) (h : Hb) (k : Nat) (o : Mv) (hx : BoxAt B W nb g cap a c p d X h) (hk : k < 3) (ho : o.2.1 = (k : Int)) (h1 : 0 ≤ (prOf h k).2.1) (h2 : (prOf h k).2.1 ≤ 30) (hB : B ≤ g) (hB2 : B ≤ nb) (few : h.1.1.length ≤ 1000) (few2 : h.1.2.length ≤ 1000)
    (E : Int) (hE : E = if o.2.2.2.1 ≠ (prOf h k).1 ∨ o.2.2.2.2 ≠ (prOf h k).2.1 + 1 then 7 else insE h.1.1 h.1.2 o) :
    Calls Tryz.prog 45 #[.pointer (some ⟨nb, 0, none⟩), opV o] W (Took W B nb g cap ((insL h.1.1 h.1.2 o, insT h.1.1 h.1.2 o), h.2.1, h.2.2.set k ((prOf h k).1, o.2.2.2.2, (prOf h k).2.2)) E) := by
  have hkl : k < X.length := by rw [hx.row.len]; exact hk
  have HX := Lib.hid hx
  have HPk := Lib.hid (prOf_at hx.are k hkl)
  have hgl : g < W.heap.size := hx.row.blk.lt
  have hnl : nb < W.heap.size := hx.blk.lt
  have HINS : Hid (∀ W' : World, HiX (fun _ => True) h.1.1 h.1.2 W' [.slice a h.1.1.length c, .slice p h.1.2.length d] → Calls Tryz.prog 63 #[hiV (.slice a h.1.1.length c) (.slice p h.1.2.length d), opV o] W' fun e w' => Folds W' (insL h.1.1 h.1.2 o) (insT h.1.1 h.1.2 o) (insE h.1.1 h.1.2 o) e w') := by
    rintro W' ⟨a', c', p', d', e, h3, h4, -⟩
    simp only [List.cons.injEq, Value.slice.injEq, true_and, and_true] at e
    obtain ⟨⟨rfl, rfl⟩, rfl, rfl⟩ := e
    exact insert_any W' _ _ _ _ _ _ o (by omega) (by unfold maxLen; omega) h3 h4
  have HHI : Hid (∀ W' : World, Below W.heap.size W W' → HiX (fun _ => True) h.1.1 h.1.2 W' [.slice a h.1.1.length c, .slice p h.1.2.length d]) := fun W' hb => ⟨a, c, p, d, rfl, hx.steps.below hb, hx.places.below hb, Or.inr (fun _ _ _ => trivial), Or.inr (fun _ _ _ => trivial)⟩
  have c3 := hx.blk.at 3 rfl
  obtain ⟨g0, g1, g2⟩ := hx.row.cells k hkl
  have HNEW : Hid (∀ (W' : World) (aL : Option Addr) (cL : Nat) (aT : Option Addr) (cT : Nat), Below W.heap.size W W' → HiX (W.heap.size ≤ ·) (insL h.1.1 h.1.2 o) (insT h.1.1 h.1.2 o) W' [.slice aL (insL h.1.1 h.1.2 o).length cL, .slice aT (insT h.1.1 h.1.2 o).length cT] →
      Box B ((W'.setCells nb 0 [.slice aL (insL h.1.1 h.1.2 o).length cL, .slice aT (insT h.1.1 h.1.2 o).length cT]).setCell ⟨g, k * 3 + 1, none⟩ (.int .i64 o.2.2.2.2)) nb g cap ((insL h.1.1 h.1.2 o, insT h.1.1 h.1.2 o), h.2.1, h.2.2.set k ((prOf h k).1, o.2.2.2.2, (prOf h k).2.2))) := by
    intro W' aL cL aT cT hb hQ
    have hx' := hx.keep hb
    obtain ⟨aL', cL', aT', cT', e, h3, h4, h5, h6⟩ := hQ
    simp only [List.cons.injEq, Value.slice.injEq, true_and, and_true] at e
    obtain ⟨⟨rfl, rfl⟩, rfl, rfl⟩ := e
    have on1 : OffL nb aL (insL h.1.1 h.1.2 o) := h5.off (fun b hb => by omega)
    have og1 : OffL g aL (insL h.1.1 h.1.2 o) := h5.off (fun b hb => by omega)
    have on2 : OffL nb aT (insT h.1.1 h.1.2 o) := h6.off (fun b hb => by omega)
    have og2 : OffL g aT (insT h.1.1 h.1.2 o) := h6.off (fun b hb => by omega)
    have hne := hx.ne
    have hbx := (hx'.blk.set 0 (by simp) (.slice aL (insL h.1.1 h.1.2 o).length cL)).set 1 (by simp) (.slice aT (insT h.1.1 h.1.2 o).length cT)
    have hrw := hx'.row.other (fun e => hne e.symm) hx'.off5 [.slice aL (insL h.1.1 h.1.2 o).length cL, .slice aT (insT h.1.1 h.1.2 o).length cT] 0
    refine ⟨aL, cL, aT, cT, _, hbx.other hne (k * 3 + 1) (.int .i64 o.2.2.2.2), hrw.setSeq k hkl o.2.2.2.2, ?_, (h3.sets on1 _ 0).sets og1 [_] _, (h4.sets on2 _ 0).sets og2 [_] _, og1, on1, og2, on2, ?_, hne, h5.imp (fun b hb => by omega), h6.imp (fun b hb => by omega), ?_⟩
    · rw [map_set_peer hx.are k, HPk.out]
    · intro x hm
      rcases List.mem_or_eq_of_mem_set hm with hm | rfl
      · exact hx.off5 x hm
      · exact hx.off5 X[k] (List.getElem_mem hkl)
    · intro x hm
      rcases List.mem_or_eq_of_mem_set hm with hm | rfl
      · exact hx.new3 x hm
      · exact hx.new3 X[k] (List.getElem_mem hkl)
  rw [prOf_at hx.are k hkl] at g0 g1
  clear hx g2
  obtain ⟨o1, o2, ⟨o3, o4, o5⟩, o6, o7⟩ := o
  simp only at ho hE
  subst ho
  generalize hpr : (prOf h k) = pr at *
  clear hpr
  obtain ⟨p1, p2, p3⟩ := pr
  simp only at h1 h2 g0 g1 hE
  obtain ⟨W1, hW, hO, hB1, -⟩ := laid1 W (opC (o1, (k : Int), (o3, o4, o5), o6, o7)) 41
  have hlti : (k : Int) < 3 := by omega
  have hBW : B ≤ W.heap.size := by omega
  have HG0 := Lib.hid g0
  have HG1 := Lib.hid g1
  have c3' : W1.cell? ⟨nb, 3, none⟩ = some (.slice (some ⟨g, 0, none⟩) 3 cap) := by rw [hB1.cell (by exact hnl)]; exact c3
  have g0' : W1.cell? ⟨g, k * 3, none⟩ = some (.int .i64 p1) := by rw [hB1.cell (by exact hgl)]; exact g0
  have g1' : W1.cell? ⟨g, k * 3 + 1, none⟩ = some (.int .i64 p2) := by rw [hB1.cell (by exact hgl)]; exact g1
  have u1 := hO.at 1 rfl
  have u5 := hO.at 5 rfl
  have u6 := hO.at 6 rfl
  clear g0 g1 c3
  change (W.alloc (Obj.cells #[Value.int IntKind.i64 o1, .int .i64 k, .int .i64 o3, .int .i64 o4, .int .i64 o5, .int .i64 o6, .int .i64 o7] 41)) = W1 at hW
  by_cases hq : o6 ≠ p1 ∨ o7 ≠ p2 + 1
  · have HE : Hid (E = 7) := by rw [hE]; exact if_pos hq
    clear hE
    have HB1 := Lib.hid hB1
    clear hB1 hO
    by_cases hq1 : o6 = p1
    · have d1 : (o6 != p1) = false := by simp [hq1]
      have d2 : (o7 != p2 + 1) = true := by simp; omega
      clear hq hq1
      go_enter Tryz.func45, Tryz.ntmps45
      go_wp2
      go_quiet (fail)
      go_wp2
      go_quiet (fail)
      go_wp2
      go_ret
      exact ⟨ret_int HE.out.symm, ((HB1.out.mono hBW).trans (below_drewN_any _ _ _)).trans (below_drewN_any _ _ _), fun e => by rw [HE.out] at e; simp at e⟩
    · have d1 : (o6 != p1) = true := by simp [hq1]
      clear hq hq1
      go_enter Tryz.func45, Tryz.ntmps45
      go_wp2
      go_quiet (fail)
      go_wp2
      go_quiet (fail)
      go_wp2
      go_ret
      exact ⟨ret_int HE.out.symm, ((HB1.out.mono hBW).trans (below_drewN_any _ _ _)).trans (below_drewN_any _ _ _), fun e => by rw [HE.out] at e; simp at e⟩
  · have hq' : o6 = p1 ∧ o7 = p2 + 1 := by simpa using hq
    have HE : Hid (E = insE h.1.1 h.1.2 (o1, (k : Int), (o3, o4, o5), o6, o7)) := by rw [hE]; exact if_neg hq
    obtain ⟨hq1, hq2⟩ := hq'
    have d1 : (o6 != p1) = false := by simp [hq1]
    have d2 : (o7 != p2 + 1) = false := by simp [hq2]
    clear hE hq hq1 hq2
    have hN1 := (HX.out.blk.keep hB1).two
    have CALL0 : Hid (∀ n W', Below W.heap.size W W' → Calls Tryz.prog 63 #[hiV (.slice a h.1.1.length c) (.slice p h.1.2.length d), opV (o1, (k : Int), (o3, o4, o5), o6, o7)] W' (Gives (HiX (Old n W'.heap.size) (insL h.1.1 h.1.2 (o1, (k : Int), (o3, o4, o5), o6, o7)) (insT h.1.1 h.1.2 (o1, (k : Int), (o3, o4, o5), o6, o7))) W' (insE h.1.1 h.1.2 (o1, (k : Int), (o3, o4, o5), o6, o7)))) := by
      intro n W' hw
      exact (HINS.out W' (HHI.out W' hw)).mono (fun e w' hf => folds_gives n hf)
    have HB1 := Lib.hid hB1
    clear HINS HHI hB1
    generalize hiE : insE h.1.1 h.1.2 (o1, (k : Int), (o3, o4, o5), o6, o7) = IE at *
    generalize hiL : insL h.1.1 h.1.2 (o1, (k : Int), (o3, o4, o5), o6, o7) = IL at *
    generalize hiT : insT h.1.1 h.1.2 (o1, (k : Int), (o3, o4, o5), o6, o7) = IT at *
    clear hiE hiL hiT
    generalize h.1.1.length = n1 at *
    generalize h.1.2.length = n2 at *
    go_enter Tryz.func45, Tryz.ntmps45
    go_wp2
    clear hW
    go_quiet (fail)
    have hDq : Below W1.heap.size W1 (W1.drewN nq) := below_drewN_any _ _ _
    change (W1.drewN nq).cell? _ = _ at c3'
    change (W1.drewN nq).cell? _ = _ at g0'
    change (W1.drewN nq).cell? _ = _ at g1'
    change (W1.drewN nq).cell? _ = _ at u1
    change (W1.drewN nq).cell? _ = _ at u5
    change (W1.drewN nq).cell? _ = _ at u6
    replace hN1 := hN1.keep hDq
    replace hO := hO.keep hDq
    have HB2 := Lib.hid (HB1.out.trans (hDq.mono HB1.out.size))
    clear hDq
    generalize W1.drewN nq = W2 at *
    clear nq
    go_wp2
    go_quiet (fail)
    have hDq : Below W2.heap.size W2 (W2.drewN nq) := below_drewN_any _ _ _
    change (W2.drewN nq).cell? _ = _ at c3'
    change (W2.drewN nq).cell? _ = _ at g0'
    change (W2.drewN nq).cell? _ = _ at g1'
    change (W2.drewN nq).cell? _ = _ at u1
    change (W2.drewN nq).cell? _ = _ at u5
    change (W2.drewN nq).cell? _ = _ at u6
    replace hN1 := hN1.keep hDq
    replace hO := hO.keep hDq
    have HB3 := Lib.hid (HB2.out.trans (hDq.mono HB2.out.size))
    clear hDq
    generalize W2.drewN nq = W3 at *
    clear nq
    have CALL : Hid (∀ W', Below W3.heap.size W3 W' → Calls Tryz.prog 63 #[hiV (.slice a n1 c) (.slice p n2 d), opV (o1, (k : Int), (o3, o4, o5), o6, o7)] W' (Gives (HiX (Old 0 W'.heap.size) IL IT) W' IE)) := fun W' hw => CALL0.out _ W' (HB3.out.trans (hw.mono HB3.out.size))
    have hW3s : W.heap.size ≤ W3.heap.size := HB3.out.size
    go_upto_region 4 with fail
    go_cut [6, 7] from 33 to 41 (fun r e wc => ∃ b vs, r = .pointer (some ⟨b, 0, none⟩) ∧ e = .int .i64 IE ∧ Blk wc b vs ∧ HiX (W.heap.size ≤ ·) IL IT wc vs ∧ W3.heap.size ≤ b ∧ Below W3.heap.size W3 wc)
    case first =>
      refine wp_region_held_drew (S := fun w' => Below W3.heap.size W3 w') (by kernel_rfl) ((Below.refl _ W3).drew) (fun hHeld => ?_)
      refine take_yes 0 34 (v := ?_) rfl rfl (by kernel_rfl) (by kernel_rfl) (by kernel_rfl) (fun _ _ _ h => h) (by rfl) ?_ hHeld ?_
      rotate_left 1
      · (intro w hSw; go_simp; try with_reducible rfl)
      simp only [Act.put, List.setIfInBounds_toArray, List.set_cons_succ, List.set_cons_zero]
      refine take_yes 1 35 (v := ?_) rfl rfl (by kernel_rfl) (by kernel_rfl) (by kernel_rfl) (fun _ _ _ h => h) (by rfl) ?_ hHeld ?_
      rotate_left 1
      · (intro w hSw; go_simp; try with_reducible rfl)
      simp only [Act.put, List.setIfInBounds_toArray, List.set_cons_succ, List.set_cons_zero]
      refine take_yes 2 36 (v := ?_) rfl rfl (by kernel_rfl) (by kernel_rfl) (by kernel_rfl) (fun _ _ _ h => h) (by rfl) ?_ hHeld ?_
      rotate_left 1
      · (intro w hSw; go_simp; try with_reducible rfl)
      simp only [Act.put, List.setIfInBounds_toArray, List.set_cons_succ, List.set_cons_zero]
      refine take_load 3 37 28 nb [.slice a n1 c, .slice p n2 d] rfl rfl (by kernel_rfl) (by kernel_rfl) (by kernel_rfl) (fun _ _ _ h => h) (by rfl) (by rfl) (by rfl) (fun w hw => (hN1.keep hw).range) Tryz.underlying28 rfl sizeHist hHeld ?_
      simp only [Act.put, List.setIfInBounds_toArray, List.set_cons_succ, List.set_cons_zero]
      refine take_load 4 38 41 W.heap.size (opC (o1, (k : Int), (o3, o4, o5), o6, o7)) rfl rfl (by kernel_rfl) (by kernel_rfl) (by kernel_rfl) (fun _ _ _ h => h) (by rfl) (by rfl) (by rfl) (fun w hw => (hO.keep hw).range) Tryz.underlying41 rfl sizeOp hHeld ?_
      simp only [Act.put, List.setIfInBounds_toArray, List.set_cons_succ, List.set_cons_zero]
      refine wpAnyH_ready (rs := [5, 9]) (by kernel_rfl) (by simp) ?_
      refine AllReadyH.cons rfl (fun KK hKK => ?_) (AllReadyH.cons rfl (fun KK hKK => ?_) AllReadyH.nil)
      · skip
        go_simp
        refine (CALL.out _ hHeld).mono ?_
        rintro e w7 ⟨vs, rfl, hQ, hb7⟩
        have hS7 : Below W3.heap.size W3 w7 := hHeld.trans (hb7.mono hHeld.size)
        have hgt7 : W3.heap.size ≤ w7.heap.size := hS7.size
        have hlen := hQ.len
        go_wp2_with fail
        refine hKK.out _ _ (hS7) (fun hHeld => ?_)
        clear hKK KK
        refine take_yes 6 33 (v := ?_) rfl rfl (by kernel_rfl) (by kernel_rfl) (by kernel_rfl) (fun _ _ _ h => h) (by rfl) ?_ hHeld ?_
        rotate_left 1
        · (intro w hSw; go_simp; try with_reducible rfl)
        simp only [Act.put, List.setIfInBounds_toArray, List.set_cons_succ, List.set_cons_zero]
        refine take_yes 7 40 (v := ?_) rfl rfl (by kernel_rfl) (by kernel_rfl) (by kernel_rfl) (fun _ _ _ h => h) (by rfl) ?_ hHeld ?_
        rotate_left 1
        · (intro w hSw; go_simp; try with_reducible rfl)
        simp only [Act.put, List.setIfInBounds_toArray, List.set_cons_succ, List.set_cons_zero]
        refine take_yes 8 41 (v := ?_) rfl rfl (by kernel_rfl) (by kernel_rfl) (by kernel_rfl) (fun _ _ _ h => h) (by rfl) ?_ hHeld ?_
        rotate_left 1
        · (intro w hSw; go_simp; try with_reducible rfl)
        simp only [Act.put, List.setIfInBounds_toArray, List.set_cons_succ, List.set_cons_zero]
        refine wpAnyH_ready (rs := [9]) (by kernel_rfl) (by simp) ?_
        refine AllReadyH.cons rfl (fun KK hKK => ?_) AllReadyH.nil
        go_simp
        have hN := (Blk.new w7 [Value.slice none 0 0, .slice none 0 0] 28)
        refine hKK.out _ _ (hHeld.alloc hHeld.size _) (fun hHeld => ?_)
        clear hKK KK
        refine step_store 10 28 w7.heap.size vs (by kernel_rfl) rfl rfl (by rfl) (by rfl) (by rfl) (by rfl) (by rw [hlen]; exact hN.there) (by rw [hlen]; exact sizeHist) hQ.one (below_sets hHeld w7.heap.size (by omega) vs 0) ?_
        have hHeld := below_sets hHeld w7.heap.size (by omega) vs 0
        refine take_yes 11 7 (v := ?_) rfl rfl (by kernel_rfl) (by kernel_rfl) (by kernel_rfl) (fun _ _ _ h => h) (by rfl) ?_ hHeld ?_
        rotate_left 1
        · (intro w hSw; go_simp; try with_reducible rfl)
        simp only [Act.put, List.setIfInBounds_toArray, List.set_cons_succ, List.set_cons_zero]
        refine wpAnyH_done (by kernel_rfl) ?_ _
        have HHeld : Hid (Below W3.heap.size W3 ((w7.alloc (Obj.cells [Value.slice none 0 0, .slice none 0 0].toArray 28)).setCells w7.heap.size 0 vs)) := hHeld
        have HR : Hid (HiX (W.heap.size ≤ ·) IL IT ((w7.alloc (Obj.cells [Value.slice none 0 0, .slice none 0 0].toArray 28)).setCells w7.heap.size 0 vs) vs) := ((hQ.lowD.keep (Go.Joins.below_alloc1 w7 _)).sets w7.heap.size (fun b hb => Nat.ne_of_lt hb.2) vs 0).imp (fun b hb => Nat.le_trans hW3s (old_ge hb.1))
        have HBk : Hid (Blk ((w7.alloc (Obj.cells [Value.slice none 0 0, .slice none 0 0].toArray 28)).setCells w7.heap.size 0 vs) w7.heap.size vs) := hN.sets vs (by rw [hlen]; rfl)
        clear hHeld hQ hb7 hS7
        go_wp2
        go_meet
        case rel => exact ⟨_, vs, rfl, rfl, HBk.out, HR.out, by omega, HHeld.out⟩
      · skip
        go_simp
        have hN := (Blk.new W3 [Value.slice none 0 0, .slice none 0 0] 28).drew
        refine hKK.out _ _ (hHeld.alloc hHeld.size _) (fun hHeld => ?_)
        clear hKK KK
        have hszB := hHeld.size
        refine wpAnyH_ready (rs := [5]) (by kernel_rfl) (by simp) ?_
        refine AllReadyH.cons rfl (fun KK hKK => ?_) AllReadyH.nil
        go_simp
        refine (CALL.out _ hHeld).mono ?_
        rintro e w7 ⟨vs, rfl, hQ, hb7⟩
        have hS7 : Below W3.heap.size W3 w7 := hHeld.trans (hb7.mono hHeld.size)
        have hgt7 : W3.heap.size ≤ w7.heap.size := hS7.size
        have hN7 := hN.keep hb7
        have hlt7 : W3.heap.size < w7.heap.size := hN7.lt
        have hlen := hQ.len
        go_wp2_with fail
        refine hKK.out _ _ (hS7) (fun hHeld => ?_)
        clear hKK KK
        refine take_yes 6 33 (v := ?_) rfl rfl (by kernel_rfl) (by kernel_rfl) (by kernel_rfl) (fun _ _ _ h => h) (by rfl) ?_ hHeld ?_
        rotate_left 1
        · (intro w hSw; go_simp; try with_reducible rfl)
        simp only [Act.put, List.setIfInBounds_toArray, List.set_cons_succ, List.set_cons_zero]
        refine take_yes 7 40 (v := ?_) rfl rfl (by kernel_rfl) (by kernel_rfl) (by kernel_rfl) (fun _ _ _ h => h) (by rfl) ?_ hHeld ?_
        rotate_left 1
        · (intro w hSw; go_simp; try with_reducible rfl)
        simp only [Act.put, List.setIfInBounds_toArray, List.set_cons_succ, List.set_cons_zero]
        refine take_yes 8 41 (v := ?_) rfl rfl (by kernel_rfl) (by kernel_rfl) (by kernel_rfl) (fun _ _ _ h => h) (by rfl) ?_ hHeld ?_
        rotate_left 1
        · (intro w hSw; go_simp; try with_reducible rfl)
        simp only [Act.put, List.setIfInBounds_toArray, List.set_cons_succ, List.set_cons_zero]
        refine step_store 10 28 W3.heap.size vs (by kernel_rfl) rfl rfl (by rfl) (by rfl) (by rfl) (by rfl) (by rw [hlen]; exact hN7.there) (by rw [hlen]; exact sizeHist) hQ.one (below_sets hHeld W3.heap.size (by omega) vs 0) ?_
        have hHeld := below_sets hHeld W3.heap.size (by omega) vs 0
        refine take_yes 11 7 (v := ?_) rfl rfl (by kernel_rfl) (by kernel_rfl) (by kernel_rfl) (fun _ _ _ h => h) (by rfl) ?_ hHeld ?_
        rotate_left 1
        · (intro w hSw; go_simp; try with_reducible rfl)
        simp only [Act.put, List.setIfInBounds_toArray, List.set_cons_succ, List.set_cons_zero]
        refine wpAnyH_done (by kernel_rfl) ?_ _
        have HHeld : Hid (Below W3.heap.size W3 (w7.setCells W3.heap.size 0 vs)) := hHeld
        have HR : Hid (HiX (W.heap.size ≤ ·) IL IT (w7.setCells W3.heap.size 0 vs) vs) := (hQ.sets W3.heap.size (old_ne0 hN.lt) vs 0).imp (fun b hb => Nat.le_trans hW3s (Nat.le_trans hszB (old_ge hb)))
        have HBk : Hid (Blk (w7.setCells W3.heap.size 0 vs) W3.heap.size vs) := hN7.sets vs (by rw [hlen]; rfl)
        clear hHeld hQ hb7 hS7
        go_wp2
        go_meet
        case rel => exact ⟨_, vs, rfl, rfl, HBk.out, HR.out, by omega, HHeld.out⟩
    case rest =>
      obtain ⟨lb, vs, rfl, rfl, hbk, hQ, hge, hbc⟩ := hcut
      have HBC := Lib.hid (HB3.out.trans (hbc.mono HB3.out.size))
      have hbc0 := hbc
      clear CALL CALL0 hbc
      by_cases hz : IE = 0
      case neg =>
        have d3 : (IE != 0) = true := by simpa using hz
        have HNZ := Lib.hid hz
        clear hz hbk hQ
        go_wp2
        go_ret
        exact ⟨ret_int HE.out.symm, HBC.out.mono hBW, fun e => absurd (HE.out ▸ e) HNZ.out⟩
      have HZ := Lib.hid hz
      rw [hz]
      clear hz
      have hDd : Below wc.heap.size wc wc.drew := (Below.refl _ wc).drew
      have hQ := hQ.keep hDd
      have hbk := hbk.keep hDd
      have hbc0 := hbc0.drew
      have HBC := Lib.hid HBC.out.drew
      clear hDd
      obtain ⟨aL, cL, aT, cT, rfl, hQr⟩ := hQ
      have HQ : Hid (HiX (W.heap.size ≤ ·) IL IT wc.drew [.slice aL IL.length cL, .slice aT IT.length cT]) := ⟨aL, cL, aT, cT, rfl, hQr⟩
      have HNB := Lib.hid (HNEW.out wc.drew aL cL aT cT HBC.out HQ.out)
      have HBE : Hid (Below B W ((wc.drew.setCells nb 0 [.slice aL IL.length cL, .slice aT IT.length cT]).setCell ⟨g, k * 3 + 1, none⟩ (.int .i64 o7))) := (below_sets (below_sets (HBC.out.mono hBW) nb hB2 [.slice aL IL.length cL, .slice aT IT.length cT] 0) g hB [.int .i64 o7] (k * 3 + 1))
      have hbx := HX.out.blk.keep HBC.out
      have hrw := HX.out.row.blk.keep HBC.out
      have hOc := (hO.keep (hbc0 : Below W3.heap.size W3 wc.drew))
      have hlb : lb ≠ nb ∧ lb ≠ g := by have := HB3.out.size; omega
      have hne : nb ≠ g := HX.out.ne
      go_upto_region 7 with fail
      clear hN1 u1 u5 u6 c3' g0' g1' hO
      refine wp_region_held_drew (S := fun w' => Blk w' lb [.slice aL IL.length cL, .slice aT IT.length cT] ∧ w'.cell? ⟨W.heap.size, 6, none⟩ = some (.int .i64 o7)) (by kernel_rfl) ⟨hbk, hOc.at 6 rfl⟩ (fun hHeld => ?_)
      refine take_yes 0 45 (v := ?_) rfl rfl (by kernel_rfl) (by kernel_rfl) (by kernel_rfl) (fun _ _ _ h => h) (by rfl) ?_ hHeld ?_
      rotate_left 1
      · (intro w hSw; go_simp; try with_reducible rfl)
      simp only [Act.put, List.setIfInBounds_toArray, List.set_cons_succ, List.set_cons_zero]
      refine take_yes 1 46 (v := ?_) rfl rfl (by kernel_rfl) (by kernel_rfl) (by kernel_rfl) (fun _ _ _ h => h) (by rfl) ?_ hHeld ?_
      rotate_left 1
      · (intro w hSw; go_simp; try with_reducible rfl)
      simp only [Act.put, List.setIfInBounds_toArray, List.set_cons_succ, List.set_cons_zero]
      refine take_load 2 47 28 lb [.slice aL IL.length cL, .slice aT IT.length cT] rfl rfl (by kernel_rfl) (by kernel_rfl) (by kernel_rfl) (fun _ _ _ h => h) (by rfl) (by rfl) (by rfl) (fun w hw => hw.1.range) Tryz.underlying28 rfl sizeHist hHeld ?_
      simp only [Act.put, List.setIfInBounds_toArray, List.set_cons_succ, List.set_cons_zero]
      refine take_yes 3 48 (v := ?_) rfl rfl (by kernel_rfl) (by kernel_rfl) (by kernel_rfl) (fun _ _ _ h => h) (by rfl) ?_ hHeld ?_
      rotate_left 1
      · (intro w hSw; go_simp; try with_reducible rfl)
      simp only [Act.put, List.setIfInBounds_toArray, List.set_cons_succ, List.set_cons_zero]
      refine take_yes 4 49 (v := ?_) rfl rfl (by kernel_rfl) (by kernel_rfl) (by kernel_rfl) (fun _ _ _ h => h) (by rfl) ?_ hHeld ?_
      rotate_left 1
      · (intro w hSw; obtain ⟨-, q2⟩ := hSw; go_simp; try with_reducible rfl)
      simp only [Act.put, List.setIfInBounds_toArray, List.set_cons_succ, List.set_cons_zero]
      refine take_yes 5 50 (v := ?_) rfl rfl (by kernel_rfl) (by kernel_rfl) (by kernel_rfl) (fun _ _ _ h => h) (by rfl) ?_ hHeld ?_
      rotate_left 1
      · (intro w hSw; go_simp; try with_reducible rfl)
      simp only [Act.put, List.setIfInBounds_toArray, List.set_cons_succ, List.set_cons_zero]
      refine take_yes 6 51 (v := ?_) rfl rfl (by kernel_rfl) (by kernel_rfl) (by kernel_rfl) (fun _ _ _ h => h) (by rfl) ?_ hHeld ?_
      rotate_left 1
      · (intro w hSw; go_simp; try with_reducible rfl)
      simp only [Act.put, List.setIfInBounds_toArray, List.set_cons_succ, List.set_cons_zero]
      refine step_store 7 28 nb [.slice aL IL.length cL, .slice aT IT.length cT] (by kernel_rfl) rfl rfl (by rfl) (by rfl) (by rfl) (by rfl) hbx.two.there sizeHist ?_ ?_ ?_
      · intro v hv; simp at hv; rcases hv with rfl | rfl <;> rfl
      · exact ⟨hbk.others hlb.1 _ 0, (hOc.others (by omega : W.heap.size ≠ nb) _ 0).at 6 rfl⟩
      have hHeld : Blk (wc.drew.setCells nb 0 [.slice aL IL.length cL, .slice aT IT.length cT]) lb [.slice aL IL.length cL, .slice aT IT.length cT] ∧ (wc.drew.setCells nb 0 [.slice aL IL.length cL, .slice aT IT.length cT]).cell? ⟨W.heap.size, 6, none⟩ = some (.int .i64 o7) := ⟨hbk.others hlb.1 _ 0, (hOc.others (by omega : W.heap.size ≠ nb) _ 0).at 6 rfl⟩
      refine take_yes 8 52 (v := ?_) rfl rfl (by kernel_rfl) (by kernel_rfl) (by kernel_rfl) (fun _ _ _ h => h) (by rfl) ?_ hHeld ?_
      rotate_left 1
      · (intro w hSw; go_simp; try with_reducible rfl)
      simp only [Act.put, List.setIfInBounds_toArray, List.set_cons_succ, List.set_cons_zero]
      refine take_yes 9 53 (v := ?_) rfl rfl (by kernel_rfl) (by kernel_rfl) (by kernel_rfl) (fun _ _ _ h => h) (by rfl) ?_ hHeld ?_
      rotate_left 1
      · (intro w hSw; go_simp; try with_reducible rfl)
      simp only [Act.put, List.setIfInBounds_toArray, List.set_cons_succ, List.set_cons_zero]
      have hrw2 := HX.out.row.keep HBC.out
      obtain ⟨-, y1, -⟩ := (Row3.cells hrw2 k hkl)
      have y1' : (wc.drew.setCells nb 0 [.slice aL IL.length cL, .slice aT IT.length cT]).cell? ⟨g, k * 3 + 1, none⟩ = some (.int .i64 X[k].1.2.1) := by
        rw [World.cell?_of_block (w := wc.drew) (a := ⟨g, k * 3 + 1, none⟩) (sets_heap g nb (fun e => hne e.symm) _ 0 wc.drew)]
        exact y1
      have fz : (wc.drew.setCells nb 0 [.slice aL IL.length cL, .slice aT IT.length cT]).frozen? ⟨g, k * 3 + 1, none⟩ = false := by
        rw [World.frozen?_setCells]
        exact hrw.frz _
      clear y1 hrw2 hbx hrw
      refine wpAnyH_ready (rs := [10]) (by kernel_rfl) (by simp) ?_
      refine AllReadyH.cons rfl (fun KK hKK => ?_) AllReadyH.nil
      go_simp
      have hS2 : Blk ((wc.drew.setCells nb 0 [.slice aL IL.length cL, .slice aT IT.length cT]).setCell ⟨g, k * 3 + 1, none⟩ (.int .i64 o7)) lb [.slice aL IL.length cL, .slice aT IT.length cT] ∧ ((wc.drew.setCells nb 0 [.slice aL IL.length cL, .slice aT IT.length cT]).setCell ⟨g, k * 3 + 1, none⟩ (.int .i64 o7)).cell? ⟨W.heap.size, 6, none⟩ = some (.int .i64 o7) := ⟨(hbk.others hlb.1 _ 0).other hlb.2 _ _, ((hOc.others (by omega : W.heap.size ≠ nb) _ 0).other (by omega) _ _).at 6 rfl⟩
      refine hKK.out _ _ (hS2) (fun hHeld => ?_)
      clear hKK KK
      refine wpAnyH_done (by kernel_rfl) ?_ _
      clear hS2 hHeld y1' fz hbk hOc HQ
      generalize (wc.drew.setCells nb 0 [.slice aL IL.length cL, .slice aT IT.length cT]).setCell ⟨g, k * 3 + 1, none⟩ (.int .i64 o7) = WE at *
      go_wp2
      go_ret
      exact ⟨ret_int (by rw [HE.out, HZ.out]), HBE.out, fun _ => HNB.out⟩
end Go.Proofs.YthlhnokgcnieeadGreatDoor

/- hub.accept. -/
namespace Go.Proofs.YthlhnokgcnieeadGreatDoor
open Go.ChangeShapes Go.WideShapes Go.ChangeAt Go.RowKit
open Orangery (Pl Mv Stp Rc Pr Hb peerE peersE rootsOk hubE histE newHb prOf stepE stepH noHb insE insL insT checkRec)

abbrev rcL (k u f : Int) (r : Value) (o : Mv) : List Value := [.int .i64 k, .int .i64 u, .int .i64 f, r, .int .i64 o.1, .int .i64 o.2.1, .int .i64 o.2.2.1.1, .int .i64 o.2.2.1.2.1, .int .i64 o.2.2.1.2.2, .int .i64 o.2.2.2.1, .int .i64 o.2.2.2.2]
/-- the peer of a client of a right hub -/
theorem pr_bounds {h : Hb} (hh : hubE h = 0) {k : Nat} (hk : k < 3) : 0 ≤ (prOf h k).1 ∧ (prOf h k).1 ≤ 50 ∧ 0 ≤ (prOf h k).2.1 ∧ (prOf h k).2.1 ≤ 30 := by
  have h1 := ((Orangery.hubE_zero h).1 hh).2.2.2 _ (Orangery.prOf_mem hh (k := (k : Int)) (by omega) (by omega)).1
  unfold peerE at h1
  split at h1
  · omega
  · rename_i h2
    simp only [not_or, Decidable.not_not] at h2
    omega

set_option maxHeartbeats 4000000 in
set_option maxRecDepth 100000 in
theorem uaccept_any (W : World) (B nb g cap : Nat) (a p : Option Addr) (c d : Nat) (X : List Pm) (h : Hb) (r : Rc) (ar : Option Addr) (cr : Nat) (hok : hubE h = 0) (hv : h.2.1 ≠ 60) (hr : checkRec r = 0) (hx : BoxAt B W nb g cap a c p d X (h.1, h.2.1 + 1, h.2.2)) (hB : B ≤ g) (hB2 : B ≤ nb) (hrt : SlI W ar r.2.2.2.1) :
    Calls Tryz.prog 23 #[.pointer (some ⟨nb, 0, none⟩), rcV r.1 r.2.1 r.2.2.1 (.slice ar r.2.2.2.1.length cr) r.2.2.2.2] W (Took W B nb g cap (stepH h r) (stepE h r)) := by
  obtain ⟨f1, f2, f3, f4⟩ := hub_few hok
  have hpr : ∀ z : Int, prOf (h.1, h.2.1 + 1, h.2.2) z = prOf h z := fun _ => rfl
  have hgl : g < W.heap.size := hx.row.blk.lt
  have hnl : nb < W.heap.size := hx.blk.lt
  have hne : nb ≠ g := hx.ne
  have HX := Lib.hid hx
  have HR := Lib.hid hrt
  clear hx hrt
  rcases Orangery.checkRec_kind hr with hk | hk | hk
  · obtain ⟨-, hc⟩ := Orangery.checkRec_op hr hk
    have ho := Orangery.checkOp_zero hc
    simp only [Orangery.opOkB, decide_eq_true_eq] at ho
    obtain ⟨k, hkk⟩ : ∃ k : Nat, r.2.2.2.2.2.1 = (k : Int) := ⟨r.2.2.2.2.2.1.toNat, by omega⟩
    have hk3 : k < 3 := by omega
    obtain ⟨b1, b2, b3, b4⟩ := pr_bounds hok hk3
    have hp := HX.out
    have CALL : Hid (∀ W', Below W.heap.size W W' → Calls Tryz.prog 45 #[.pointer (some ⟨nb, 0, none⟩), opV r.2.2.2.2] W' (Took W' B nb g cap (stepH h r) (stepE h r))) := by
      intro W' hw
      have hE : stepE h r = if r.2.2.2.2.2.2.2.1 ≠ (prOf h k).1 ∨ r.2.2.2.2.2.2.2.2 ≠ (prOf h k).2.1 + 1 then 7 else insE h.1.1 h.1.2 r.2.2.2.2 := by
        unfold stepE; rw [if_neg hv, if_pos hk, hkk]
      have hc := uop_any W' B nb g cap a p c d X _ k r.2.2.2.2 (HX.out.keep hw) hk3 hkk b3 b4 hB hB2 (by simp only; omega) (by simp only; omega) (stepE h r) hE
      refine hc.mono ?_
      rintro e w' ⟨e1, e2, e3⟩
      refine ⟨e1, e2, fun e4 => ?_⟩
      have e5 := e3 e4
      have e6 : stepH h r = ((insL h.1.1 h.1.2 r.2.2.2.2, insT h.1.1 h.1.2 r.2.2.2.2), h.2.1 + 1, h.2.2.set k ((prOf h k).1, r.2.2.2.2.2.2.2.2, (prOf h k).2.2)) := by
        have e7 : ¬ (r.2.2.2.2.2.2.2.1 ≠ (prOf h k).1 ∨ r.2.2.2.2.2.2.2.2 ≠ (prOf h k).2.1 + 1) := by
          intro e8
          rw [e4, if_pos e8] at hE
          omega
        have e9 : r.2.2.2.2.2.2.2.2 = (prOf h k).2.1 + 1 := by
          simp only [not_or, Decidable.not_not] at e7
          exact e7.2
        unfold stepH
        rw [if_pos hk, hkk, e9]
        rfl
      rw [e6]
      exact e5
    have HB : Hid (Below W.heap.size W (W.alloc (Obj.cells (rcL r.1 r.2.1 r.2.2.1 (.slice ar r.2.2.2.1.length cr) r.2.2.2.2).toArray 43))) := Go.Joins.below_alloc1 W _
    have hBW : B ≤ W.heap.size := by omega
    have HBW := Lib.hid hBW
    clear HX HR hp hc ho hkk b1 b2 b3 b4 hr hok f1 f2 f3 f4 hpr hgl hnl hne hv hB hB2 hBW hk3
    generalize stepE h r = E at *
    generalize stepH h r = H at *
    obtain ⟨q1, q2, q3, q4, ⟨o1, o2, ⟨o3, o4, o5⟩, o6, o7⟩⟩ := r
    simp only at hk HB
    subst hk
    go_enter Tryz.func23, Tryz.ntmps23
    go_wp2_with fail
    refine (CALL.out _ HB.out).mono ?_
    rintro e w1 ⟨rfl, hb, hbx⟩
    have HB1 : Hid (Below B W w1) := (HB.out.mono HBW.out).trans hb
    have HBX : Hid (E = 0 → Box B w1 nb g cap H) := hbx
    clear hb hbx
    go_wp2
    go_ret
    exact ⟨rfl, HB1.out, HBX.out⟩

  · obtain ⟨-, hw, hf⟩ := Orangery.checkRec_life hr hk
    obtain ⟨k, hkk⟩ : ∃ k : Nat, r.2.1 = (k : Int) := ⟨r.2.1.toNat, by omega⟩
    have hk3 : k < 3 := by omega
    obtain ⟨b1, b2, b3, b4⟩ := pr_bounds hok hk3
    have CALL : Hid (∀ W', Below W.heap.size W W' → Calls Tryz.prog 46 #[.pointer (some ⟨g, k * 3, none⟩), .int .i64 r.2.2.1] W' fun e w' => Took W' B nb g cap (stepH h r) (stepE h r) e w' ∧ ∀ b, b < W'.heap.size → b ≠ g → w'.heap[b]? = W'.heap[b]?) := by
      intro W' hw
      have hE : stepE h r = if (prOf h k).1 + 1 ≠ r.2.2.1 then 7 else 0 := by
        unfold stepE; rw [if_neg hv, if_neg (by omega), if_pos hk, hkk]
      have e6 : stepH h r = (h.1, h.2.1 + 1, h.2.2.set k (r.2.2.1, 0, [])) := by
        unfold stepH
        rw [if_neg (by omega), if_pos hk, hkk]
        rfl
      rw [e6]
      exact ulife_any W' B nb g cap a p c d X _ k r.2.2.1 (HX.out.keep hw) hk3 b1 b2 hB (stepE h r) hE
    have HB : Hid (Below W.heap.size W (W.alloc (Obj.cells (rcL r.1 r.2.1 r.2.2.1 (.slice ar r.2.2.2.1.length cr) r.2.2.2.2).toArray 43))) := Go.Joins.below_alloc1 W _
    have hBW : B ≤ W.heap.size := by omega
    have HBW := Lib.hid hBW
    have hb0 := HX.out.blk
    clear HX HR b1 b2 b3 b4 hr hok f1 f2 f3 f4 hpr hv hB hB2 hBW
    generalize stepE h r = E at *
    generalize stepH h r = H at *
    have c3 := hb0.at 3 rfl
    clear hb0
    obtain ⟨q1, q2, q3, q4, ⟨o1, o2, ⟨o3, o4, o5⟩, o6, o7⟩⟩ := r
    simp only at hk HB hkk
    subst hkk
    obtain ⟨W1, hW, hO, hB1, -⟩ := laid1 W (rcL q1 k q3 (.slice ar q4.length cr) (o1, o2, (o3, o4, o5), o6, o7)) 43
    change (W.alloc (Obj.cells #[Value.int IntKind.i64 q1, .int .i64 k, .int .i64 q3, .slice ar q4.length cr, .int .i64 o1, .int .i64 o2, .int .i64 o3, .int .i64 o4, .int .i64 o5, .int .i64 o6, .int .i64 o7] 43)) = W1 at hW
    have c3' : W1.cell? ⟨nb, 3, none⟩ = some (.slice (some ⟨g, 0, none⟩) 3 cap) := by rw [hB1.cell (by exact hnl)]; exact c3
    have u0 := hO.at 0 rfl
    have u1 := hO.at 1 rfl
    have u2 := hO.at 2 rfl
    have hlti : (k : Int) < 3 := by omega
    have hW1 : W.heap.size < W1.heap.size := hO.lt
    subst hk
    have HB1 := Lib.hid hB1
    clear c3 HB hB1 hO
    go_enter Tryz.func23, Tryz.ntmps23
    go_upto_region 5 with fail
    clear hW
    refine wp_region_held_drew (S := fun w' => w'.cell? ⟨nb, 3, none⟩ = some (.slice (some ⟨g, 0, none⟩) 3 cap) ∧ w'.cell? ⟨W.heap.size, 1, none⟩ = some (.int .i64 k) ∧ w'.cell? ⟨W.heap.size, 2, none⟩ = some (.int .i64 q3)) (by kernel_rfl) ⟨c3', u1, u2⟩ (fun hHeld => ?_)
    refine take_yes 0 15 (v := ?_) rfl rfl (by kernel_rfl) (by kernel_rfl) (by kernel_rfl) (fun _ _ _ h => h) (by rfl) ?_ hHeld ?_
    rotate_left 1
    · (intro w hSw; obtain ⟨s1, s2, s3⟩ := hSw; go_simp; try with_reducible rfl)
    simp only [Act.put, List.setIfInBounds_toArray, List.set_cons_succ, List.set_cons_zero]
    refine take_yes 1 16 (v := ?_) rfl rfl (by kernel_rfl) (by kernel_rfl) (by kernel_rfl) (fun _ _ _ h => h) (by rfl) ?_ hHeld ?_
    rotate_left 1
    · (intro w hSw; obtain ⟨s1, s2, s3⟩ := hSw; go_simp; try with_reducible rfl)
    simp only [Act.put, List.setIfInBounds_toArray, List.set_cons_succ, List.set_cons_zero]
    refine take_yes 2 17 (v := ?_) rfl rfl (by kernel_rfl) (by kernel_rfl) (by kernel_rfl) (fun _ _ _ h => h) (by rfl) ?_ hHeld ?_
    rotate_left 1
    · (intro w hSw; obtain ⟨s1, s2, s3⟩ := hSw; go_simp; try with_reducible rfl)
    simp only [Act.put, List.setIfInBounds_toArray, List.set_cons_succ, List.set_cons_zero]
    refine take_yes 3 18 (v := ?_) rfl rfl (by kernel_rfl) (by kernel_rfl) (by kernel_rfl) (fun _ _ _ h => h) (by rfl) ?_ hHeld ?_
    rotate_left 1
    · (intro w hSw; obtain ⟨s1, s2, s3⟩ := hSw; go_simp; try with_reducible rfl)
    simp only [Act.put, List.setIfInBounds_toArray, List.set_cons_succ, List.set_cons_zero]
    refine take_yes 4 19 (v := ?_) rfl rfl (by kernel_rfl) (by kernel_rfl) (by kernel_rfl) (fun _ _ _ h => h) (by rfl) ?_ hHeld ?_
    rotate_left 1
    · (intro w hSw; obtain ⟨s1, s2, s3⟩ := hSw; go_simp; try with_reducible rfl)
    simp only [Act.put, List.setIfInBounds_toArray, List.set_cons_succ, List.set_cons_zero]
    refine take_yes 5 20 (v := ?_) rfl rfl (by kernel_rfl) (by kernel_rfl) (by kernel_rfl) (fun _ _ _ h => h) (by rfl) ?_ hHeld ?_
    rotate_left 1
    · (intro w hSw; obtain ⟨s1, s2, s3⟩ := hSw; go_simp; try with_reducible rfl)
    simp only [Act.put, List.setIfInBounds_toArray, List.set_cons_succ, List.set_cons_zero]
    refine take_yes 6 21 (v := ?_) rfl rfl (by kernel_rfl) (by kernel_rfl) (by kernel_rfl) (fun _ _ _ h => h) (by rfl) ?_ hHeld ?_
    rotate_left 1
    · (intro w hSw; obtain ⟨s1, s2, s3⟩ := hSw; go_simp; try with_reducible rfl)
    simp only [Act.put, List.setIfInBounds_toArray, List.set_cons_succ, List.set_cons_zero]
    refine take_yes 7 22 (v := ?_) rfl rfl (by kernel_rfl) (by kernel_rfl) (by kernel_rfl) (fun _ _ _ h => h) (by rfl) ?_ hHeld ?_
    rotate_left 1
    · (intro w hSw; obtain ⟨s1, s2, s3⟩ := hSw; go_simp; try with_reducible rfl)
    simp only [Act.put, List.setIfInBounds_toArray, List.set_cons_succ, List.set_cons_zero]
    refine take_yes 8 23 (v := ?_) rfl rfl (by kernel_rfl) (by kernel_rfl) (by kernel_rfl) (fun _ _ _ h => h) (by rfl) ?_ hHeld ?_
    rotate_left 1
    · (intro w hSw; obtain ⟨s1, s2, s3⟩ := hSw; go_simp; try with_reducible rfl)
    simp only [Act.put, List.setIfInBounds_toArray, List.set_cons_succ, List.set_cons_zero]
    refine wpAnyH_ready (rs := [9]) (by kernel_rfl) (by simp) ?_
    refine AllReadyH.cons rfl (fun KK hKK => ?_) AllReadyH.nil
    go_simp
    refine (CALL.out _ HB1.out.drew).mono ?_
    rintro e w2 ⟨⟨rfl, hb, hbx⟩, hon⟩
    have HB2 : Hid (Below B W w2) := (HB1.out.drew.mono HBW.out).trans hb
    have HBX : Hid (E = 0 → Box B w2 nb g cap H) := hbx
    have hS2 : w2.cell? ⟨nb, 3, none⟩ = some (.slice (some ⟨g, 0, none⟩) 3 cap) ∧ w2.cell? ⟨W.heap.size, 1, none⟩ = some (.int .i64 k) ∧ w2.cell? ⟨W.heap.size, 2, none⟩ = some (.int .i64 q3) := by
      refine ⟨?_, ?_, ?_⟩
      · rw [World.cell?_of_block (w := W1.drew) (a := ⟨nb, 3, none⟩) (hon nb (by show nb < W1.heap.size; omega) hne)]; exact c3'
      · rw [World.cell?_of_block (w := W1.drew) (a := ⟨W.heap.size, 1, none⟩) (hon W.heap.size hW1 (by omega))]; exact u1
      · rw [World.cell?_of_block (w := W1.drew) (a := ⟨W.heap.size, 2, none⟩) (hon W.heap.size hW1 (by omega))]; exact u2
    clear hb hbx hon
    go_wp2_with fail
    refine hKK.out _ _ (hS2) (fun hHeld => ?_)
    clear hKK KK
    refine take_yes 10 4 (v := ?_) rfl rfl (by kernel_rfl) (by kernel_rfl) (by kernel_rfl) (fun _ _ _ h => h) (by rfl) ?_ hHeld ?_
    rotate_left 1
    · (intro w hSw; go_simp; try with_reducible rfl)
    simp only [Act.put, List.setIfInBounds_toArray, List.set_cons_succ, List.set_cons_zero]
    refine wpAnyH_done (by kernel_rfl) ?_ _
    clear hHeld hS2 c3' u0 u1 u2
    go_wp2
    go_ret
    exact ⟨rfl, HB2.out, HBX.out⟩
  · obtain ⟨-, hw, hrr⟩ := Orangery.checkRec_roots hr hk
    have hlen := Orangery.rootsOk_len hrr
    obtain ⟨k, hkk⟩ : ∃ k : Nat, r.2.1 = (k : Int) := ⟨r.2.1.toNat, by omega⟩
    have hk3 : k < 3 := by omega
    obtain ⟨b1, b2, b3, b4⟩ := pr_bounds hok hk3
    have CALL : Hid (∀ W', Below W.heap.size W W' → Calls Tryz.prog 47 #[.pointer (some ⟨g, k * 3, none⟩), .slice ar r.2.2.2.1.length cr] W' fun e w' => Took W' B nb g cap (stepH h r) (stepE h r) e w' ∧ ∀ b, b < W'.heap.size → b ≠ g → w'.heap[b]? = W'.heap[b]?) := by
      intro W' hw
      have hE : stepE h r = if (prOf h k).1 < 1 then 5 else 0 := by
        unfold stepE; rw [if_neg hv, if_neg (by omega), if_neg (by omega), hkk]
      have e6 : stepH h r = (h.1, h.2.1 + 1, h.2.2.set k ((prOf h k).1, (prOf h k).2.1, r.2.2.2.1)) := by
        unfold stepH
        rw [if_neg (by omega), if_neg (by omega), hkk]
        rfl
      rw [e6]
      exact uroots_any W' B nb g cap a p c d X _ k ar cr r.2.2.2.1 (HX.out.keep hw) hk3 b1 hB (by omega) (HR.out.below hw) (stepE h r) hE
    have HB : Hid (Below W.heap.size W (W.alloc (Obj.cells (rcL r.1 r.2.1 r.2.2.1 (.slice ar r.2.2.2.1.length cr) r.2.2.2.2).toArray 43))) := Go.Joins.below_alloc1 W _
    have hBW : B ≤ W.heap.size := by omega
    have HBW := Lib.hid hBW
    have hb0 := HX.out.blk
    clear HX HR b1 b2 b3 b4 hr hok f1 f2 f3 f4 hpr hv hB hB2 hBW
    generalize stepE h r = E at *
    generalize stepH h r = H at *
    have c3 := hb0.at 3 rfl
    clear hb0
    obtain ⟨q1, q2, q3, q4, ⟨o1, o2, ⟨o3, o4, o5⟩, o6, o7⟩⟩ := r
    simp only at hk HB hkk
    subst hkk
    obtain ⟨W1, hW, hO, hB1, -⟩ := laid1 W (rcL q1 k q3 (.slice ar q4.length cr) (o1, o2, (o3, o4, o5), o6, o7)) 43
    change (W.alloc (Obj.cells #[Value.int IntKind.i64 q1, .int .i64 k, .int .i64 q3, .slice ar q4.length cr, .int .i64 o1, .int .i64 o2, .int .i64 o3, .int .i64 o4, .int .i64 o5, .int .i64 o6, .int .i64 o7] 43)) = W1 at hW
    have c3' : W1.cell? ⟨nb, 3, none⟩ = some (.slice (some ⟨g, 0, none⟩) 3 cap) := by rw [hB1.cell (by exact hnl)]; exact c3
    have u0 := hO.at 0 rfl
    have u1 := hO.at 1 rfl
    have u2 := hO.at 3 rfl
    have hlti : (k : Int) < 3 := by omega
    have hW1 : W.heap.size < W1.heap.size := hO.lt
    subst hk
    have HB1 := Lib.hid hB1
    clear c3 HB hB1 hO
    go_enter Tryz.func23, Tryz.ntmps23
    go_upto_region 6 with fail
    clear hW
    refine wp_region_held_drew (S := fun w' => w'.cell? ⟨nb, 3, none⟩ = some (.slice (some ⟨g, 0, none⟩) 3 cap) ∧ w'.cell? ⟨W.heap.size, 1, none⟩ = some (.int .i64 k) ∧ w'.cell? ⟨W.heap.size, 3, none⟩ = some (.slice ar q4.length cr)) (by kernel_rfl) ⟨c3', u1, u2⟩ (fun hHeld => ?_)
    refine take_yes 0 25 (v := ?_) rfl rfl (by kernel_rfl) (by kernel_rfl) (by kernel_rfl) (fun _ _ _ h => h) (by rfl) ?_ hHeld ?_
    rotate_left 1
    · (intro w hSw; obtain ⟨s1, s2, s3⟩ := hSw; go_simp; try with_reducible rfl)
    simp only [Act.put, List.setIfInBounds_toArray, List.set_cons_succ, List.set_cons_zero]
    refine take_yes 1 26 (v := ?_) rfl rfl (by kernel_rfl) (by kernel_rfl) (by kernel_rfl) (fun _ _ _ h => h) (by rfl) ?_ hHeld ?_
    rotate_left 1
    · (intro w hSw; obtain ⟨s1, s2, s3⟩ := hSw; go_simp; try with_reducible rfl)
    simp only [Act.put, List.setIfInBounds_toArray, List.set_cons_succ, List.set_cons_zero]
    refine take_yes 2 27 (v := ?_) rfl rfl (by kernel_rfl) (by kernel_rfl) (by kernel_rfl) (fun _ _ _ h => h) (by rfl) ?_ hHeld ?_
    rotate_left 1
    · (intro w hSw; obtain ⟨s1, s2, s3⟩ := hSw; go_simp; try with_reducible rfl)
    simp only [Act.put, List.setIfInBounds_toArray, List.set_cons_succ, List.set_cons_zero]
    refine take_yes 3 28 (v := ?_) rfl rfl (by kernel_rfl) (by kernel_rfl) (by kernel_rfl) (fun _ _ _ h => h) (by rfl) ?_ hHeld ?_
    rotate_left 1
    · (intro w hSw; obtain ⟨s1, s2, s3⟩ := hSw; go_simp; try with_reducible rfl)
    simp only [Act.put, List.setIfInBounds_toArray, List.set_cons_succ, List.set_cons_zero]
    refine take_yes 4 29 (v := ?_) rfl rfl (by kernel_rfl) (by kernel_rfl) (by kernel_rfl) (fun _ _ _ h => h) (by rfl) ?_ hHeld ?_
    rotate_left 1
    · (intro w hSw; obtain ⟨s1, s2, s3⟩ := hSw; go_simp; try with_reducible rfl)
    simp only [Act.put, List.setIfInBounds_toArray, List.set_cons_succ, List.set_cons_zero]
    refine take_yes 5 30 (v := ?_) rfl rfl (by kernel_rfl) (by kernel_rfl) (by kernel_rfl) (fun _ _ _ h => h) (by rfl) ?_ hHeld ?_
    rotate_left 1
    · (intro w hSw; obtain ⟨s1, s2, s3⟩ := hSw; go_simp; try with_reducible rfl)
    simp only [Act.put, List.setIfInBounds_toArray, List.set_cons_succ, List.set_cons_zero]
    refine take_yes 6 31 (v := ?_) rfl rfl (by kernel_rfl) (by kernel_rfl) (by kernel_rfl) (fun _ _ _ h => h) (by rfl) ?_ hHeld ?_
    rotate_left 1
    · (intro w hSw; obtain ⟨s1, s2, s3⟩ := hSw; go_simp; try with_reducible rfl)
    simp only [Act.put, List.setIfInBounds_toArray, List.set_cons_succ, List.set_cons_zero]
    refine take_yes 7 32 (v := ?_) rfl rfl (by kernel_rfl) (by kernel_rfl) (by kernel_rfl) (fun _ _ _ h => h) (by rfl) ?_ hHeld ?_
    rotate_left 1
    · (intro w hSw; obtain ⟨s1, s2, s3⟩ := hSw; go_simp; try with_reducible rfl)
    simp only [Act.put, List.setIfInBounds_toArray, List.set_cons_succ, List.set_cons_zero]
    refine take_yes 8 33 (v := ?_) rfl rfl (by kernel_rfl) (by kernel_rfl) (by kernel_rfl) (fun _ _ _ h => h) (by rfl) ?_ hHeld ?_
    rotate_left 1
    · (intro w hSw; obtain ⟨s1, s2, s3⟩ := hSw; go_simp; try with_reducible rfl)
    simp only [Act.put, List.setIfInBounds_toArray, List.set_cons_succ, List.set_cons_zero]
    refine wpAnyH_ready (rs := [9]) (by kernel_rfl) (by simp) ?_
    refine AllReadyH.cons rfl (fun KK hKK => ?_) AllReadyH.nil
    go_simp
    refine (CALL.out _ HB1.out.drew).mono ?_
    rintro e w2 ⟨⟨rfl, hb, hbx⟩, hon⟩
    have HB2 : Hid (Below B W w2) := (HB1.out.drew.mono HBW.out).trans hb
    have HBX : Hid (E = 0 → Box B w2 nb g cap H) := hbx
    have hS2 : w2.cell? ⟨nb, 3, none⟩ = some (.slice (some ⟨g, 0, none⟩) 3 cap) ∧ w2.cell? ⟨W.heap.size, 1, none⟩ = some (.int .i64 k) ∧ w2.cell? ⟨W.heap.size, 3, none⟩ = some (.slice ar q4.length cr) := by
      refine ⟨?_, ?_, ?_⟩
      · rw [World.cell?_of_block (w := W1.drew) (a := ⟨nb, 3, none⟩) (hon nb (by show nb < W1.heap.size; omega) hne)]; exact c3'
      · rw [World.cell?_of_block (w := W1.drew) (a := ⟨W.heap.size, 1, none⟩) (hon W.heap.size hW1 (by omega))]; exact u1
      · rw [World.cell?_of_block (w := W1.drew) (a := ⟨W.heap.size, 3, none⟩) (hon W.heap.size hW1 (by omega))]; exact u2
    clear hb hbx hon
    go_wp2_with fail
    refine hKK.out _ _ (hS2) (fun hHeld => ?_)
    clear hKK KK
    refine take_yes 10 4 (v := ?_) rfl rfl (by kernel_rfl) (by kernel_rfl) (by kernel_rfl) (fun _ _ _ h => h) (by rfl) ?_ hHeld ?_
    rotate_left 1
    · (intro w hSw; go_simp; try with_reducible rfl)
    simp only [Act.put, List.setIfInBounds_toArray, List.set_cons_succ, List.set_cons_zero]
    refine wpAnyH_done (by kernel_rfl) ?_ _
    clear hHeld hS2 c3' u0 u1 u2
    go_wp2
    go_ret
    exact ⟨rfl, HB2.out, HBX.out⟩
end Go.Proofs.YthlhnokgcnieeadGreatDoor

/- orangeryref.OpsOf. -/
namespace Go.Proofs.YthlhnokgcnieeadGreatDoor
open Go.ChangeShapes Go.WideShapes Go.ChangeAt Go.RowKit
open Orangery (Pl Mv Stp)

end Go.Proofs.YthlhnokgcnieeadGreatDoor

/- orangeryref.table: places laid out by node. -/
namespace Go.Proofs.YthlhnokgcnieeadGreatDoor
open Go.ChangeShapes Go.WideShapes Go.ChangeAt Go.RowKit
open Orangery (Pl Mv Stp outL inL tabAt find scan)

/-- the places of a table -/
def tabL (t : Nat → Pl) : List Pl := (List.range 16).map t
/-- the value of a table -/
def tabV (t : Nat → Pl) : Value := .agg ((tabL t).flatMap encPl).toArray

theorem tabL_len (t : Nat → Pl) : (tabL t).length = 16 := by simp [tabL]
theorem tabL_get (t : Nat → Pl) (i : Nat) (h : i < (tabL t).length) : (tabL t)[i] = t i := by simp [tabL]
theorem tabL_set (t u : Nat → Pl) (k : Nat) (p : Pl) (h1 : u k = p) (h2 : ∀ n, n ≠ k → u n = t n) : (tabL t).set k p = tabL u := by
  apply List.ext_getElem
  · simp [tabL]
  · intro i hi hi'
    rw [List.getElem_set, tabL_get]
    by_cases hik : k = i
    · subst hik; rw [if_pos rfl, tabL_get, h1]
    · rw [if_neg hik, tabL_get, h2 i (by omega)]

theorem HoldsP.set1 {w : World} {g : Nat} {m : List Pl} (h : HoldsP w g m) (i : Nat) (hi : i < m.length) (x : Int) :
    HoldsP (w.setCell ⟨g, i * 3 + 1, none⟩ (.int .i64 x)) g (m.set i (m[i].1, x, m[i].2.2)) := by
  obtain ⟨hp, hf⟩ := h
  refine ⟨?_, ?_⟩
  · intro k hk
    have hk' : k < m.length := by simpa using hk
    have h0 := hp i hi
    have h1 := hp k hk'
    simp only [Nat.zero_add] at h0 h1 ⊢
    by_cases hik : i = k
    · subst hik
      simp only [List.getElem_set_self]
      refine ⟨?_, ?_, ?_⟩
      · rw [World.cell?_setCell_other _ _ _ _ (by simp), h0.1]
      · rw [World.cell?_setCell_same _ _ _ h0.2.1]
      · rw [World.cell?_setCell_other _ _ _ _ (by simp), h0.2.2]
    · rw [List.getElem_set_ne hik]
      refine ⟨?_, ?_, ?_⟩
      all_goals
        rw [World.cell?_setCell_other _ _ _ _ (by simp <;> omega)]
      · exact h1.1
      · exact h1.2.1
      · exact h1.2.2
  · intro k hk
    simp only [World.frozen?_setCell]
    exact hf k (by simpa using hk)

theorem HoldsP.range {w : World} {g : Nat} {m : List Pl} (h : HoldsP w g m) : w.rangeAt g 0 (m.flatMap encPl) := by
  intro j v hv
  have := pls_flat h.1 j v hv
  rw [Addr.add_mid] at this
  exact this

theorem HoldsP.of_range {w : World} {g : Nat} {m : List Pl} (h : w.rangeAt g 0 (m.flatMap encPl)) (hf : ∀ i, i < m.length * 3 → w.frozen? ⟨g, i, none⟩ = false) : HoldsP w g m := by
  refine ⟨fun i hi => ?_, hf⟩
  obtain ⟨h0, h1, h2⟩ := flat_get m i hi
  exact ⟨h _ _ h0, h _ _ h1, h _ _ h2⟩

theorem HoldsP.there {w : World} {g : Nat} {m : List Pl} (h : HoldsP w g m) : w.there g 0 (m.length * 3) := by
  intro j hj
  have hr := h.range.isSome j (by rw [flat_len]; exact hj)
  exact ⟨hr, by rw [Nat.zero_add]; exact h.2 j hj⟩

theorem HoldsP.other {w : World} {g b : Nat} {m : List Pl} (h : HoldsP w g m) (hne : g ≠ b) (j : Nat) (v : Value) : HoldsP (w.setCell ⟨b, j, none⟩ v) g m := by
  refine ⟨fun i hi => ?_, fun i hi => by simp only [World.frozen?_setCell]; exact h.2 i hi⟩
  rw [World.cell?_setCell_other _ _ _ _ (by simp <;> omega), World.cell?_setCell_other _ _ _ _ (by simp <;> omega), World.cell?_setCell_other _ _ _ _ (by simp <;> omega)]
  exact h.1 i hi

theorem Blk.holds {w : World} {b : Nat} {m : List Pl} (h : Blk w b (m.flatMap encPl)) : HoldsP w b m :=
  HoldsP.of_range (fun j v hv => by rw [Nat.zero_add]; exact h.at j hv) (fun i _ => h.frz i)

theorem tab_step (l : List Pl) (j : Nat) (hj : j < l.length) (hs : scan 0 l = 0) (n : Nat) : tabAt (l.take (j + 1)) n = if (n : Int) = l[j].1 then l[j] else tabAt (l.take j) n := by
  obtain ⟨h1, h2⟩ := (Orangery.scan0_iff l).1 hs
  have hr := (Orangery.inRangeB_iff _).1 (h1 l[j] (List.getElem_mem hj))
  have h2' := List.pairwise_iff_getElem.1 h2
  have hf : find (l.take (j + 1)) n = if (n : Int) = l[j].1 then l[j] else find (l.take j) n := by
    rw [List.take_succ_eq_append_getElem hj]
    by_cases hn : (n : Int) = l[j].1
    · rw [if_pos hn, Orangery.find_append, Orangery.find_cons, if_pos hn.symm]
      intro q hq
      obtain ⟨i, hi, rfl⟩ := List.getElem_of_mem hq
      rw [List.getElem_take]
      have := h2' i j (by simp at hi; omega) hj (by simp at hi; omega)
      omega
    · rw [if_neg hn, Orangery.find_front]
      intro q hq
      simp at hq
      subst hq
      omega
  unfold tabAt
  rw [hf]
  by_cases hn : (n : Int) = l[j].1
  · rw [if_pos hn, if_pos hn, if_neg (by omega)]
  · rw [if_neg hn, if_neg hn]

end Go.Proofs.YthlhnokgcnieeadGreatDoor

/- orangeryref.places: the places of a table. -/
namespace Go.Proofs.YthlhnokgcnieeadGreatDoor
open Go.ChangeShapes Go.WideShapes Go.ChangeAt Go.RowKit
open Orangery (Pl rows)

theorem flat_part (l : List Pl) : ∀ i, (h : i < l.length) → ((l.flatMap encPl).drop (i * 3)).take 3 = encPl l[i] := by
  induction l with
  | nil => intro i h; simp at h
  | cons p l ih =>
    intro i h
    cases i with
    | zero => simp [encPl]
    | succ i =>
      have e : (i + 1) * 3 = (encPl p).length + i * 3 := by simp [encPl]; omega
      have e2 : (encPl p).drop ((encPl p).length + i * 3) = [] := List.drop_of_length_le (by omega)
      rw [List.flatMap_cons, e, List.drop_append, e2, List.nil_append, Nat.add_sub_cancel_left]
      simpa using ih i (by simpa using h)

end Go.Proofs.YthlhnokgcnieeadGreatDoor

/- orangeryref.done: an operation on right places. -/
namespace Go.Proofs.YthlhnokgcnieeadGreatDoor
open Go.ChangeShapes Go.WideShapes Go.ChangeAt Go.RowKit
open Orangery (Pl Mv Stp outL inL check checkOp doE doT doS ring orI underB find noStep noOp chain hasB tabAt rows scan)

end Go.Proofs.YthlhnokgcnieeadGreatDoor

/- Plain facts on the reference's fold: the least one above the last one, looked for one by one. -/
namespace Orangery

/-- what the search for the least one above the last one has found among the first i -/
def bestOk (l : List Mv) (last : Int) (i : Nat) (best : Int) : Prop :=
  (best = -1 ∧ ∀ x ∈ l.take i, ¬ last < rk x) ∨
  ∃ j : Nat, ∃ hj : j < l.length, best = j ∧ j < i ∧ last < rk l[j] ∧ (∀ x ∈ l.take i, last < rk x → rk l[j] ≤ rk x) ∧ ∀ x ∈ l.take j, rk x ≠ rk l[j]

theorem best_start (l : List Mv) (last : Int) : bestOk l last 0 (-1) := Or.inl ⟨rfl, by simp⟩

theorem mem_take_succ {l : List Mv} {i : Nat} (hi : i < l.length) (x : Mv) : x ∈ l.take (i + 1) ↔ x ∈ l.take i ∨ x = l[i] := by
  rw [List.take_succ_eq_append_getElem hi, List.mem_append, List.mem_singleton]

theorem best_no {l : List Mv} {last best : Int} {i : Nat} (hi : i < l.length) (h : bestOk l last i best) (hn : ¬ last < rk l[i]) : bestOk l last (i + 1) best := by
  rcases h with ⟨rfl, h⟩ | ⟨j, hj, rfl, h1, h2, h3, h4⟩
  · refine Or.inl ⟨rfl, fun x hx => ?_⟩
    rcases (mem_take_succ hi x).1 hx with hx | rfl
    · exact h x hx
    · exact hn
  · refine Or.inr ⟨j, hj, rfl, by omega, h2, fun x hx hl => ?_, h4⟩
    rcases (mem_take_succ hi x).1 hx with hx | rfl
    · exact h3 x hx hl
    · exact absurd hl hn
theorem best_first {l : List Mv} {last : Int} {i : Nat} (hi : i < l.length) (h : bestOk l last i (-1)) (hn : last < rk l[i]) : bestOk l last (i + 1) i := by
  rcases h with ⟨_, h⟩ | ⟨j, hj, e, _⟩
  · refine Or.inr ⟨i, hi, rfl, by omega, hn, fun x hx hl => ?_, fun x hx e => ?_⟩
    · rcases (mem_take_succ hi x).1 hx with hx | rfl
      · exact absurd hl (h x hx)
      · exact Int.le_refl _
    · exact h x hx (by rw [e]; exact hn)
  · omega
theorem best_less {l : List Mv} {last : Int} {i j : Nat} (hi : i < l.length) (hj : j < l.length) (h : bestOk l last i j) (hn : last < rk l[i]) (hl : rk l[i] < rk l[j]) : bestOk l last (i + 1) i := by
  rcases h with ⟨e, _⟩ | ⟨j', hj', e, h1, h2, h3, h4⟩
  · omega
  · obtain rfl : j = j' := by omega
    refine Or.inr ⟨i, hi, rfl, by omega, hn, fun x hx hlx => ?_, fun x hx e => ?_⟩
    · rcases (mem_take_succ hi x).1 hx with hx | rfl
      · have := h3 x hx hlx; omega
      · exact Int.le_refl _
    · have := h3 x hx (by rw [e]; exact hn)
      omega
theorem best_keep {l : List Mv} {last : Int} {i j : Nat} (hi : i < l.length) (hj : j < l.length) (h : bestOk l last i j) (hl : ¬ rk l[i] < rk l[j]) : bestOk l last (i + 1) j := by
  rcases h with ⟨e, _⟩ | ⟨j', hj', e, h1, h2, h3, h4⟩
  · omega
  · obtain rfl : j = j' := by omega
    refine Or.inr ⟨j, hj', rfl, by omega, h2, fun x hx hlx => ?_, h4⟩
    rcases (mem_take_succ hi x).1 hx with hx | rfl
    · exact h3 x hx hlx
    · omega

theorem best_cases {l : List Mv} {last best : Int} {i : Nat} (h : bestOk l last i best) : best = -1 ∨ ∃ j : Nat, best = j ∧ j < l.length := by
  rcases h with ⟨e, _⟩ | ⟨j, hj, e, _⟩
  · exact Or.inl e
  · exact Or.inr ⟨j, e, hj⟩

theorem best_none {l : List Mv} {k : Nat} (hk : k ≤ (srt l).length) (hok : ∀ o ∈ l, checkOp o = 0) (h : bestOk l (lastR (srt l) k) l.length (-1)) : k = (srt l).length := by
  rcases h with ⟨_, h⟩ | ⟨j, hj, e, _⟩
  · rw [List.take_of_length_le (Nat.le_refl _)] at h
    exact srt_none l k hk (fun o ho => rk_pos (hok o ho)) h
  · omega
theorem best_next {l : List Mv} {k j : Nat} (hk : k ≤ (srt l).length) (hok : ∀ o ∈ l, checkOp o = 0) (h : bestOk l (lastR (srt l) k) l.length j) :
    ∃ hj : j < l.length, ∃ h : k < (srt l).length, (srt l)[k] = l[j] := by
  rcases h with ⟨e, _⟩ | ⟨j', hj', e, h1, h2, h3, h4⟩
  · omega
  · obtain rfl : j = j' := by omega
    rw [List.take_of_length_le (Nat.le_refl _)] at h3
    have hf : l.find? (fun x => rk x == rk l[j]) = some l[j] := by
      rw [List.find?_eq_some_iff_getElem]
      refine ⟨by simp, j, hj', rfl, fun i hi => ?_⟩
      have : rk l[i] ≠ rk l[j] := h4 l[i] (by rw [List.mem_take_iff_getElem]; exact ⟨i, by omega, rfl⟩)
      simp [this]
    obtain ⟨h5, h6⟩ := srt_next l k hk (fun o ho => rk_pos (hok o ho)) l[j] hf h2 h3
    exact ⟨hj', h5, h6⟩
theorem lastR_zero (d : List Mv) : lastR d 0 = -1 := by unfold lastR; rw [dif_neg (by omega)]
theorem lastR_succ (d : List Mv) (k : Nat) (hk : k < d.length) : lastR d (k + 1) = rk d[k] := by
  unfold lastR
  rw [dif_pos ⟨by omega, by simpa using hk⟩]
  simp
theorem noTwo_of_srt {l : List Mv} (h : l.length ≤ (srt l).length) : noTwo l := by
  by_cases hn : noTwo l
  · exact hn
  · have := (srt_len l).2.2 hn; omega
theorem twice_of_srt {l : List Mv} (h : (srt l).length < l.length) : ¬ noTwo l := by
  intro hn
  have := ((srt_len l).2.1 hn).length_eq
  omega
end Orangery

/- orangeryref.Folded. -/
namespace Go.Proofs.YthlhnokgcnieeadGreatDoor
open Go.ChangeShapes Go.WideShapes Go.ChangeAt Go.RowKit
open Orangery (Pl Mv Stp check checkOp firstE foldE foldL foldT noTwo srt rk lastR bestOk doE doT doS dT dS)

/-- places that lie in a block of places -/
def SlT (w : World) (base : Nat) (a : Option Addr) (l : List Pl) : Prop :=
  l = [] ∨ ∃ b off cur fr, base ≤ b ∧ a = some ⟨b, off, none⟩ ∧ w.heap[b]? = some (.cells cur 93 fr) ∧ PlsAt w b off l
theorem SlT.slp {w : World} {base : Nat} {a : Option Addr} {l : List Pl} (h : SlT w base a l) : SlP w a l := by
  rcases h with h | ⟨b, off, cur, fr, _, ha, hb, hp⟩
  · exact Or.inl h
  · exact Or.inr ⟨b, off, ha, blk_lt hb, hp⟩
theorem SlT.below {w w' : World} {base : Nat} {a : Option Addr} {l : List Pl} (h : SlT w base a l) (hb : Below w.heap.size w w') : SlT w' base a l := by
  rcases h with h | ⟨b, off, cur, fr, hbs, ha, hh, hp⟩
  · exact Or.inl h
  · have hlt := blk_lt hh
    refine Or.inr ⟨b, off, cur, fr, hbs, ha, by rw [hb.block _ hlt]; exact hh, fun i hi => ?_⟩
    rw [hb.cell hlt, hb.cell hlt, hb.cell hlt]
    exact hp i hi
theorem SlT.mono {w : World} {base base' : Nat} {a : Option Addr} {l : List Pl} (h : SlT w base a l) (hb : base' ≤ base) : SlT w base' a l := by
  rcases h with h | ⟨b, off, cur, fr, hbs, r⟩
  · exact Or.inl h
  · exact Or.inr ⟨b, off, cur, fr, Nat.le_trans hb hbs, r⟩
theorem OwnS.slt {w : World} {base n c : Nat} {a : Option Addr} {l : List Pl} (h : OwnS w base (.slice a n c) l) : SlT w base a l := by
  rcases h with ⟨_, rfl⟩ | ⟨g, cap, e, hb, _, _, _, hp, cur, hc, _⟩
  · exact Or.inl rfl
  · obtain ⟨rfl, _⟩ : a = _ ∧ _ := by simpa using e
    exact Or.inr ⟨g, 0, cur, _, hb, rfl, hc, hp.1⟩
theorem SlT.grown {w w' : World} {a : Option Addr} {l : List Pl} {base bs n : Nat} {v : Value} {xs : List Value} (h : SlT w bs a l) (hown : w.ownsRow base 95 11 v n xs) (hg : w.grownBy w' v.ownBlock) : SlT w' bs a l := by
  rcases h with h | ⟨b, off, cur, fr, hbs, ha, hh, hp⟩
  · exact Or.inl h
  · have hne : some b ≠ v.ownBlock := by
      rcases hown.2 with ⟨rfl, _⟩ | ⟨g, cap, cur', rfl, _, hg', _⟩
      · simp [Value.ownBlock]
      · intro e
        have e' : b = g := by simpa [Value.ownBlock] using e
        subst e'
        rw [hh] at hg'
        simp at hg'
    have hb := hg.block b (blk_lt hh) hne
    refine Or.inr ⟨b, off, cur, fr, hbs, ha, by rw [hb]; exact hh, fun i hi => ?_⟩
    rw [World.cell?_of_block (w := w) (w' := w') (a := ⟨b, off + i * 3, none⟩) hb, World.cell?_of_block (w := w) (w' := w') (a := ⟨b, off + i * 3 + 1, none⟩) hb, World.cell?_of_block (w := w) (w' := w') (a := ⟨b, off + i * 3 + 2, none⟩) hb]
    exact hp i hi
theorem SlT.other {w : World} {base : Nat} {a : Option Addr} {l : List Pl} (h : SlT w base a l) (g : Nat) (hg : g < base) (j : Nat) (u : Value) : SlT (w.setCell ⟨g, j, none⟩ u) base a l := by
  rcases h with h | ⟨b', off, cur, fr', hbs, ha, hh, hp⟩
  · exact Or.inl h
  · have hne : ¬ b' = g := by omega
    refine Or.inr ⟨b', off, cur, fr', hbs, ha, by rw [heap_setCell_other _ _ _ _ hne]; exact hh, fun i hi => ?_⟩
    rw [World.cell?_setCell_other _ _ _ _ (by simp <;> omega), World.cell?_setCell_other _ _ _ _ (by simp <;> omega), World.cell?_setCell_other _ _ _ _ (by simp <;> omega)]
    exact hp i hi
theorem SlT.others {base : Nat} {a : Option Addr} {l : List Pl} (g : Nat) (hg : g < base) : ∀ (us : List Value) (o : Nat) (w : World), SlT w base a l → SlT (w.setCells g o us) base a l
  | [], _, _, h => h
  | u :: us, o, _, h => SlT.others g hg us (o + 1) _ (h.other g hg o u)

theorem slt_end {w5 wf : World} {base base' n c' : Nat} {a' aT : Option Addr} {Tn Tk : List Pl} (hor : (a' = aT ∧ Tn = Tk) ∨ OwnS w5 base' (.slice a' n c') Tn) (hT : SlT wf base aT Tk) (hm : OwnS w5 base' (.slice a' n c') Tn → OwnS wf base' (.slice a' n c') Tn) (hb : base ≤ base') : SlT wf base a' Tn := by
  rcases hor with ⟨rfl, rfl⟩ | h
  · exact hT
  · exact (hm h).slt.mono hb

/-- what the reference's fold leaves -/
def RFolds (w : World) (L : List Stp) (T : List Pl) (E : Int) (e : Ending) (w' : World) : Prop :=
  ∃ vL aT cT, e = .returned (.tuple #[hiV vL (.slice aT T.length cT), .int .i64 E]) ∧ OwnE stC 11 95 w' w.heap.size vL L ∧ SlT w' w.heap.size aT T ∧ Below w.heap.size w w'
theorem rfolds_err {w w' : World} {L : List Stp} {T : List Pl} {E : Int} (hL : L = []) (hT : T = []) (hb : Below w.heap.size w w') :
    RFolds w L T E (.returned (.tuple #[.agg [Value.slice none 0 0, Value.slice none 0 0].toArray, .int .i64 E])) w' := by
  subst hL hT
  exact ⟨_, none, 0, rfl, OwnE.nil _ _, Or.inl rfl, hb⟩

/-- how many steps lie in a history's box -/
def hLen (W : World) (b : Nat) : Nat := lenOf ((W.cell? ⟨b, 0, none⟩).getD undef)

end Go.Proofs.YthlhnokgcnieeadGreatDoor

