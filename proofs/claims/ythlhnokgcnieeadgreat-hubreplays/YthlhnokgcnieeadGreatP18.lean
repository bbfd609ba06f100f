/- 2 texts of the proof: hub.Sees, hub.Replay. orangeryref.Nexted, orangeryref.HubOf. -/
import Derived.Test.YthlhnokgcnieeadGreatP15
import Derived.Test.YthlhnokgcnieeadGreatP17
/- hub.Sees, hub.Replay. -/
namespace Go.Proofs.YthlhnokgcnieeadGreat
open Go.ChangeShapes Go.WideShapes Go.ChangeAt Go.RowKit
open Orangery (Pl Mv Stp Rc Pr Hb peerE peersE rootsOk hubE histE newHb prOf stepE stepH noHb insE insL insT checkRec nextE nextH orI ofE ofR ofK ofW runE runH replayE replayH)

def seesB (h : Hb) (who : Int) : Int := if hubE h ≠ 0 then hubE h else if who < 0 ∨ 3 ≤ who then 5 else 0
/-- chapter 8's Sees -/
def seesE (h : Hb) (who : Int) : Int := if seesB h who ≠ 0 then seesB h who else ofE h.1.2 (prOf h who).2.2
def seesR (h : Hb) (who : Int) : List Int := if seesB h who ≠ 0 then [] else ofR h.1.2 (prOf h who).2.2
def seesK (h : Hb) (who : Int) : List Pl := if seesB h who ≠ 0 then [] else ofK h.1.2 (prOf h who).2.2
def seesW (h : Hb) (who : Int) : List Pl := if seesB h who ≠ 0 then [] else ofW h.1.2 (prOf h who).2.2
theorem sees_bad {h : Hb} {who : Int} (e : seesB h who ≠ 0) : seesE h who = seesB h who ∧ seesR h who = [] ∧ seesK h who = [] ∧ seesW h who = [] := by
  unfold seesE seesR seesK seesW
  rw [if_pos e, if_pos e, if_pos e, if_pos e]
  exact ⟨rfl, rfl, rfl, rfl⟩
theorem sees_ok {h : Hb} {who : Int} (e : seesB h who = 0) : seesE h who = ofE h.1.2 (prOf h who).2.2 ∧ seesR h who = ofR h.1.2 (prOf h who).2.2 ∧ seesK h who = ofK h.1.2 (prOf h who).2.2 ∧ seesW h who = ofW h.1.2 (prOf h who).2.2 := by
  unfold seesE seesR seesK seesW
  rw [if_neg (by simp [e]), if_neg (by simp [e]), if_neg (by simp [e]), if_neg (by simp [e])]
  exact ⟨rfl, rfl, rfl, rfl⟩
theorem ViX.no (D : Nat → Prop) (w : World) : ViX D [] [] [] w [.slice none 0 0, .slice none 0 0, .slice none 0 0] :=
  ⟨none, none, none, 0, 0, 0, rfl, Or.inl rfl, Or.inl rfl, Or.inl rfl, Or.inl rfl, Or.inl rfl, Or.inl rfl⟩

set_option maxHeartbeats 4000000 in
set_option maxRecDepth 100000 in
theorem usees_any (w : World) (vs : List Value) (h : Hb) (who : Int) (n : Nat) (hh : HuX (· < n) h w vs) (hnw : n ≤ w.heap.size) :
    Calls Tryz.prog 8 #[.agg vs.toArray, .int .i64 who] w (Gives (ViX (Old n w.heap.size) (seesR h who) (seesK h who) (seesW h who)) w (seesE h who)) := by
  have HH := Lib.hid hh.is
  obtain ⟨a, c, p, d, q, gc, X, rfl, hX, hD⟩ := hh
  have HX := Lib.hid hX
  have HNX := Lib.hid hD.roots
  clear hX hD
  have HBAD : Hid (∀ E w', E = seesB h who → E ≠ 0 → Below w.heap.size w w' → Gives (ViX (Old n w.heap.size) (seesR h who) (seesK h who) (seesW h who)) w (seesE h who) (.returned (.tuple #[.agg [Value.slice none 0 0, .slice none 0 0, .slice none 0 0].toArray, .int .i64 E])) w') := by
    intro E w' e hne hb
    subst e
    obtain ⟨e1, e2, e3, e4⟩ := sees_bad hne
    exact ⟨_, by rw [e1], by rw [e2, e3, e4]; exact ViX.no _ _, hb⟩
  have HGOOD := Lib.hid (@sees_ok h who)
  have HB1 : Hid (hubE h ≠ 0 → hubE h = seesB h who) := fun e => by unfold seesB; rw [if_pos e]
  have HB2 : Hid (hubE h = 0 → (who < 0 ∨ 3 ≤ who) → 5 = seesB h who) := fun e e2 => by unfold seesB; rw [if_neg (by simp [e]), if_pos e2]
  have HB3 : Hid (hubE h = 0 → ¬ (who < 0 ∨ 3 ≤ who) → seesB h who = 0) := fun e e2 => by unfold seesB; rw [if_neg (by simp [e]), if_neg e2]
  have CK : Hid (∀ W', Below w.heap.size w W' → Calls Tryz.prog 12 #[huV (.slice a h.1.1.length c) (.slice p h.1.2.length d) h.2.1 (.slice q X.length gc)] W' fun e w' => e = .returned (.int .i64 (hubE h)) ∧ Below W'.heap.size W' w') := fun W' hw => ucheck_any W' _ h (HH.out.keep hw)
  clear HH
  go_enter Tryz.func8, Tryz.ntmps8
  go_wp2_with fail
  obtain ⟨W0, hW, hA, hZ, hB, -⟩ := laid2 w [Value.slice a h.1.1.length c, .slice p h.1.2.length d, .int .i64 h.2.1, .slice q X.length gc] 30 [Value.slice none 0 0, .slice none 0 0, .slice none 0 0] 42
  rw [hW]
  clear hW
  refine (CK.out W0 hB).mono ?_
  rintro e w1 ⟨rfl, hb⟩
  have hA1 := hA.keep hb
  have hZ1 := hZ.keep hb
  have HBL := Lib.hid (hB.trans (hb.mono hB.size))
  clear hA hZ hB hb CK
  have rf := hZ1.frz
  have r0 := hZ1.at 0 rfl
  have r1 := hZ1.at 1 rfl
  have r2 := hZ1.at 2 rfl
  by_cases hz : hubE h = 0
  case neg =>
    have d1 : (hubE h != 0) = true := by simpa using hz
    have HZ := Lib.hid hz
    have HE := Lib.hid (HB1.out hz)
    clear hz HB1 HB2 HB3 HGOOD
    generalize hubE h = OE at *
    go_wp2
    have hRf := hZ1.sets [Value.slice none 0 0, .slice none 0 0, .slice none 0 0] rfl
    refine ret_cell_tmp Tryz.results8 rfl rfl (hRf.load Tryz.underlying42 rfl sizeView) ?_
    exact HBAD.out OE _ HE.out HZ.out (below_sets HBL.out (w.heap.size + 1) (by omega) [Value.slice none 0 0, .slice none 0 0, .slice none 0 0] 0)
  have HZ := Lib.hid hz
  have HFEW := Lib.hid (hub_few hz)
  rw [hz]
  by_cases hw : who < 0 ∨ 3 ≤ who
  · have HE := Lib.hid (HB2.out hz hw)
    clear hz HB1 HB2 HB3 HGOOD
    by_cases hw1 : who < 0
    · go_wp2
      have hRf := hZ1.sets [Value.slice none 0 0, .slice none 0 0, .slice none 0 0] rfl
      refine ret_cell_tmp Tryz.results8 rfl rfl (hRf.load Tryz.underlying42 rfl sizeView) ?_
      exact HBAD.out 5 _ HE.out (by omega) (below_sets HBL.out (w.heap.size + 1) (by omega) [Value.slice none 0 0, .slice none 0 0, .slice none 0 0] 0)
    · have d2 : decide (who ≥ 3) = true := by simp; omega
      have d1 : decide (who < 0) = false := by simp; omega
      clear hw hw1
      go_wp2
      have hRf := hZ1.sets [Value.slice none 0 0, .slice none 0 0, .slice none 0 0] rfl
      refine ret_cell_tmp Tryz.results8 rfl rfl (hRf.load Tryz.underlying42 rfl sizeView) ?_
      exact HBAD.out 5 _ HE.out (by omega) (below_sets HBL.out (w.heap.size + 1) (by omega) [Value.slice none 0 0, .slice none 0 0, .slice none 0 0] 0)
  have HG := Lib.hid (HGOOD.out (HB3.out hz hw))
  obtain ⟨k, rfl⟩ : ∃ k : Nat, who = (k : Int) := ⟨who.toNat, by omega⟩
  have hk3 : k < 3 := by omega
  have hl3 : X.length = 3 := by have := HFEW.out.2.2.1; rw [← HX.out.are] at this; simpa using this
  have hkl : k < X.length := by omega
  have HP := Lib.hid (prOf_at HX.out.are k hkl)
  obtain ⟨bq, oq, hqe, hbq, hrq⟩ := HX.out.peers.reads.at prC_len k hkl
  subst hqe
  obtain ⟨-, -, g2⟩ := pr_cells hrq
  have g2' : w1.cell? ⟨bq, oq + k * 3 + 2, none⟩ = some (.slice X[k].2.1 X[k].1.2.2.length X[k].2.2) := by rw [HBL.out.cell (by exact hbq)]; exact g2
  have HPI := Lib.hid (HX.out.peers.roots _ (List.getElem_mem hkl))
  have HIN := Lib.hid (HNX.out _ (List.getElem_mem hkl))
  have x1 := hA1.at 1 rfl
  have x3 := hA1.at 3 rfl
  rw [hl3] at x3
  have HL3 := Lib.hid hl3
  have hlti : (k : Int) < 3 := by omega
  have hd1 : decide ((k : Int) < 0) = false := by simp
  have hd2 : decide ((k : Int) ≥ 3) = false := by simp; omega
  have HOF : Hid (∀ W', Below w.heap.size w W' → Calls Tryz.prog 32 #[.agg #[.slice p h.1.2.length d], .slice X[k].2.1 X[k].1.2.2.length X[k].2.2] W' (Gives (ViX (Old n W'.heap.size) (ofR h.1.2 X[k].1.2.2) (ofK h.1.2 X[k].1.2.2) (ofW h.1.2 X[k].1.2.2)) W' (ofE h.1.2 X[k].1.2.2))) := by
    intro W' hw'
    refine (of_any W' p X[k].2.1 d X[k].2.2 h.1.2 X[k].1.2.2 HX.out.few2 HPI.out.2 (HX.out.places.below hw') (HPI.out.1.below hw')).mono ?_
    intro e w' hv
    refine views_gives hv ?_
    unfold ofR
    split
    · exact Or.inl rfl
    · exact HIN.out
  rw [← HP.out] at HG
  generalize X[k] = x at *
  obtain ⟨⟨f, u, R⟩, ar, cr⟩ := x
  simp only at g2' HG HOF
  clear hz hw HB1 HB2 HB3 HGOOD HBAD hl3 hrq g2 hkl HX HNX HPI HIN HP hA1 HFEW
  go_upto_region 6 with fail
  refine wp_region_held_drew (S := fun w' => w'.cell? ⟨w.heap.size, 1, none⟩ = some (.slice p h.1.2.length d) ∧ w'.cell? ⟨w.heap.size, 3, none⟩ = some (.slice (some ⟨bq, oq, none⟩) 3 gc) ∧ w'.cell? ⟨bq, oq + k * 3 + 2, none⟩ = some (.slice ar R.length cr)) (by kernel_rfl) ⟨x1, x3, g2'⟩ (fun hHeld => ?_)
  refine take_yes 0 20 (v := ?_) rfl rfl (by kernel_rfl) (by kernel_rfl) (by kernel_rfl) (fun _ _ _ h => h) (by rfl) ?_ hHeld ?_
  rotate_left 1
  · (intro w hSw; obtain ⟨s1, s2, s3⟩ := hSw; go_simp; try with_reducible rfl)
  simp only [Act.put, List.setIfInBounds_toArray, List.set_cons_succ, List.set_cons_zero]
  refine take_yes 1 21 (v := ?_) rfl rfl (by kernel_rfl) (by kernel_rfl) (by kernel_rfl) (fun _ _ _ h => h) (by rfl) ?_ hHeld ?_
  rotate_left 1
  · (intro w hSw; obtain ⟨s1, s2, s3⟩ := hSw; go_simp; try with_reducible rfl)
  simp only [Act.put, List.setIfInBounds_toArray, List.set_cons_succ, List.set_cons_zero]
  refine take_yes 2 22 (v := ?_) rfl rfl (by kernel_rfl) (by kernel_rfl) (by kernel_rfl) (fun _ _ _ h => h) (by rfl) ?_ hHeld ?_
  rotate_left 1
  · (intro w hSw; obtain ⟨s1, s2, s3⟩ := hSw; go_simp; try with_reducible rfl)
  simp only [Act.put, List.setIfInBounds_toArray, List.set_cons_succ, List.set_cons_zero]
  refine take_yes 3 23 (v := ?_) rfl rfl (by kernel_rfl) (by kernel_rfl) (by kernel_rfl) (fun _ _ _ h => h) (by rfl) ?_ hHeld ?_
  rotate_left 1
  · (intro w hSw; obtain ⟨s1, s2, s3⟩ := hSw; go_simp; try with_reducible rfl)
  simp only [Act.put, List.setIfInBounds_toArray, List.set_cons_succ, List.set_cons_zero]
  refine take_yes 4 24 (v := ?_) rfl rfl (by kernel_rfl) (by kernel_rfl) (by kernel_rfl) (fun _ _ _ h => h) (by rfl) ?_ hHeld ?_
  rotate_left 1
  · (intro w hSw; obtain ⟨s1, s2, s3⟩ := hSw; go_simp; try with_reducible rfl)
  simp only [Act.put, List.setIfInBounds_toArray, List.set_cons_succ, List.set_cons_zero]
  refine take_yes 5 25 (v := ?_) rfl rfl (by kernel_rfl) (by kernel_rfl) (by kernel_rfl) (fun _ _ _ h => h) (by rfl) ?_ hHeld ?_
  rotate_left 1
  · (intro w hSw; obtain ⟨s1, s2, s3⟩ := hSw; go_simp; try with_reducible rfl)
  simp only [Act.put, List.setIfInBounds_toArray, List.set_cons_succ, List.set_cons_zero]
  refine take_yes 6 26 (v := ?_) rfl rfl (by kernel_rfl) (by kernel_rfl) (by kernel_rfl) (fun _ _ _ h => h) (by rfl) ?_ hHeld ?_
  rotate_left 1
  · (intro w hSw; obtain ⟨s1, s2, s3⟩ := hSw; go_simp; try with_reducible rfl)
  simp only [Act.put, List.setIfInBounds_toArray, List.set_cons_succ, List.set_cons_zero]
  refine take_yes 7 27 (v := ?_) rfl rfl (by kernel_rfl) (by kernel_rfl) (by kernel_rfl) (fun _ _ _ h => h) (by rfl) ?_ hHeld ?_
  rotate_left 1
  · (intro w hSw; obtain ⟨s1, s2, s3⟩ := hSw; go_simp; try with_reducible rfl)
  simp only [Act.put, List.setIfInBounds_toArray, List.set_cons_succ, List.set_cons_zero]
  refine take_yes 8 28 (v := ?_) rfl rfl (by kernel_rfl) (by kernel_rfl) (by kernel_rfl) (fun _ _ _ h => h) (by rfl) ?_ hHeld ?_
  rotate_left 1
  · (intro w hSw; obtain ⟨s1, s2, s3⟩ := hSw; go_simp; try with_reducible rfl)
  simp only [Act.put, List.setIfInBounds_toArray, List.set_cons_succ, List.set_cons_zero]
  refine wpAnyH_ready (rs := [9]) (by kernel_rfl) (by simp) ?_
  refine AllReadyH.cons rfl (fun KK hKK => ?_) AllReadyH.nil
  go_simp
  refine (HOF.out _ HBL.out.drew).mono ?_
  rintro e w2 ⟨vs, rfl, hQ, hb2⟩
  have hlen := hQ.len
  have hb2' : Below w1.heap.size w1 w2 := ((Below.refl _ w1).drew).trans hb2
  have hS2 : w2.cell? ⟨w.heap.size, 1, none⟩ = some (.slice p h.1.2.length d) ∧ w2.cell? ⟨w.heap.size, 3, none⟩ = some (.slice (some ⟨bq, oq, none⟩) 3 gc) ∧ w2.cell? ⟨bq, oq + k * 3 + 2, none⟩ = some (.slice ar R.length cr) := by
    have l1 : w.heap.size < w1.heap.size := by have := hZ1.lt; omega
    have l2 : bq < w1.heap.size := by omega
    exact ⟨by rw [hb2'.cell (by exact l1)]; exact x1, by rw [hb2'.cell (by exact l1)]; exact x3, by rw [hb2'.cell (by exact l2)]; exact g2'⟩
  have hZ2 := hZ1.keep hb2'
  have HB2 := Lib.hid (HBL.out.trans (hb2'.mono HBL.out.size))
  go_wp2_with fail
  refine hKK.out _ _ (hS2) (fun hHeld => ?_)
  clear hKK KK
  refine take_yes 10 30 (v := ?_) rfl rfl (by kernel_rfl) (by kernel_rfl) (by kernel_rfl) (fun _ _ _ h => h) (by rfl) ?_ hHeld ?_
  rotate_left 1
  · (intro w hSw; go_simp; try with_reducible rfl)
  simp only [Act.put, List.setIfInBounds_toArray, List.set_cons_succ, List.set_cons_zero]
  refine take_yes 11 31 (v := ?_) rfl rfl (by kernel_rfl) (by kernel_rfl) (by kernel_rfl) (fun _ _ _ h => h) (by rfl) ?_ hHeld ?_
  rotate_left 1
  · (intro w hSw; go_simp; try with_reducible rfl)
  simp only [Act.put, List.setIfInBounds_toArray, List.set_cons_succ, List.set_cons_zero]
  have hS3 : (w2.setCells (w.heap.size + 1) 0 vs).cell? ⟨w.heap.size, 1, none⟩ = some (.slice p h.1.2.length d) ∧ (w2.setCells (w.heap.size + 1) 0 vs).cell? ⟨w.heap.size, 3, none⟩ = some (.slice (some ⟨bq, oq, none⟩) 3 gc) ∧ (w2.setCells (w.heap.size + 1) 0 vs).cell? ⟨bq, oq + k * 3 + 2, none⟩ = some (.slice ar R.length cr) := by
    refine ⟨?_, ?_, ?_⟩
    · rw [World.cell?_of_block (w := w2) (a := ⟨w.heap.size, 1, none⟩) (sets_heap w.heap.size (w.heap.size + 1) (by omega) vs 0 w2)]; exact hS2.1
    · rw [World.cell?_of_block (w := w2) (a := ⟨w.heap.size, 3, none⟩) (sets_heap w.heap.size (w.heap.size + 1) (by omega) vs 0 w2)]; exact hS2.2.1
    · rw [World.cell?_of_block (w := w2) (a := ⟨bq, oq + k * 3 + 2, none⟩) (sets_heap bq (w.heap.size + 1) (by omega) vs 0 w2)]; exact hS2.2.2
  have hlt0 : w.heap.size + 1 < w1.drew.heap.size := hZ1.lt
  refine step_store 12 42 (w.heap.size + 1) vs (by kernel_rfl) rfl rfl (by rfl) (by rfl) (by rfl) (by rfl) (by rw [hlen]; exact hZ2.there) (by rw [hlen]; exact sizeView) hQ.one hS3 ?_
  have hHeld := hS3
  refine take_yes 13 5 (v := ?_) rfl rfl (by kernel_rfl) (by kernel_rfl) (by kernel_rfl) (fun _ _ _ h => h) (by rfl) ?_ hHeld ?_
  rotate_left 1
  · (intro w hSw; go_simp; try with_reducible rfl)
  simp only [Act.put, List.setIfInBounds_toArray, List.set_cons_succ, List.set_cons_zero]
  refine wpAnyH_done (by kernel_rfl) ?_ _
  have HRR : Hid (ViX (Old n w.heap.size) (ofR h.1.2 R) (ofK h.1.2 R) (ofW h.1.2 R) (w2.setCells (w.heap.size + 1) 0 vs) vs) := (hQ.sets (w.heap.size + 1) (fun b hb => by rcases hb with hb | hb <;> omega) vs 0).imp (fun b hb => by rcases hb with hb | hb; exact Or.inl hb; exact Or.inr (by have := hlt0; omega))
  have HBE := Lib.hid (below_sets HB2.out (w.heap.size + 1) (by omega) vs 0)
  have hRf := hZ2.sets vs (by rw [hlen]; rfl)
  clear hHeld hS2 hS3 hQ hb2 hb2' x1 x3 g2' hZ1 hZ2 r0 r1 r2 rf
  generalize w2.setCells (w.heap.size + 1) 0 vs = W5 at *
  go_wp2
  refine ret_cell_tmp Tryz.results8 rfl rfl (hRf.load Tryz.underlying42 rfl (by rw [hlen]; exact sizeView)) ?_
  refine ⟨vs, by rw [HG.out.1]; rfl, ?_, HBE.out⟩
  rw [HG.out.2.1, HG.out.2.2.1, HG.out.2.2.2]
  exact HRR.out


/-- a record in memory: it, its roots' address, the room there -/
abbrev Rq := Rc × Option Addr × Nat
abbrev Rq.val (x : Rq) : Value := rcV x.1.1 x.1.2.1 x.1.2.2.1 (.slice x.2.1 x.1.2.2.2.1.length x.2.2) x.1.2.2.2.2
def rqC (x : Rq) : List Value := [.int .i64 x.1.1, .int .i64 x.1.2.1, .int .i64 x.1.2.2.1, .slice x.2.1 x.1.2.2.2.1.length x.2.2, .int .i64 x.1.2.2.2.2.1, .int .i64 x.1.2.2.2.2.2.1, .int .i64 x.1.2.2.2.2.2.2.1.1, .int .i64 x.1.2.2.2.2.2.2.1.2.1, .int .i64 x.1.2.2.2.2.2.2.1.2.2, .int .i64 x.1.2.2.2.2.2.2.2.1, .int .i64 x.1.2.2.2.2.2.2.2.2]
theorem rqC_len (x : Rq) : (rqC x).length = 11 := rfl
/-- a row of records that is read -/
structure SlC (w : World) (a : Option Addr) (X : List Rq) : Prop where
  reads : SlE rqC w a X
  roots : ∀ x ∈ X, SlI w x.2.1 x.1.2.2.2.1 ∧ x.1.2.2.2.1.length ≤ maxLen
theorem SlC.keep {w w' : World} {a : Option Addr} {X : List Rq} (h : SlC w a X) (hb : Below w.heap.size w w') : SlC w' a X := ⟨h.reads.below hb, fun x hx => ⟨(h.roots x hx).1.below hb, (h.roots x hx).2⟩⟩
theorem run_stop {h : Hb} {l : List Rc} {k : Nat} (hk : k < l.length) (h1 : runE h (l.take k) = 0) (h2 : nextE (runH h (l.take k)) l[k] ≠ 0) : runE h l = nextE (runH h (l.take k)) l[k] := by
  induction l generalizing h k with
  | nil => simp at hk
  | cons r l ih =>
    cases k with
    | zero =>
      simp only [List.take_zero, List.getElem_cons_zero] at h2 ⊢
      show (if nextE h r ≠ 0 then nextE h r else runE (stepH h r) l) = _
      rw [if_pos (by exact h2)]
      rfl
    | succ k =>
      simp only [List.take_succ_cons, List.getElem_cons_succ] at h1 h2 ⊢
      obtain ⟨h3, h4⟩ := (Orangery.runE_zero h r (l.take k)).1 h1
      show (if nextE h r ≠ 0 then nextE h r else runE (stepH h r) l) = _
      rw [if_neg (by simp [h3])]
      exact ih (by simpa using hk) h4 h2
theorem run_more {h : Hb} {l : List Rc} {k : Nat} (hk : k < l.length) (h1 : runE h (l.take k) = 0) (h2 : nextE (runH h (l.take k)) l[k] = 0) : runE h (l.take (k + 1)) = 0 ∧ runH h (l.take (k + 1)) = nextH (runH h (l.take k)) l[k] := by
  rw [List.take_succ_eq_append_getElem hk]
  refine ⟨(Orangery.runE_app _ _ _).2 ⟨h1, (Orangery.runE_zero _ _ _).2 ⟨h2, rfl⟩⟩, ?_⟩
  rw [Orangery.runH_app, nextH_ok h2]
  rfl
theorem replay_big {l : List Rc} (h : 60 < l.length) : replayE l = 2 ∧ replayH l = noHb := by
  have e : replayE l = 2 := by unfold replayE; rw [if_pos h]
  refine ⟨e, ?_⟩
  unfold replayH
  rw [if_pos (by rw [e]; omega)]
theorem replay_small {l : List Rc} (h : ¬ 60 < l.length) : replayE l = runE newHb l := by unfold replayE; rw [if_neg h]
theorem replay_err {l : List Rc} (h : replayE l ≠ 0) : replayH l = noHb := by unfold replayH; rw [if_pos h]
theorem replay_ok {l : List Rc} (h : replayE l = 0) : replayH l = runH newHb l := by unfold replayH; rw [if_neg (by simp [h])]
theorem rec_at {X : List Rq} {l : List Rc} (e : X.map (·.1) = l) (k : Nat) (hk : k < X.length) : ∃ h : k < l.length, l[k] = X[k].1 := by
  subst e
  exact ⟨by simpa using hk, by simp⟩
theorem rqC_cells {w : World} {b o : Nat} {x : Rq} (h : w.rangeAt b o (rqC x)) :
    w.cell? ⟨b, o, none⟩ = some (.int .i64 x.1.1) ∧ w.cell? ⟨b, o + 1, none⟩ = some (.int .i64 x.1.2.1) ∧ w.cell? ⟨b, o + 2, none⟩ = some (.int .i64 x.1.2.2.1) ∧ w.cell? ⟨b, o + 3, none⟩ = some (.slice x.2.1 x.1.2.2.2.1.length x.2.2) ∧ w.cell? ⟨b, o + 4, none⟩ = some (.int .i64 x.1.2.2.2.2.1) ∧ w.cell? ⟨b, o + 5, none⟩ = some (.int .i64 x.1.2.2.2.2.2.1) ∧ w.cell? ⟨b, o + 6, none⟩ = some (.int .i64 x.1.2.2.2.2.2.2.1.1) ∧ w.cell? ⟨b, o + 7, none⟩ = some (.int .i64 x.1.2.2.2.2.2.2.1.2.1) ∧ w.cell? ⟨b, o + 8, none⟩ = some (.int .i64 x.1.2.2.2.2.2.2.1.2.2) ∧ w.cell? ⟨b, o + 9, none⟩ = some (.int .i64 x.1.2.2.2.2.2.2.2.1) ∧ w.cell? ⟨b, o + 10, none⟩ = some (.int .i64 x.1.2.2.2.2.2.2.2.2) :=
  ⟨h 0 _ rfl, h 1 _ rfl, h 2 _ rfl, h 3 _ rfl, h 4 _ rfl, h 5 _ rfl, h 6 _ rfl, h 7 _ rfl, h 8 _ rfl, h 9 _ rfl, h 10 _ rfl⟩
theorem HuX.four {D : Nat → Prop} {h : Hb} {w : World} {vs : List Value} (hx : HuX D h w vs) : ∃ a0 n0 c0 a1 n1 c1 a3 n3 c3, vs = [.slice a0 n0 c0, .slice a1 n1 c1, .int .i64 h.2.1, .slice a3 n3 c3] := by
  obtain ⟨a, c, p, d, q, g, X, rfl, _⟩ := hx
  exact ⟨_, _, _, _, _, _, _, _, _, rfl⟩
theorem HuX.fournew {D : Nat → Prop} {w : World} {vs : List Value} (hx : HuX D newHb w vs) : ∃ a0 n0 c0 a1 n1 c1 a3 n3 c3, vs = [.slice a0 n0 c0, .slice a1 n1 c1, .int .i64 0, .slice a3 n3 c3] := hx.four
theorem ViX.three {D : Nat → Prop} {R : List Int} {K V : List Pl} {w : World} {vs : List Value} (hx : ViX D R K V w vs) : ∃ a0 c0 a1 c1 a3 c3, vs = [.slice a0 R.length c0, .slice a1 K.length c1, .slice a3 V.length c3] := by
  obtain ⟨aR, aK, aV, cR, cK, cV, rfl, _⟩ := hx
  exact ⟨_, _, _, _, _, _, rfl⟩

set_option maxHeartbeats 4000000 in
set_option maxRecDepth 100000 in
theorem ureplay_any (w : World) (a : Option Addr) (c : Nat) (X : List Rq) (l : List Rc) (hl : X.map (·.1) = l) (hm : X.length ≤ maxLen) (hX : SlC w a X) :
    Calls Tryz.prog 19 #[.slice a X.length c] w (Gives (HuX (w.heap.size ≤ ·) (replayH l)) w (replayE l)) := by
  have hm' : X.length ≤ 9223372036854775807 := hm
  have HX := Lib.hid hX
  have HAT : Hid (∀ k, (hk : k < X.length) → ∃ hp : k < l.length, l[k] = X[k].1) := fun k hk => rec_at hl k hk
  have HLL : Hid (X.length = l.length) := by show _ = _; rw [← hl]; simp
  clear hX hl hm
  have HBAD : Hid (∀ E w', E = replayE l → E ≠ 0 → Below w.heap.size w w' → Gives (HuX (w.heap.size ≤ ·) (replayH l)) w (replayE l) (.returned (.tuple #[.agg [Value.slice none 0 0, .slice none 0 0, .int .i64 0, .slice none 0 0].toArray, .int .i64 E])) w') := by
    intro E w' e hne hb
    subst e
    exact ⟨_, rfl, by rw [replay_err hne]; exact HuX.no _ _, hb⟩
  by_cases hbig : 60 < X.length
  · have HE : Hid (2 = replayE l) := by show _ = _; rw [(replay_big (by have := HLL.out; omega)).1]
    have d1 : decide ((X.length : Int) > 60) = true := by simp; omega
    obtain ⟨W0, hW, hZ, hB, -⟩ := laid1 w [Value.slice none 0 0, .slice none 0 0, .int .i64 0, .slice none 0 0] 30
    have rf := hZ.frz
    have r0 := hZ.at 0 rfl
    have r1 := hZ.at 1 rfl
    have r2 := hZ.at 2 rfl
    have r3 := hZ.at 3 rfl
    go_enter Tryz.func19, Tryz.ntmps19
    go_wp2
    have hRf := hZ.sets [Value.slice none 0 0, .slice none 0 0, .int .i64 0, .slice none 0 0] rfl
    refine ret_cell_tmp Tryz.results19 rfl rfl (hRf.load Tryz.underlying30 rfl sizeHub) ?_
    exact HBAD.out 2 _ HE.out (by omega) (below_sets hB w.heap.size (Nat.le_refl _) [Value.slice none 0 0, .slice none 0 0, .int .i64 0, .slice none 0 0] 0)
  have HES := Lib.hid (@replay_small l (by have := HLL.out; omega))
  have d1 : decide ((X.length : Int) > 60) = false := by simp; omega
  go_enter Tryz.func19, Tryz.ntmps19
  go_wp2_with fail
  obtain ⟨W0, hW, hZ, hB, -⟩ := laid1 w [Value.slice none 0 0, .slice none 0 0, .int .i64 0, .slice none 0 0] 30
  rw [hW]
  clear hW d1
  refine (unew_any W0).mono ?_
  rintro e w1 ⟨vs, rfl, hN, hb⟩
  obtain ⟨e0, m0, c0, e1, m1, c1, e3, m3, c3, rfl⟩ := hN.fournew
  have hZ1 := hZ.keep hb
  have HB1 := Lib.hid (hB.trans (hb.mono hB.size))
  have hz1 : w.heap.size < w1.heap.size := hZ1.lt
  have hz0 : w.heap.size < W0.heap.size := hZ.lt
  obtain ⟨W2, hW, hH, hB2, hS2⟩ := laid1 w1 [Value.slice e0 m0 c0, .slice e1 m1 c1, .int .i64 0, .slice e3 m3 c3] 30
  have hN2 := ((hN.lowD.imp (D' := fun b => w.heap.size < b ∧ b ≠ w1.heap.size) (fun b hb => by omega)).keep hB2)
  have hZ2 := hZ1.keep hB2
  have HB2 := Lib.hid (HB1.out.trans (hB2.mono HB1.out.size))
  clear hN hZ hZ1 hb hB hB2 HB1
  have rq := hH.frz
  have q0 := hH.at 0 rfl
  have q1 := hH.at 1 rfl
  have q2 := hH.at 2 rfl
  have q3 := hH.at 3 rfl
  go_wp2
  clear hW rq q0 q1 q2 q3
  generalize hhb : w1.heap.size = hb at *
  clear hhb
  go_loopw [16] (fun i W => ∃ (k : Nat) (H : Hb) (vs : List Value), k ≤ X.length ∧ i = .int .i64 k ∧ runE newHb (l.take k) = 0 ∧ runH newHb (l.take k) = H ∧ HuX (fun b => w.heap.size < b ∧ b ≠ hb) H W vs ∧ Blk W hb vs ∧ Blk W w.heap.size [Value.slice none 0 0, .slice none 0 0, .int .i64 0, .slice none 0 0] ∧ Below w.heap.size w W) (fun i _ => X.length - (intOf i).toNat)
  case atStart => exact ⟨0, newHb, _, Nat.zero_le _, rfl, rfl, rfl, hN2, hH, hZ2, HB2.out⟩
  case round =>
    obtain ⟨k, H, vs, hk, rfl, hrE, hrH, hHx, hHb, hZr, hb⟩ := hrel
    obtain ⟨e0', m0', c0', e1', m1', c1', e3', m3', c3', rfl⟩ := hHx.four
    have HRE := Lib.hid hrE
    have HRH := Lib.hid hrH
    have HBr := Lib.hid hb
    have HHX := Lib.hid hHx
    clear hN2 hH hZ2 HB2 hb hrE hrH hHx
    by_cases hlt : k < X.length
    case neg =>
      have hkX : k = X.length := by omega
      have HE : Hid (replayE l = 0) := by
        show _ = _
        rw [HES.out]
        have e := HRE.out
        rw [List.take_of_length_le (by have := HLL.out; omega)] at e
        exact e
      have HHE : Hid (replayH l = H) := by
        show _ = _
        rw [replay_ok HE.out]
        have e := HRH.out
        rw [List.take_of_length_le (by have := HLL.out; omega)] at e
        exact e
      have y0 := hHb.at 0 rfl
      have y1 := hHb.at 1 rfl
      have y2 := hHb.at 2 rfl
      have y3 := hHb.at 3 rfl
      have rf := hZr.frz
      have r0 := hZr.at 0 rfl
      have r1 := hZr.at 1 rfl
      have r2 := hZr.at 2 rfl
      have r3 := hZr.at 3 rfl
      clear hkX
      go_wp2
      have hRf := hZr.sets [Value.slice e0' m0' c0', .slice e1' m1' c1', .int .i64 H.2.1, .slice e3' m3' c3'] rfl
      refine ret_cell_tmp Tryz.results19 rfl rfl (hRf.load Tryz.underlying30 rfl sizeHub) ?_
      refine ⟨[Value.slice e0' m0' c0', .slice e1' m1' c1', .int .i64 H.2.1, .slice e3' m3' c3'], by rw [HE.out]; rfl, ?_, below_sets HBr.out w.heap.size (Nat.le_refl _) [Value.slice e0' m0' c0', .slice e1' m1' c1', .int .i64 H.2.1, .slice e3' m3' c3'] 0⟩
      rw [HHE.out]
      exact (HHX.out.sets w.heap.size (fun b hb => by omega) [Value.slice e0' m0' c0', .slice e1' m1' c1', .int .i64 H.2.1, .slice e3' m3' c3'] 0).imp (fun b hb => by omega)
    obtain ⟨hp, hpe⟩ := HAT.out k hlt
    have HSTOP : Hid (nextE H X[k].1 ≠ 0 → replayE l = nextE H X[k].1) := by
      intro e
      rw [HES.out, ← hpe, ← HRH.out]
      rw [← hpe, ← HRH.out] at e
      exact run_stop hp HRE.out e
    have HMORE : Hid (nextE H X[k].1 = 0 → runE newHb (l.take (k + 1)) = 0 ∧ runH newHb (l.take (k + 1)) = nextH H X[k].1) := by
      intro e
      rw [← hpe, ← HRH.out] at e
      have := run_more hp HRE.out e
      rw [HRH.out, hpe] at this
      exact this
    have hXr := HX.out.keep HBr.out
    obtain ⟨bx, ox, rfl, hbx, hrx⟩ := hXr.reads.at rqC_len k hlt
    have HRX := Lib.hid (hXr.roots _ (List.getElem_mem hlt))
    obtain ⟨g0, g1, g2, g3, g4, g5, g6, g7, g8, g9, g10⟩ := rqC_cells hrx
    clear hrx hXr hpe HRE HRH
    generalize X[k] = x at *
    obtain ⟨r, ar, cr⟩ := x
    simp only at g0 g1 g2 g3 g4 g5 g6 g7 g8 g9 g10 HRX
    have hlti : (k : Int) < (X.length : Int) := by omega
    have y0 := hHb.at 0 rfl
    have y1 := hHb.at 1 rfl
    have y2 := hHb.at 2 rfl
    have y3 := hHb.at 3 rfl
    have hlh : hb < wr.heap.size := hHb.lt
    have hnh : ¬ wr.heap.size = hb := by omega
    go_wp2_with fail
    obtain ⟨W3, hW, -, hB3, -⟩ := laid1 wr (rcL r.1 r.2.1 r.2.2.1 (.slice ar r.2.2.2.1.length cr) r.2.2.2.2) 37
    change (wr.alloc (Obj.cells #[Value.int IntKind.i64 r.1, .int .i64 r.2.1, .int .i64 r.2.2.1, .slice ar r.2.2.2.1.length cr, .int .i64 r.2.2.2.2.1, .int .i64 r.2.2.2.2.2.1, .int .i64 r.2.2.2.2.2.2.1.1, .int .i64 r.2.2.2.2.2.2.1.2.1, .int .i64 r.2.2.2.2.2.2.1.2.2, .int .i64 r.2.2.2.2.2.2.2.1, .int .i64 r.2.2.2.2.2.2.2.2] 37)) = W3 at hW
    rw [hW]
    clear hW g0 g1 g2 g3 g4 g5 g6 g7 g8 g9 g10 y0 y1 y2 y3
    refine (unext_any W3 _ H r ar cr (HHX.out.keep hB3).is HRX.out.2 (HRX.out.1.below hB3)).mono ?_
    rintro e w4 ⟨us, rfl, hU, hb4⟩
    obtain ⟨f0, l0, d0, f1, l1, d1, f3, l3, d3, rfl⟩ := hU.four
    have hb4' := hB3.trans (hb4.mono hB3.size)
    have HB4 := Lib.hid (HBr.out.trans (hb4'.mono HBr.out.size))
    have hHb4 := hHb.keep hb4'
    have hZ4 := hZr.keep hb4'
    have hlz : w.heap.size < wr.heap.size := hZr.lt
    have hs3 := hB3.size
    have hU4 : HuX (fun b => w.heap.size < b ∧ b ≠ hb) (nextH H r) w4 [Value.slice f0 l0 d0, .slice f1 l1 d1, .int .i64 (nextH H r).2.1, .slice f3 l3 d3] := hU.imp (fun b hb => by omega)
    have rf := hZ4.frz
    have r0 := hZ4.at 0 rfl
    have r1 := hZ4.at 1 rfl
    have r2 := hZ4.at 2 rfl
    have r3 := hZ4.at 3 rfl
    clear hU hb4 hb4' hHb hZr hB3 HHX HRX HBr
    by_cases hz : nextE H r = 0
    case neg =>
      have dz : (nextE H r != 0) = true := by simpa using hz
      have HZ := Lib.hid hz
      have HE := Lib.hid (HSTOP.out hz)
      clear hz HSTOP HMORE
      generalize nextE H r = OE at *
      generalize (nextH H r).2.1 = nv at *
      obtain ⟨W5, hW, hN5, hB5, -⟩ := laid1 w4 [Value.slice f0 l0 d0, .slice f1 l1 d1, .int .i64 nv, .slice f3 l3 d3] 30
      have hZ5 := hZ4.keep hB5
      have rf := hZ5.frz
      have r0 := hZ5.at 0 rfl
      have r1 := hZ5.at 1 rfl
      have r2 := hZ5.at 2 rfl
      have r3 := hZ5.at 3 rfl
      have HB5 := Lib.hid (HB4.out.trans (hB5.mono HB4.out.size))
      clear hB5 HB4 hU4
      go_wp2
      have hRf := hZ5.sets [Value.slice none 0 0, .slice none 0 0, .int .i64 0, .slice none 0 0] rfl
      refine ret_cell_tmp Tryz.results19 rfl rfl (hRf.load Tryz.underlying30 rfl sizeHub) ?_
      exact HBAD.out OE _ HE.out.symm HZ.out (below_sets HB5.out w.heap.size (Nat.le_refl _) [Value.slice none 0 0, .slice none 0 0, .int .i64 0, .slice none 0 0] 0)
    have HM := Lib.hid (HMORE.out hz)
    rw [hz]
    clear hz HSTOP HMORE
    generalize nextH H r = H' at *
    obtain ⟨W5, hW, hN5, hB5, -⟩ := laid1 w4 [Value.slice f0 l0 d0, .slice f1 l1 d1, .int .i64 H'.2.1, .slice f3 l3 d3] 30
    have hZ5 := hZ4.keep hB5
    have hHb5 := hHb4.keep hB5
    have hU5 := hU4.keep hB5
    have HB5 := Lib.hid (HB4.out.trans (hB5.mono HB4.out.size))
    have y0 := hN5.at 0 rfl
    have y1 := hN5.at 1 rfl
    have y2 := hN5.at 2 rfl
    have y3 := hN5.at 3 rfl
    have zf := hHb5.frz
    have z0 := hHb5.at 0 rfl
    have z1 := hHb5.at 1 rfl
    have z2 := hHb5.at 2 rfl
    have z3 := hHb5.at 3 rfl
    clear hB5 HB4 hU4 hZ4 hHb4 rf r0 r1 r2 r3
    have HRES : Hid (HuX (fun b => w.heap.size < b ∧ b ≠ hb) H' (W5.setCells hb 0 [Value.slice f0 l0 d0, .slice f1 l1 d1, .int .i64 H'.2.1, .slice f3 l3 d3]) [Value.slice f0 l0 d0, .slice f1 l1 d1, .int .i64 H'.2.1, .slice f3 l3 d3] ∧ Blk (W5.setCells hb 0 [Value.slice f0 l0 d0, .slice f1 l1 d1, .int .i64 H'.2.1, .slice f3 l3 d3]) hb [Value.slice f0 l0 d0, .slice f1 l1 d1, .int .i64 H'.2.1, .slice f3 l3 d3] ∧ Blk (W5.setCells hb 0 [Value.slice f0 l0 d0, .slice f1 l1 d1, .int .i64 H'.2.1, .slice f3 l3 d3]) w.heap.size [Value.slice none 0 0, .slice none 0 0, .int .i64 0, .slice none 0 0] ∧ Below w.heap.size w (W5.setCells hb 0 [Value.slice f0 l0 d0, .slice f1 l1 d1, .int .i64 H'.2.1, .slice f3 l3 d3])) :=
      ⟨hU5.sets hb (fun b hb => hb.2) _ 0, hHb5.sets _ rfl, hZ5.others (by omega) _ 0, below_sets HB5.out hb (by omega) _ 0⟩
    go_wp2
    go_roundw
    case rel => exact ⟨k + 1, H', _, hlt, by go_num, HM.out.1, HM.out.2, HRES.out⟩
    case measure => simp [intOf]; omega

end Go.Proofs.YthlhnokgcnieeadGreat

/- orangeryref.Nexted, orangeryref.HubOf. -/
namespace Go.Proofs.YthlhnokgcnieeadGreat
open Go.ChangeShapes Go.WideShapes Go.ChangeAt Go.RowKit
open Orangery (Pl Mv Stp Rc Pr Hb peerE peersE rootsOk hubE histE newHb prOf stepE stepH noHb insE insL insT checkRec checkOp nextE nextH orI foldE foldL foldT hasM noOp runE runH replayE replayH)

theorem nextE_1 {h : Hb} {r : Rc} (h1 : hubE h ≠ 0) : nextE h r = hubE h := by unfold nextE; rw [if_pos h1]
theorem nextE_2 {h : Hb} {r : Rc} (h1 : hubE h = 0) (h2 : checkRec r ≠ 0) : nextE h r = checkRec r := by unfold nextE; rw [if_neg (by simp [h1]), if_pos h2]
theorem stepN_next {h : Hb} {r : Rc} (h1 : hubE h = 0) (h2 : checkRec r = 0) : nextH h r = stepN h r := by
  unfold nextH stepN
  rw [next_then h1 h2]

set_option maxHeartbeats 4000000 in
set_option maxRecDepth 100000 in
theorem rNexted_any (w : World) (vs : List Value) (h : Hb) (r : Rc) (ar : Option Addr) (cr : Nat) (DD : Nat → Prop) (hh : HuX DD h w vs) (hnw : ∀ b, DD b → b < w.heap.size) (hl : r.2.2.2.1.length ≤ maxLen) (hrt : SlI w ar r.2.2.2.1) (hin : InL DD ar r.2.2.2.1) :
    Calls Tryz.prog 9 #[.agg vs.toArray, rcV r.1 r.2.1 r.2.2.1 (.slice ar r.2.2.2.1.length cr) r.2.2.2.2] w (Gives (HuX (OldD DD w.heap.size) (nextH h r)) w (nextE h r)) := by
  have HH := Lib.hid hh.is
  have HHX := Lib.hid hh
  have HNW := Lib.hid hnw
  have HR := Lib.hid hrt
  have HIN := Lib.hid hin
  have HRL := Lib.hid hl
  obtain ⟨a, c, p, d, q, gc, X, rfl, -, -⟩ := hh
  clear hnw hrt hin hl
  have HBAD : Hid (∀ E w', E = nextE h r → E ≠ 0 → Below w.heap.size w w' → Gives (HuX (OldD DD w.heap.size) (nextH h r)) w (nextE h r) (.returned (.tuple #[.agg [Value.slice none 0 0, .slice none 0 0, .int .i64 0, .slice none 0 0].toArray, .int .i64 E])) w') := by
    intro E w' e hne hb
    subst e
    exact ⟨_, rfl, by rw [nextH_bad hne]; exact HuX.no _ _, hb⟩
  have CK1 : Hid (∀ W', Below w.heap.size w W' → Calls Tryz.prog 10 #[huV (.slice a h.1.1.length c) (.slice p h.1.2.length d) h.2.1 (.slice q X.length gc)] W' fun e w' => e = .returned (.int .i64 (hubE h)) ∧ Below W'.heap.size W' w') := fun W' hw => rcheckHub_any W' _ h (HH.out.keep hw)
  have CK2 : Hid (∀ W', Below w.heap.size w W' → Calls Tryz.prog 33 #[rcV r.1 r.2.1 r.2.2.1 (.slice ar r.2.2.2.1.length cr) r.2.2.2.2] W' fun e w' => e = .returned (.int .i64 (checkRec r)) ∧ Below W'.heap.size W' w') := fun W' hw => rcheckRec_any W' _ _ _ ar cr _ _ HRL.out (HR.out.below hw)
  have CKN : Hid (hubE h = 0 → checkRec r = 0 → ∀ W', Below w.heap.size w W' → Calls Tryz.prog 34 #[huV (.slice a h.1.1.length c) (.slice p h.1.2.length d) h.2.1 (.slice q X.length gc), rcV r.1 r.2.1 r.2.2.1 (.slice ar r.2.2.2.1.length cr) r.2.2.2.2] W' (Gives (HuX (OldD DD W'.heap.size) (stepN h r)) W' (stepE h r))) :=
    fun h1 h2 W' hw => rnexted_any W' _ h r ar cr DD (HHX.out.keep hw) (fun b hb => Nat.lt_of_lt_of_le (HNW.out b hb) hw.size) h1 h2 (HR.out.below hw) HIN.out
  have HE1 : Hid (hubE h ≠ 0 → hubE h = nextE h r) := fun e => (nextE_1 e).symm
  have HE2 : Hid (hubE h = 0 → checkRec r ≠ 0 → checkRec r = nextE h r) := fun e e2 => (nextE_2 e e2).symm
  have HE3 : Hid (hubE h = 0 → checkRec r = 0 → stepE h r = nextE h r ∧ stepN h r = nextH h r) := fun e e2 => ⟨(next_then e e2).symm, (stepN_next e e2).symm⟩
  clear HH HHX HR HRL
  obtain ⟨W0, hW, hA, hC, hZ, hB, -⟩ := laid3 w [Value.slice a h.1.1.length c, .slice p h.1.2.length d, .int .i64 h.2.1, .slice q X.length gc] 30 (rcL r.1 r.2.1 r.2.2.1 (.slice ar r.2.2.2.1.length cr) r.2.2.2.2) 37 [Value.slice none 0 0, .slice none 0 0, .int .i64 0, .slice none 0 0] 30
  have HB0 := Lib.hid hB
  clear hB
  change ((w.alloc (Obj.cells #[Value.slice a h.1.1.length c, .slice p h.1.2.length d, .int .i64 h.2.1, .slice q X.length gc] 30)).alloc (Obj.cells #[Value.int IntKind.i64 r.1, .int .i64 r.2.1, .int .i64 r.2.2.1, .slice ar r.2.2.2.1.length cr, .int .i64 r.2.2.2.2.1, .int .i64 r.2.2.2.2.2.1, .int .i64 r.2.2.2.2.2.2.1.1, .int .i64 r.2.2.2.2.2.2.1.2.1, .int .i64 r.2.2.2.2.2.2.1.2.2, .int .i64 r.2.2.2.2.2.2.2.1, .int .i64 r.2.2.2.2.2.2.2.2] 37)).alloc (Obj.cells #[Value.slice none 0 0, .slice none 0 0, .int .i64 0, .slice none 0 0] 30) = W0 at hW
  have x0 := hA.at 0 rfl
  have x1 := hA.at 1 rfl
  have x2 := hA.at 2 rfl
  have x3 := hA.at 3 rfl
  go_enter Tryz.func9, Tryz.ntmps9
  go_wp2_with fail
  clear hW x0 x1 x2 x3
  refine (CK1.out W0 HB0.out).mono ?_
  rintro e w1 ⟨rfl, hb1⟩
  have hA1 := hA.keep hb1
  have hC1 := hC.keep hb1
  have hZ1 := hZ.keep hb1
  have HB1 := Lib.hid (HB0.out.trans (hb1.mono HB0.out.size))
  clear hA hC hZ HB0 hb1 CK1
  by_cases hz : hubE h = 0
  case neg =>
    have d1 : (hubE h != 0) = true := by simpa using hz
    have HZ := Lib.hid hz
    have HE := Lib.hid (HE1.out hz)
    clear hz HE1 HE2 HE3 CKN CK2
    generalize hubE h = OE at *
    have rf := hZ1.frz
    have r0 := hZ1.at 0 rfl
    have r1 := hZ1.at 1 rfl
    have r2 := hZ1.at 2 rfl
    have r3 := hZ1.at 3 rfl
    go_wp2
    have hRf := hZ1.sets [Value.slice none 0 0, .slice none 0 0, .int .i64 0, .slice none 0 0] rfl
    refine ret_cell_tmp Tryz.results9 rfl rfl (hRf.load Tryz.underlying30 rfl sizeHub) ?_
    exact HBAD.out OE _ HE.out HZ.out (below_sets HB1.out (w.heap.size + 2) (by omega) [Value.slice none 0 0, .slice none 0 0, .int .i64 0, .slice none 0 0] 0)
  have HOK : Hid (hubE h = 0) := hz
  rw [hz]
  clear hz HE1
  have m0 := hC1.at 0 rfl
  have m1 := hC1.at 1 rfl
  have m2 := hC1.at 2 rfl
  have m3 := hC1.at 3 rfl
  have m4 := hC1.at 4 rfl
  have m5 := hC1.at 5 rfl
  have m6 := hC1.at 6 rfl
  have m7 := hC1.at 7 rfl
  have m8 := hC1.at 8 rfl
  have m9 := hC1.at 9 rfl
  have m10 := hC1.at 10 rfl
  go_wp2_with fail
  refine (CK2.out w1 HB1.out).mono ?_
  rintro e w2 ⟨rfl, hb2⟩
  have hA2 := hA1.keep hb2
  have hC2 := hC1.keep hb2
  have hZ2 := hZ1.keep hb2
  have HB2 := Lib.hid (HB1.out.trans (hb2.mono HB1.out.size))
  clear m0 m1 m2 m3 m4 m5 m6 m7 m8 m9 m10 hA1 hC1 hZ1 HB1 hb2 CK2
  by_cases hz : checkRec r = 0
  case neg =>
    have d1 : (checkRec r != 0) = true := by simpa using hz
    have HZ := Lib.hid hz
    have HE := Lib.hid (HE2.out HOK.out hz)
    clear hz HE2 HE3 CKN
    generalize checkRec r = OE at *
    have rf := hZ2.frz
    have r0 := hZ2.at 0 rfl
    have r1 := hZ2.at 1 rfl
    have r2 := hZ2.at 2 rfl
    have r3 := hZ2.at 3 rfl
    go_wp2
    have hRf := hZ2.sets [Value.slice none 0 0, .slice none 0 0, .int .i64 0, .slice none 0 0] rfl
    refine ret_cell_tmp Tryz.results9 rfl rfl (hRf.load Tryz.underlying30 rfl sizeHub) ?_
    exact HBAD.out OE _ HE.out HZ.out (below_sets HB2.out (w.heap.size + 2) (by omega) [Value.slice none 0 0, .slice none 0 0, .int .i64 0, .slice none 0 0] 0)
  have HE := Lib.hid (HE3.out HOK.out hz)
  have CN := Lib.hid (CKN.out HOK.out hz)
  rw [hz]
  clear hz HE2 HE3 CKN
  have m0 := hC2.at 0 rfl
  have m1 := hC2.at 1 rfl
  have m2 := hC2.at 2 rfl
  have m3 := hC2.at 3 rfl
  have m4 := hC2.at 4 rfl
  have m5 := hC2.at 5 rfl
  have m6 := hC2.at 6 rfl
  have m7 := hC2.at 7 rfl
  have m8 := hC2.at 8 rfl
  have m9 := hC2.at 9 rfl
  have m10 := hC2.at 10 rfl
  have x0 := hA2.at 0 rfl
  have x1 := hA2.at 1 rfl
  have x2 := hA2.at 2 rfl
  have x3 := hA2.at 3 rfl
  go_wp2_with fail
  refine (CN.out w2 HB2.out).mono ?_
  rintro e w3 ⟨us, rfl, hU, hb3⟩
  have hl2 : w.heap.size + 2 < w2.heap.size := hZ2.lt
  obtain ⟨f0, l0, c0, f1, l1, c1, f3, l3, c3, rfl⟩ := hU.four
  have hZ3 := hZ2.keep hb3
  have HB3 := Lib.hid (HB2.out.trans (hb3.mono HB2.out.size))
  have HU := Lib.hid hU
  have rf := hZ3.frz
  have r0 := hZ3.at 0 rfl
  have r1 := hZ3.at 1 rfl
  have r2 := hZ3.at 2 rfl
  have r3 := hZ3.at 3 rfl
  clear m0 m1 m2 m3 m4 m5 m6 m7 m8 m9 m10 x0 x1 x2 x3 hA2 hC2 hZ2 HB2 hb3 hU CN
  generalize hnv : (stepN h r).2.1 = nv at *
  have HNV := Lib.hid hnv
  clear hnv
  go_wp2
  have hRf := hZ3.sets [.slice f0 l0 c0, .slice f1 l1 c1, .int .i64 nv, .slice f3 l3 c3] rfl
  refine ret_cell_tmp Tryz.results9 rfl rfl (hRf.load Tryz.underlying30 rfl sizeHub) ?_
  refine ⟨[.slice f0 l0 c0, .slice f1 l1 c1, .int .i64 nv, .slice f3 l3 c3], by rw [HE.out.1]; rfl, ?_, below_sets HB3.out (w.heap.size + 2) (by omega) [.slice f0 l0 c0, .slice f1 l1 c1, .int .i64 nv, .slice f3 l3 c3] 0⟩
  rw [← HE.out.2]
  have hU := HU.out
  refine (hU.sets (w.heap.size + 2) (fun b hb => ?_) [.slice f0 l0 c0, .slice f1 l1 c1, .int .i64 nv, .slice f3 l3 c3] 0).imp (fun b hb => ?_)
  · rcases hb with hb | hb
    · have := HNW.out b hb; omega
    · omega
  · rcases hb with hb | hb
    · exact Or.inl hb
    · exact Or.inr (by omega)


set_option maxHeartbeats 8000000 in
set_option maxRecDepth 100000 in
theorem rhubOf_any (w : World) (a : Option Addr) (c : Nat) (X : List Rq) (l : List Rc) (hl : X.map (·.1) = l) (hm : X.length ≤ maxLen) (hX : SlC w a X) :
    Calls Tryz.prog 20 #[.slice a X.length c] w (Gives (HuX (fun b => b ≠ w.heap.size) (replayH l)) w (replayE l)) := by
  have hm' : X.length ≤ 9223372036854775807 := hm
  have HX := Lib.hid hX
  have HAT : Hid (∀ k, (hk : k < X.length) → ∃ hp : k < l.length, l[k] = X[k].1) := fun k hk => rec_at hl k hk
  have HLL : Hid (X.length = l.length) := by show _ = _; rw [← hl]; simp
  clear hX hl hm
  have HBAD : Hid (∀ E w', E = replayE l → E ≠ 0 → Below w.heap.size w w' → Gives (HuX (fun b => b ≠ w.heap.size) (replayH l)) w (replayE l) (.returned (.tuple #[.agg [Value.slice none 0 0, .slice none 0 0, .int .i64 0, .slice none 0 0].toArray, .int .i64 E])) w') := by
    intro E w' e hne hb
    subst e
    exact ⟨_, rfl, by rw [replay_err hne]; exact HuX.no _ _, hb⟩
  by_cases hbig : 60 < X.length
  · have HE : Hid (2 = replayE l) := by show _ = _; rw [(replay_big (by have := HLL.out; omega)).1]
    have d1 : decide ((X.length : Int) > 60) = true := by simp; omega
    obtain ⟨W0, hW, hZ, hB, -⟩ := laid1 w [Value.slice none 0 0, .slice none 0 0, .int .i64 0, .slice none 0 0] 30
    have rf := hZ.frz
    have r0 := hZ.at 0 rfl
    have r1 := hZ.at 1 rfl
    have r2 := hZ.at 2 rfl
    have r3 := hZ.at 3 rfl
    go_enter Tryz.func20, Tryz.ntmps20
    go_wp2
    have hRf := hZ.sets [Value.slice none 0 0, .slice none 0 0, .int .i64 0, .slice none 0 0] rfl
    refine ret_cell_tmp Tryz.results20 rfl rfl (hRf.load Tryz.underlying30 rfl sizeHub) ?_
    exact HBAD.out 2 _ HE.out (by omega) (below_sets hB w.heap.size (Nat.le_refl _) [Value.slice none 0 0, .slice none 0 0, .int .i64 0, .slice none 0 0] 0)
  have HES := Lib.hid (@replay_small l (by have := HLL.out; omega))
  have d1 : decide ((X.length : Int) > 60) = false := by simp; omega
  go_enter Tryz.func20, Tryz.ntmps20
  go_wp2_with fail
  obtain ⟨W0, hW, hZ, hB, -⟩ := laid1 w [Value.slice none 0 0, .slice none 0 0, .int .i64 0, .slice none 0 0] 30
  rw [hW]
  clear hW d1
  refine (rfresh_any W0).mono ?_
  rintro e w1 ⟨vs, rfl, hN, hb⟩
  obtain ⟨e0, m0, c0, e1, m1, c1, e3, m3, c3, rfl⟩ := hN.fournew
  have hZ1 := hZ.keep hb
  have HB1 := Lib.hid (hB.trans (hb.mono hB.size))
  have hz1 : w.heap.size < w1.heap.size := hZ1.lt
  have hz0 : w.heap.size < W0.heap.size := hZ.lt
  obtain ⟨W2, hW, hH, hB2, hS2⟩ := laid1 w1 [Value.slice e0 m0 c0, .slice e1 m1 c1, .int .i64 0, .slice e3 m3 c3] 30
  have hN2 := ((hN.lowD.imp (D' := fun b => b ≠ w.heap.size ∧ b ≠ w1.heap.size) (fun b hb => by omega)).keep hB2)
  have hZ2 := hZ1.keep hB2
  have HB2 := Lib.hid (HB1.out.trans (hB2.mono HB1.out.size))
  clear hN hZ hZ1 hb hB hB2 HB1
  have rq := hH.frz
  have q0 := hH.at 0 rfl
  have q1 := hH.at 1 rfl
  have q2 := hH.at 2 rfl
  have q3 := hH.at 3 rfl
  go_wp2
  clear hW rq q0 q1 q2 q3
  generalize hhb : w1.heap.size = hb at *
  clear hhb
  go_loopw [17] (fun i W => ∃ (k : Nat) (H : Hb) (vs : List Value), k ≤ X.length ∧ i = .int .i64 k ∧ runE newHb (l.take k) = 0 ∧ runH newHb (l.take k) = H ∧ HuX (fun b => b ≠ w.heap.size ∧ b ≠ hb) H W vs ∧ Blk W hb vs ∧ Blk W w.heap.size [Value.slice none 0 0, .slice none 0 0, .int .i64 0, .slice none 0 0] ∧ Below w.heap.size w W) (fun i _ => X.length - (intOf i).toNat)
  case atStart => exact ⟨0, newHb, _, Nat.zero_le _, rfl, rfl, rfl, hN2, hH, hZ2, HB2.out⟩
  case round =>
    obtain ⟨k, H, vs, hk, rfl, hrE, hrH, hHx, hHb, hZr, hb⟩ := hrel
    obtain ⟨e0', m0', c0', e1', m1', c1', e3', m3', c3', rfl⟩ := hHx.four
    have HRE := Lib.hid hrE
    have HRH := Lib.hid hrH
    have HOKH : Hid (hubE H = 0) := by show _ = _; rw [← hrH]; exact Orangery.run_ok Orangery.newHb_ok _ hrE
    have HBr := Lib.hid hb
    have HHX := Lib.hid hHx
    clear hN2 hH hZ2 HB2 hb hrE hrH hHx
    by_cases hlt : k < X.length
    case neg =>
      have hkX : k = X.length := by omega
      have HE : Hid (replayE l = 0) := by
        show _ = _
        rw [HES.out]
        have e := HRE.out
        rw [List.take_of_length_le (by have := HLL.out; omega)] at e
        exact e
      have HHE : Hid (replayH l = H) := by
        show _ = _
        rw [replay_ok HE.out]
        have e := HRH.out
        rw [List.take_of_length_le (by have := HLL.out; omega)] at e
        exact e
      have y0 := hHb.at 0 rfl
      have y1 := hHb.at 1 rfl
      have y2 := hHb.at 2 rfl
      have y3 := hHb.at 3 rfl
      have rf := hZr.frz
      have r0 := hZr.at 0 rfl
      have r1 := hZr.at 1 rfl
      have r2 := hZr.at 2 rfl
      have r3 := hZr.at 3 rfl
      clear hkX
      go_wp2
      have hRf := hZr.sets [Value.slice e0' m0' c0', .slice e1' m1' c1', .int .i64 H.2.1, .slice e3' m3' c3'] rfl
      refine ret_cell_tmp Tryz.results20 rfl rfl (hRf.load Tryz.underlying30 rfl sizeHub) ?_
      refine ⟨[Value.slice e0' m0' c0', .slice e1' m1' c1', .int .i64 H.2.1, .slice e3' m3' c3'], by rw [HE.out]; rfl, ?_, below_sets HBr.out w.heap.size (Nat.le_refl _) [Value.slice e0' m0' c0', .slice e1' m1' c1', .int .i64 H.2.1, .slice e3' m3' c3'] 0⟩
      rw [HHE.out]
      exact (HHX.out.sets w.heap.size (fun b hb => hb.1) [Value.slice e0' m0' c0', .slice e1' m1' c1', .int .i64 H.2.1, .slice e3' m3' c3'] 0).imp (fun b hb => hb.1)
    obtain ⟨hp, hpe⟩ := HAT.out k hlt
    have HSTOP : Hid (nextE H X[k].1 ≠ 0 → replayE l = nextE H X[k].1) := by
      intro e
      rw [HES.out, ← hpe, ← HRH.out]
      rw [← hpe, ← HRH.out] at e
      exact run_stop hp HRE.out e
    have HMORE : Hid (nextE H X[k].1 = 0 → runE newHb (l.take (k + 1)) = 0 ∧ runH newHb (l.take (k + 1)) = nextH H X[k].1) := by
      intro e
      rw [← hpe, ← HRH.out] at e
      have := run_more hp HRE.out e
      rw [HRH.out, hpe] at this
      exact this
    have hX0 := HX.out.roots _ (List.getElem_mem hlt)
    have HIN0 : Hid (InL (· < w.heap.size) X[k].2.1 X[k].1.2.2.2.1) := hX0.1.isin
    have hXr := HX.out.keep HBr.out
    obtain ⟨bx, ox, rfl, hbx, hrx⟩ := hXr.reads.at rqC_len k hlt
    have HRX := Lib.hid (hXr.roots _ (List.getElem_mem hlt))
    obtain ⟨g0, g1, g2, g3, g4, g5, g6, g7, g8, g9, g10⟩ := rqC_cells hrx
    clear hrx hXr hpe HRE HRH hX0
    generalize X[k] = x at *
    obtain ⟨r, ar, cr⟩ := x
    simp only at g0 g1 g2 g3 g4 g5 g6 g7 g8 g9 g10 HRX HIN0
    have hlti : (k : Int) < (X.length : Int) := by omega
    have hlh : hb < wr.heap.size := hHb.lt
    have hlw : w.heap.size < wr.heap.size := hZr.lt
    have hnh : ¬ wr.heap.size = hb := by omega
    obtain ⟨W3, hW, hC3, hB3, -⟩ := laid1 wr (rcL r.1 r.2.1 r.2.2.1 (.slice ar r.2.2.2.1.length cr) r.2.2.2.2) 37
    change (wr.alloc (Obj.cells #[Value.int IntKind.i64 r.1, .int .i64 r.2.1, .int .i64 r.2.2.1, .slice ar r.2.2.2.1.length cr, .int .i64 r.2.2.2.2.1, .int .i64 r.2.2.2.2.2.1, .int .i64 r.2.2.2.2.2.2.1.1, .int .i64 r.2.2.2.2.2.2.1.2.1, .int .i64 r.2.2.2.2.2.2.1.2.2, .int .i64 r.2.2.2.2.2.2.2.1, .int .i64 r.2.2.2.2.2.2.2.2] 37)) = W3 at hW
    have mm0 := hC3.at 0 rfl
    have mm1 := hC3.at 1 rfl
    have mm2 := hC3.at 2 rfl
    have mm3 := hC3.at 3 rfl
    have mm4 := hC3.at 4 rfl
    have mm5 := hC3.at 5 rfl
    have mm6 := hC3.at 6 rfl
    have mm7 := hC3.at 7 rfl
    have mm8 := hC3.at 8 rfl
    have mm9 := hC3.at 9 rfl
    have mm10 := hC3.at 10 rfl
    go_wp2_with fail
    clear hW g0 g1 g2 g3 g4 g5 g6 g7 g8 g9 g10 mm0 mm1 mm2 mm3 mm4 mm5 mm6 mm7 mm8 mm9 mm10
    refine (rcheckRec_any W3 _ _ _ ar cr _ _ HRX.out.2 (HRX.out.1.below hB3)).mono ?_
    rintro e w4 ⟨rfl, hb4⟩
    have hb4' := hB3.trans (hb4.mono hB3.size)
    have HB4 := Lib.hid (HBr.out.trans (hb4'.mono HBr.out.size))
    have hHb4 := hHb.keep hb4'
    have hZ4 := hZr.keep hb4'
    have hC4 := hC3.keep hb4
    have HH4 := Lib.hid (HHX.out.lowD.keep hb4')
    have HRX4 : Hid (SlI w4 ar r.2.2.2.1) := HRX.out.1.below hb4'
    have hs4 : wr.heap.size < w4.heap.size := hC4.lt
    clear hC3 hB3 hb4 hb4' hHb hZr HHX HRX HBr
    by_cases hcr : checkRec r = 0
    case neg =>
      have dz : (checkRec (r.1, r.2.1, r.2.2.1, r.2.2.2.1, r.2.2.2.2) != 0) = true := by simpa using hcr
      have HZ := Lib.hid hcr
      have HE : Hid (checkRec r = replayE l) := by
        show _ = _
        rw [HSTOP.out (by rw [nextE_2 HOKH.out hcr]; exact hcr), nextE_2 HOKH.out hcr]
      have rf := hZ4.frz
      have r0 := hZ4.at 0 rfl
      have r1 := hZ4.at 1 rfl
      have r2 := hZ4.at 2 rfl
      have r3 := hZ4.at 3 rfl
      clear hcr HSTOP HMORE hHb4 hC4
      change Hid (checkRec (r.1, r.2.1, r.2.2.1, r.2.2.2.1, r.2.2.2.2) ≠ 0) at HZ
      change Hid (checkRec (r.1, r.2.1, r.2.2.1, r.2.2.2.1, r.2.2.2.2) = replayE l) at HE
      generalize checkRec (r.1, r.2.1, r.2.2.1, r.2.2.2.1, r.2.2.2.2) = OE at *
      go_wp2
      have hRf := hZ4.sets [Value.slice none 0 0, .slice none 0 0, .int .i64 0, .slice none 0 0] rfl
      refine ret_cell_tmp Tryz.results20 rfl rfl (hRf.load Tryz.underlying30 rfl sizeHub) ?_
      exact HBAD.out OE _ HE.out HZ.out (below_sets HB4.out w.heap.size (Nat.le_refl _) [Value.slice none 0 0, .slice none 0 0, .int .i64 0, .slice none 0 0] 0)
    have HCR := Lib.hid hcr
    have ecr : checkRec (r.1, r.2.1, r.2.2.1, r.2.2.2.1, r.2.2.2.2) = 0 := hcr
    rw [ecr]
    have HNE : Hid (nextE H r = stepE H r ∧ nextH H r = stepN H r) := ⟨next_then HOKH.out hcr, stepN_next HOKH.out hcr⟩
    clear hcr ecr
    have mm0 := hC4.at 0 rfl
    have mm1 := hC4.at 1 rfl
    have mm2 := hC4.at 2 rfl
    have mm3 := hC4.at 3 rfl
    have mm4 := hC4.at 4 rfl
    have mm5 := hC4.at 5 rfl
    have mm6 := hC4.at 6 rfl
    have mm7 := hC4.at 7 rfl
    have mm8 := hC4.at 8 rfl
    have mm9 := hC4.at 9 rfl
    have mm10 := hC4.at 10 rfl
    have y0 := hHb4.at 0 rfl
    have y1 := hHb4.at 1 rfl
    have y2 := hHb4.at 2 rfl
    have y3 := hHb4.at 3 rfl
    go_wp2_with fail
    clear mm0 mm1 mm2 mm3 mm4 mm5 mm6 mm7 mm8 mm9 mm10 y0 y1 y2 y3 hC4
    refine (rnexted_any w4 [Value.slice e0' m0' c0', .slice e1' m1' c1', .int .i64 H.2.1, .slice e3' m3' c3'] H r ar cr (fun b => (b ≠ w.heap.size ∧ b ≠ hb) ∧ b < w4.heap.size) (HH4.out.imp (fun b hb => ⟨hb.1, by omega⟩)) (fun b hb => hb.2) HOKH.out HCR.out HRX4.out (HIN0.out.imp (fun b hb => ⟨⟨by omega, by omega⟩, by omega⟩))).mono ?_
    rintro e w5 ⟨us, rfl, hU, hb5⟩
    obtain ⟨f0, l0, d0, f1, l1, d1, f3, l3, d3, rfl⟩ := hU.four
    have HB5 := Lib.hid (HB4.out.trans (hb5.mono HB4.out.size))
    have hHb5 := hHb4.keep hb5
    have hZ5 := hZ4.keep hb5
    have hU5 : HuX (fun b => b ≠ w.heap.size ∧ b ≠ hb) (stepN H r) w5 [Value.slice f0 l0 d0, .slice f1 l1 d1, .int .i64 (stepN H r).2.1, .slice f3 l3 d3] := hU.imp (fun b hb => by
      rcases hb with hb | hb
      · exact hb.1
      · exact ⟨by omega, by omega⟩)
    have hlh5 : hb < w5.heap.size := hHb5.lt
    have hlw5 : w.heap.size < w5.heap.size := hZ5.lt
    clear hU hb5 hHb4 hZ4 HB4 HH4 HRX4 HIN0
    by_cases hz : stepE H r = 0
    case neg =>
      have dz : (stepE H r != 0) = true := by simpa using hz
      have HZ := Lib.hid hz
      have HE : Hid (stepE H r = replayE l) := by
        show _ = _
        rw [HSTOP.out (by rw [HNE.out.1]; exact hz), HNE.out.1]
      clear hz HSTOP HMORE HNE
      generalize stepE H r = OE at *
      generalize (stepN H r).2.1 = nv at *
      obtain ⟨W6, hW, -, hB6, -⟩ := laid1 w5 [Value.slice f0 l0 d0, .slice f1 l1 d1, .int .i64 nv, .slice f3 l3 d3] 30
      have hZ6 := hZ5.keep hB6
      have rf := hZ6.frz
      have r0 := hZ6.at 0 rfl
      have r1 := hZ6.at 1 rfl
      have r2 := hZ6.at 2 rfl
      have r3 := hZ6.at 3 rfl
      have HB6 := Lib.hid (HB5.out.trans (hB6.mono HB5.out.size))
      clear hB6 HB5 hU5
      go_wp2
      have hRf := hZ6.sets [Value.slice none 0 0, .slice none 0 0, .int .i64 0, .slice none 0 0] rfl
      refine ret_cell_tmp Tryz.results20 rfl rfl (hRf.load Tryz.underlying30 rfl sizeHub) ?_
      exact HBAD.out OE _ HE.out HZ.out (below_sets HB6.out w.heap.size (Nat.le_refl _) [Value.slice none 0 0, .slice none 0 0, .int .i64 0, .slice none 0 0] 0)
    have HM := Lib.hid (HMORE.out (by rw [HNE.out.1]; exact hz))
    have HM2 : Hid (runH newHb (l.take (k + 1)) = stepN H r) := by show _ = _; rw [HM.out.2, HNE.out.2]
    rw [hz]
    clear hz HSTOP HMORE HNE
    generalize stepN H r = H' at *
    obtain ⟨W6, hW, hN6, hB6, -⟩ := laid1 w5 [Value.slice f0 l0 d0, .slice f1 l1 d1, .int .i64 H'.2.1, .slice f3 l3 d3] 30
    have hZ6 := hZ5.keep hB6
    have hHb6 := hHb5.keep hB6
    have hU6 := hU5.keep hB6
    have HB6 := Lib.hid (HB5.out.trans (hB6.mono HB5.out.size))
    have y0 := hN6.at 0 rfl
    have y1 := hN6.at 1 rfl
    have y2 := hN6.at 2 rfl
    have y3 := hN6.at 3 rfl
    have zf := hHb6.frz
    have z0 := hHb6.at 0 rfl
    have z1 := hHb6.at 1 rfl
    have z2 := hHb6.at 2 rfl
    have z3 := hHb6.at 3 rfl
    clear hB6 HB5 hU5 hZ5 hHb5
    have HRES : Hid (HuX (fun b => b ≠ w.heap.size ∧ b ≠ hb) H' (W6.setCells hb 0 [Value.slice f0 l0 d0, .slice f1 l1 d1, .int .i64 H'.2.1, .slice f3 l3 d3]) [Value.slice f0 l0 d0, .slice f1 l1 d1, .int .i64 H'.2.1, .slice f3 l3 d3] ∧ Blk (W6.setCells hb 0 [Value.slice f0 l0 d0, .slice f1 l1 d1, .int .i64 H'.2.1, .slice f3 l3 d3]) hb [Value.slice f0 l0 d0, .slice f1 l1 d1, .int .i64 H'.2.1, .slice f3 l3 d3] ∧ Blk (W6.setCells hb 0 [Value.slice f0 l0 d0, .slice f1 l1 d1, .int .i64 H'.2.1, .slice f3 l3 d3]) w.heap.size [Value.slice none 0 0, .slice none 0 0, .int .i64 0, .slice none 0 0] ∧ Below w.heap.size w (W6.setCells hb 0 [Value.slice f0 l0 d0, .slice f1 l1 d1, .int .i64 H'.2.1, .slice f3 l3 d3])) :=
      ⟨hU6.sets hb (fun b hb => hb.2) _ 0, hHb6.sets _ rfl, hZ6.others (by omega) _ 0, below_sets HB6.out hb (by omega) _ 0⟩
    go_wp2
    go_roundw
    case rel => exact ⟨k + 1, H', _, hlt, by go_num, HM.out.1, HM2.out, HRES.out⟩
    case measure => simp [intOf]; omega

end Go.Proofs.YthlhnokgcnieeadGreat

