/- 5 texts of the proof: hub.Sees, hub.Replay. Plain facts on lines of records: what a disk holds. Plain facts on disks: checked, put on, synced, crashed, recovered; what was synced is there. Plain facts on texts: strings.Split and strconv.Atoi in the words of PlainQ. Plain facts on lines: strings.SplitAfter at a line feed, piece by piece. -/
import Derived.Lib.Split
import Derived.Lib.SplitLaws
import Derived.Lib.ParseIntBTie
import Derived.Lib.Strings
import Derived.Test.YthlhnokgcnieeadGreatP15
import Derived.Test.YthlhnokgcnieeadGreatP06
/- hub.Sees, hub.Replay. -/
namespace Go.Proofs.YthlhnokgcnieeadGreat
open Go.ChangeShapes Go.WideShapes Go.ChangeAt Go.RowKit
open Orangery (Pl Mv Stp Rc Pr Hb peerE peersE rootsOk hubE histE newHb prOf stepE stepH noHb insE insL insT checkRec nextE nextH orI ofE ofR ofK ofW runE runH replayE replayH)

def seesB (h : Hb) (who : Int) : Int := if hubE h ≠ 0 then hubE h else if who < 0 ∨ 3 ≤ who then 5 else 0
/-- chapter 8's Sees -/
def seesE (h : Hb) (who : Int) : Int := if seesB h who ≠ 0 then seesB h who else ofE h.1.2 (prOf h who).2.2
def seesR (h : Hb) (who : Int) : List Int := if seesB h who ≠ 0 then [] else ofR h.1.2 (prOf h who).2.2
def seesK (h : Hb) (who : Int) : List Pl := if seesB h who ≠ 0 then [] else ofK h.1.2 (prOf h who).2.2
def seesW (h : Hb) (who : Int) : List Pl := if seesB h who ≠ 0 then [] else ofW h.1.2 (prOf h who).2.2
theorem sees_bad {h : Hb} {who : Int} (e : seesB h who ≠ 0) : seesE h who = seesB h who ∧ seesR h who = [] ∧ seesK h who = [] ∧ seesW h who = [] := by
  unfold seesE seesR seesK seesW
  rw [if_pos e, if_pos e, if_pos e, if_pos e]
  exact ⟨rfl, rfl, rfl, rfl⟩
theorem sees_ok {h : Hb} {who : Int} (e : seesB h who = 0) : seesE h who = ofE h.1.2 (prOf h who).2.2 ∧ seesR h who = ofR h.1.2 (prOf h who).2.2 ∧ seesK h who = ofK h.1.2 (prOf h who).2.2 ∧ seesW h who = ofW h.1.2 (prOf h who).2.2 := by
  unfold seesE seesR seesK seesW
  rw [if_neg (by simp [e]), if_neg (by simp [e]), if_neg (by simp [e]), if_neg (by simp [e])]
  exact ⟨rfl, rfl, rfl, rfl⟩
theorem ViX.no (D : Nat → Prop) (w : World) : ViX D [] [] [] w [.slice none 0 0, .slice none 0 0, .slice none 0 0] :=
  ⟨none, none, none, 0, 0, 0, rfl, Or.inl rfl, Or.inl rfl, Or.inl rfl, Or.inl rfl, Or.inl rfl, Or.inl rfl⟩

set_option maxHeartbeats 4000000 in
set_option maxRecDepth 100000 in
theorem usees_any (w : World) (vs : List Value) (h : Hb) (who : Int) (n : Nat) (hh : HuX (· < n) h w vs) (hnw : n ≤ w.heap.size) :
    Calls Tryz.prog 8 #[.agg vs.toArray, .int .i64 who] w (Gives (ViX (Old n w.heap.size) (seesR h who) (seesK h who) (seesW h who)) w (seesE h who)) := by
  have HH := Lib.hid hh.is
  obtain ⟨a, c, p, d, q, gc, X, rfl, hX, hD⟩ := hh
  have HX := Lib.hid hX
  have HNX := Lib.hid hD.roots
  clear hX hD
  have HBAD : Hid (∀ E w', E = seesB h who → E ≠ 0 → Below w.heap.size w w' → Gives (ViX (Old n w.heap.size) (seesR h who) (seesK h who) (seesW h who)) w (seesE h who) (.returned (.tuple #[.agg [Value.slice none 0 0, .slice none 0 0, .slice none 0 0].toArray, .int .i64 E])) w') := by
    intro E w' e hne hb
    subst e
    obtain ⟨e1, e2, e3, e4⟩ := sees_bad hne
    exact ⟨_, by rw [e1], by rw [e2, e3, e4]; exact ViX.no _ _, hb⟩
  have HGOOD := Lib.hid (@sees_ok h who)
  have HB1 : Hid (hubE h ≠ 0 → hubE h = seesB h who) := fun e => by unfold seesB; rw [if_pos e]
  have HB2 : Hid (hubE h = 0 → (who < 0 ∨ 3 ≤ who) → 5 = seesB h who) := fun e e2 => by unfold seesB; rw [if_neg (by simp [e]), if_pos e2]
  have HB3 : Hid (hubE h = 0 → ¬ (who < 0 ∨ 3 ≤ who) → seesB h who = 0) := fun e e2 => by unfold seesB; rw [if_neg (by simp [e]), if_neg e2]
  have CK : Hid (∀ W', Below w.heap.size w W' → Calls Tryz.prog 12 #[huV (.slice a h.1.1.length c) (.slice p h.1.2.length d) h.2.1 (.slice q X.length gc)] W' fun e w' => e = .returned (.int .i64 (hubE h)) ∧ Below W'.heap.size W' w') := fun W' hw => ucheck_any W' _ h (HH.out.keep hw)
  clear HH
  go_enter Tryz.func8, Tryz.ntmps8
  go_wp2_with fail
  obtain ⟨W0, hW, hA, hZ, hB, -⟩ := laid2 w [Value.slice a h.1.1.length c, .slice p h.1.2.length d, .int .i64 h.2.1, .slice q X.length gc] 30 [Value.slice none 0 0, .slice none 0 0, .slice none 0 0] 42
  rw [hW]
  clear hW
  refine (CK.out W0 hB).mono ?_
  rintro e w1 ⟨rfl, hb⟩
  have hA1 := hA.keep hb
  have hZ1 := hZ.keep hb
  have HBL := Lib.hid (hB.trans (hb.mono hB.size))
  clear hA hZ hB hb CK
  have rf := hZ1.frz
  have r0 := hZ1.at 0 rfl
  have r1 := hZ1.at 1 rfl
  have r2 := hZ1.at 2 rfl
  by_cases hz : hubE h = 0
  case neg =>
    have d1 : (hubE h != 0) = true := by simpa using hz
    have HZ := Lib.hid hz
    have HE := Lib.hid (HB1.out hz)
    clear hz HB1 HB2 HB3 HGOOD
    generalize hubE h = OE at *
    go_wp2
    have hRf := hZ1.sets [Value.slice none 0 0, .slice none 0 0, .slice none 0 0] rfl
    refine ret_cell_tmp Tryz.results8 rfl rfl (hRf.load Tryz.underlying42 rfl sizeView) ?_
    exact HBAD.out OE _ HE.out HZ.out (below_sets HBL.out (w.heap.size + 1) (by omega) [Value.slice none 0 0, .slice none 0 0, .slice none 0 0] 0)
  have HZ := Lib.hid hz
  have HFEW := Lib.hid (hub_few hz)
  rw [hz]
  by_cases hw : who < 0 ∨ 3 ≤ who
  · have HE := Lib.hid (HB2.out hz hw)
    clear hz HB1 HB2 HB3 HGOOD
    by_cases hw1 : who < 0
    · go_wp2
      have hRf := hZ1.sets [Value.slice none 0 0, .slice none 0 0, .slice none 0 0] rfl
      refine ret_cell_tmp Tryz.results8 rfl rfl (hRf.load Tryz.underlying42 rfl sizeView) ?_
      exact HBAD.out 5 _ HE.out (by omega) (below_sets HBL.out (w.heap.size + 1) (by omega) [Value.slice none 0 0, .slice none 0 0, .slice none 0 0] 0)
    · have d2 : decide (who ≥ 3) = true := by simp; omega
      have d1 : decide (who < 0) = false := by simp; omega
      clear hw hw1
      go_wp2
      have hRf := hZ1.sets [Value.slice none 0 0, .slice none 0 0, .slice none 0 0] rfl
      refine ret_cell_tmp Tryz.results8 rfl rfl (hRf.load Tryz.underlying42 rfl sizeView) ?_
      exact HBAD.out 5 _ HE.out (by omega) (below_sets HBL.out (w.heap.size + 1) (by omega) [Value.slice none 0 0, .slice none 0 0, .slice none 0 0] 0)
  have HG := Lib.hid (HGOOD.out (HB3.out hz hw))
  obtain ⟨k, rfl⟩ : ∃ k : Nat, who = (k : Int) := ⟨who.toNat, by omega⟩
  have hk3 : k < 3 := by omega
  have hl3 : X.length = 3 := by have := HFEW.out.2.2.1; rw [← HX.out.are] at this; simpa using this
  have hkl : k < X.length := by omega
  have HP := Lib.hid (prOf_at HX.out.are k hkl)
  obtain ⟨bq, oq, hqe, hbq, hrq⟩ := HX.out.peers.reads.at prC_len k hkl
  subst hqe
  obtain ⟨-, -, g2⟩ := pr_cells hrq
  have g2' : w1.cell? ⟨bq, oq + k * 3 + 2, none⟩ = some (.slice X[k].2.1 X[k].1.2.2.length X[k].2.2) := by rw [HBL.out.cell (by exact hbq)]; exact g2
  have HPI := Lib.hid (HX.out.peers.roots _ (List.getElem_mem hkl))
  have HIN := Lib.hid (HNX.out _ (List.getElem_mem hkl))
  have x1 := hA1.at 1 rfl
  have x3 := hA1.at 3 rfl
  rw [hl3] at x3
  have HL3 := Lib.hid hl3
  have hlti : (k : Int) < 3 := by omega
  have hd1 : decide ((k : Int) < 0) = false := by simp
  have hd2 : decide ((k : Int) ≥ 3) = false := by simp; omega
  have HOF : Hid (∀ W', Below w.heap.size w W' → Calls Tryz.prog 32 #[.agg #[.slice p h.1.2.length d], .slice X[k].2.1 X[k].1.2.2.length X[k].2.2] W' (Gives (ViX (Old n W'.heap.size) (ofR h.1.2 X[k].1.2.2) (ofK h.1.2 X[k].1.2.2) (ofW h.1.2 X[k].1.2.2)) W' (ofE h.1.2 X[k].1.2.2))) := by
    intro W' hw'
    refine (of_any W' p X[k].2.1 d X[k].2.2 h.1.2 X[k].1.2.2 HX.out.few2 HPI.out.2 (HX.out.places.below hw') (HPI.out.1.below hw')).mono ?_
    intro e w' hv
    refine views_gives hv ?_
    unfold ofR
    split
    · exact Or.inl rfl
    · exact HIN.out
  rw [← HP.out] at HG
  generalize X[k] = x at *
  obtain ⟨⟨f, u, R⟩, ar, cr⟩ := x
  simp only at g2' HG HOF
  clear hz hw HB1 HB2 HB3 HGOOD HBAD hl3 hrq g2 hkl HX HNX HPI HIN HP hA1 HFEW
  go_upto_region 6 with fail
  refine wp_region_held_drew (S := fun w' => w'.cell? ⟨w.heap.size, 1, none⟩ = some (.slice p h.1.2.length d) ∧ w'.cell? ⟨w.heap.size, 3, none⟩ = some (.slice (some ⟨bq, oq, none⟩) 3 gc) ∧ w'.cell? ⟨bq, oq + k * 3 + 2, none⟩ = some (.slice ar R.length cr)) (by kernel_rfl) ⟨x1, x3, g2'⟩ (fun hHeld => ?_)
  refine take_yes 0 20 (v := ?_) rfl rfl (by kernel_rfl) (by kernel_rfl) (by kernel_rfl) (fun _ _ _ h => h) (by rfl) ?_ hHeld ?_
  rotate_left 1
  · (intro w hSw; obtain ⟨s1, s2, s3⟩ := hSw; go_simp; try with_reducible rfl)
  simp only [Act.put, List.setIfInBounds_toArray, List.set_cons_succ, List.set_cons_zero]
  refine take_yes 1 21 (v := ?_) rfl rfl (by kernel_rfl) (by kernel_rfl) (by kernel_rfl) (fun _ _ _ h => h) (by rfl) ?_ hHeld ?_
  rotate_left 1
  · (intro w hSw; obtain ⟨s1, s2, s3⟩ := hSw; go_simp; try with_reducible rfl)
  simp only [Act.put, List.setIfInBounds_toArray, List.set_cons_succ, List.set_cons_zero]
  refine take_yes 2 22 (v := ?_) rfl rfl (by kernel_rfl) (by kernel_rfl) (by kernel_rfl) (fun _ _ _ h => h) (by rfl) ?_ hHeld ?_
  rotate_left 1
  · (intro w hSw; obtain ⟨s1, s2, s3⟩ := hSw; go_simp; try with_reducible rfl)
  simp only [Act.put, List.setIfInBounds_toArray, List.set_cons_succ, List.set_cons_zero]
  refine take_yes 3 23 (v := ?_) rfl rfl (by kernel_rfl) (by kernel_rfl) (by kernel_rfl) (fun _ _ _ h => h) (by rfl) ?_ hHeld ?_
  rotate_left 1
  · (intro w hSw; obtain ⟨s1, s2, s3⟩ := hSw; go_simp; try with_reducible rfl)
  simp only [Act.put, List.setIfInBounds_toArray, List.set_cons_succ, List.set_cons_zero]
  refine take_yes 4 24 (v := ?_) rfl rfl (by kernel_rfl) (by kernel_rfl) (by kernel_rfl) (fun _ _ _ h => h) (by rfl) ?_ hHeld ?_
  rotate_left 1
  · (intro w hSw; obtain ⟨s1, s2, s3⟩ := hSw; go_simp; try with_reducible rfl)
  simp only [Act.put, List.setIfInBounds_toArray, List.set_cons_succ, List.set_cons_zero]
  refine take_yes 5 25 (v := ?_) rfl rfl (by kernel_rfl) (by kernel_rfl) (by kernel_rfl) (fun _ _ _ h => h) (by rfl) ?_ hHeld ?_
  rotate_left 1
  · (intro w hSw; obtain ⟨s1, s2, s3⟩ := hSw; go_simp; try with_reducible rfl)
  simp only [Act.put, List.setIfInBounds_toArray, List.set_cons_succ, List.set_cons_zero]
  refine take_yes 6 26 (v := ?_) rfl rfl (by kernel_rfl) (by kernel_rfl) (by kernel_rfl) (fun _ _ _ h => h) (by rfl) ?_ hHeld ?_
  rotate_left 1
  · (intro w hSw; obtain ⟨s1, s2, s3⟩ := hSw; go_simp; try with_reducible rfl)
  simp only [Act.put, List.setIfInBounds_toArray, List.set_cons_succ, List.set_cons_zero]
  refine take_yes 7 27 (v := ?_) rfl rfl (by kernel_rfl) (by kernel_rfl) (by kernel_rfl) (fun _ _ _ h => h) (by rfl) ?_ hHeld ?_
  rotate_left 1
  · (intro w hSw; obtain ⟨s1, s2, s3⟩ := hSw; go_simp; try with_reducible rfl)
  simp only [Act.put, List.setIfInBounds_toArray, List.set_cons_succ, List.set_cons_zero]
  refine take_yes 8 28 (v := ?_) rfl rfl (by kernel_rfl) (by kernel_rfl) (by kernel_rfl) (fun _ _ _ h => h) (by rfl) ?_ hHeld ?_
  rotate_left 1
  · (intro w hSw; obtain ⟨s1, s2, s3⟩ := hSw; go_simp; try with_reducible rfl)
  simp only [Act.put, List.setIfInBounds_toArray, List.set_cons_succ, List.set_cons_zero]
  refine wpAnyH_ready (rs := [9]) (by kernel_rfl) (by simp) ?_
  refine AllReadyH.cons rfl (fun KK hKK => ?_) AllReadyH.nil
  go_simp
  refine (HOF.out _ HBL.out.drew).mono ?_
  rintro e w2 ⟨vs, rfl, hQ, hb2⟩
  have hlen := hQ.len
  have hb2' : Below w1.heap.size w1 w2 := ((Below.refl _ w1).drew).trans hb2
  have hS2 : w2.cell? ⟨w.heap.size, 1, none⟩ = some (.slice p h.1.2.length d) ∧ w2.cell? ⟨w.heap.size, 3, none⟩ = some (.slice (some ⟨bq, oq, none⟩) 3 gc) ∧ w2.cell? ⟨bq, oq + k * 3 + 2, none⟩ = some (.slice ar R.length cr) := by
    have l1 : w.heap.size < w1.heap.size := by have := hZ1.lt; omega
    have l2 : bq < w1.heap.size := by omega
    exact ⟨by rw [hb2'.cell (by exact l1)]; exact x1, by rw [hb2'.cell (by exact l1)]; exact x3, by rw [hb2'.cell (by exact l2)]; exact g2'⟩
  have hZ2 := hZ1.keep hb2'
  have HB2 := Lib.hid (HBL.out.trans (hb2'.mono HBL.out.size))
  go_wp2_with fail
  refine hKK.out _ _ (hS2) (fun hHeld => ?_)
  clear hKK KK
  refine take_yes 10 30 (v := ?_) rfl rfl (by kernel_rfl) (by kernel_rfl) (by kernel_rfl) (fun _ _ _ h => h) (by rfl) ?_ hHeld ?_
  rotate_left 1
  · (intro w hSw; go_simp; try with_reducible rfl)
  simp only [Act.put, List.setIfInBounds_toArray, List.set_cons_succ, List.set_cons_zero]
  refine take_yes 11 31 (v := ?_) rfl rfl (by kernel_rfl) (by kernel_rfl) (by kernel_rfl) (fun _ _ _ h => h) (by rfl) ?_ hHeld ?_
  rotate_left 1
  · (intro w hSw; go_simp; try with_reducible rfl)
  simp only [Act.put, List.setIfInBounds_toArray, List.set_cons_succ, List.set_cons_zero]
  have hS3 : (w2.setCells (w.heap.size + 1) 0 vs).cell? ⟨w.heap.size, 1, none⟩ = some (.slice p h.1.2.length d) ∧ (w2.setCells (w.heap.size + 1) 0 vs).cell? ⟨w.heap.size, 3, none⟩ = some (.slice (some ⟨bq, oq, none⟩) 3 gc) ∧ (w2.setCells (w.heap.size + 1) 0 vs).cell? ⟨bq, oq + k * 3 + 2, none⟩ = some (.slice ar R.length cr) := by
    refine ⟨?_, ?_, ?_⟩
    · rw [World.cell?_of_block (w := w2) (a := ⟨w.heap.size, 1, none⟩) (sets_heap w.heap.size (w.heap.size + 1) (by omega) vs 0 w2)]; exact hS2.1
    · rw [World.cell?_of_block (w := w2) (a := ⟨w.heap.size, 3, none⟩) (sets_heap w.heap.size (w.heap.size + 1) (by omega) vs 0 w2)]; exact hS2.2.1
    · rw [World.cell?_of_block (w := w2) (a := ⟨bq, oq + k * 3 + 2, none⟩) (sets_heap bq (w.heap.size + 1) (by omega) vs 0 w2)]; exact hS2.2.2
  have hlt0 : w.heap.size + 1 < w1.drew.heap.size := hZ1.lt
  refine step_store 12 42 (w.heap.size + 1) vs (by kernel_rfl) rfl rfl (by rfl) (by rfl) (by rfl) (by rfl) (by rw [hlen]; exact hZ2.there) (by rw [hlen]; exact sizeView) hQ.one hS3 ?_
  have hHeld := hS3
  refine take_yes 13 5 (v := ?_) rfl rfl (by kernel_rfl) (by kernel_rfl) (by kernel_rfl) (fun _ _ _ h => h) (by rfl) ?_ hHeld ?_
  rotate_left 1
  · (intro w hSw; go_simp; try with_reducible rfl)
  simp only [Act.put, List.setIfInBounds_toArray, List.set_cons_succ, List.set_cons_zero]
  refine wpAnyH_done (by kernel_rfl) ?_ _
  have HRR : Hid (ViX (Old n w.heap.size) (ofR h.1.2 R) (ofK h.1.2 R) (ofW h.1.2 R) (w2.setCells (w.heap.size + 1) 0 vs) vs) := (hQ.sets (w.heap.size + 1) (fun b hb => by rcases hb with hb | hb <;> omega) vs 0).imp (fun b hb => by rcases hb with hb | hb; exact Or.inl hb; exact Or.inr (by have := hlt0; omega))
  have HBE := Lib.hid (below_sets HB2.out (w.heap.size + 1) (by omega) vs 0)
  have hRf := hZ2.sets vs (by rw [hlen]; rfl)
  clear hHeld hS2 hS3 hQ hb2 hb2' x1 x3 g2' hZ1 hZ2 r0 r1 r2 rf
  generalize w2.setCells (w.heap.size + 1) 0 vs = W5 at *
  go_wp2
  refine ret_cell_tmp Tryz.results8 rfl rfl (hRf.load Tryz.underlying42 rfl (by rw [hlen]; exact sizeView)) ?_
  refine ⟨vs, by rw [HG.out.1]; rfl, ?_, HBE.out⟩
  rw [HG.out.2.1, HG.out.2.2.1, HG.out.2.2.2]
  exact HRR.out


/-- a record in memory: it, its roots' address, the room there -/
abbrev Rq := Rc × Option Addr × Nat
abbrev Rq.val (x : Rq) : Value := rcV x.1.1 x.1.2.1 x.1.2.2.1 (.slice x.2.1 x.1.2.2.2.1.length x.2.2) x.1.2.2.2.2
def rqC (x : Rq) : List Value := [.int .i64 x.1.1, .int .i64 x.1.2.1, .int .i64 x.1.2.2.1, .slice x.2.1 x.1.2.2.2.1.length x.2.2, .int .i64 x.1.2.2.2.2.1, .int .i64 x.1.2.2.2.2.2.1, .int .i64 x.1.2.2.2.2.2.2.1.1, .int .i64 x.1.2.2.2.2.2.2.1.2.1, .int .i64 x.1.2.2.2.2.2.2.1.2.2, .int .i64 x.1.2.2.2.2.2.2.2.1, .int .i64 x.1.2.2.2.2.2.2.2.2]
theorem rqC_len (x : Rq) : (rqC x).length = 11 := rfl
/-- a row of records that is read -/
structure SlC (w : World) (a : Option Addr) (X : List Rq) : Prop where
  reads : SlE rqC w a X
  roots : ∀ x ∈ X, SlI w x.2.1 x.1.2.2.2.1 ∧ x.1.2.2.2.1.length ≤ maxLen
theorem SlC.keep {w w' : World} {a : Option Addr} {X : List Rq} (h : SlC w a X) (hb : Below w.heap.size w w') : SlC w' a X := ⟨h.reads.below hb, fun x hx => ⟨(h.roots x hx).1.below hb, (h.roots x hx).2⟩⟩
theorem run_stop {h : Hb} {l : List Rc} {k : Nat} (hk : k < l.length) (h1 : runE h (l.take k) = 0) (h2 : nextE (runH h (l.take k)) l[k] ≠ 0) : runE h l = nextE (runH h (l.take k)) l[k] := by
  induction l generalizing h k with
  | nil => simp at hk
  | cons r l ih =>
    cases k with
    | zero =>
      simp only [List.take_zero, List.getElem_cons_zero] at h2 ⊢
      show (if nextE h r ≠ 0 then nextE h r else runE (stepH h r) l) = _
      rw [if_pos (by exact h2)]
      rfl
    | succ k =>
      simp only [List.take_succ_cons, List.getElem_cons_succ] at h1 h2 ⊢
      obtain ⟨h3, h4⟩ := (Orangery.runE_zero h r (l.take k)).1 h1
      show (if nextE h r ≠ 0 then nextE h r else runE (stepH h r) l) = _
      rw [if_neg (by simp [h3])]
      exact ih (by simpa using hk) h4 h2
theorem run_more {h : Hb} {l : List Rc} {k : Nat} (hk : k < l.length) (h1 : runE h (l.take k) = 0) (h2 : nextE (runH h (l.take k)) l[k] = 0) : runE h (l.take (k + 1)) = 0 ∧ runH h (l.take (k + 1)) = nextH (runH h (l.take k)) l[k] := by
  rw [List.take_succ_eq_append_getElem hk]
  refine ⟨(Orangery.runE_app _ _ _).2 ⟨h1, (Orangery.runE_zero _ _ _).2 ⟨h2, rfl⟩⟩, ?_⟩
  rw [Orangery.runH_app, nextH_ok h2]
  rfl
theorem replay_big {l : List Rc} (h : 60 < l.length) : replayE l = 2 ∧ replayH l = noHb := by
  have e : replayE l = 2 := by unfold replayE; rw [if_pos h]
  refine ⟨e, ?_⟩
  unfold replayH
  rw [if_pos (by rw [e]; omega)]
theorem replay_small {l : List Rc} (h : ¬ 60 < l.length) : replayE l = runE newHb l := by unfold replayE; rw [if_neg h]
theorem replay_err {l : List Rc} (h : replayE l ≠ 0) : replayH l = noHb := by unfold replayH; rw [if_pos h]
theorem replay_ok {l : List Rc} (h : replayE l = 0) : replayH l = runH newHb l := by unfold replayH; rw [if_neg (by simp [h])]
theorem rec_at {X : List Rq} {l : List Rc} (e : X.map (·.1) = l) (k : Nat) (hk : k < X.length) : ∃ h : k < l.length, l[k] = X[k].1 := by
  subst e
  exact ⟨by simpa using hk, by simp⟩
theorem rqC_cells {w : World} {b o : Nat} {x : Rq} (h : w.rangeAt b o (rqC x)) :
    w.cell? ⟨b, o, none⟩ = some (.int .i64 x.1.1) ∧ w.cell? ⟨b, o + 1, none⟩ = some (.int .i64 x.1.2.1) ∧ w.cell? ⟨b, o + 2, none⟩ = some (.int .i64 x.1.2.2.1) ∧ w.cell? ⟨b, o + 3, none⟩ = some (.slice x.2.1 x.1.2.2.2.1.length x.2.2) ∧ w.cell? ⟨b, o + 4, none⟩ = some (.int .i64 x.1.2.2.2.2.1) ∧ w.cell? ⟨b, o + 5, none⟩ = some (.int .i64 x.1.2.2.2.2.2.1) ∧ w.cell? ⟨b, o + 6, none⟩ = some (.int .i64 x.1.2.2.2.2.2.2.1.1) ∧ w.cell? ⟨b, o + 7, none⟩ = some (.int .i64 x.1.2.2.2.2.2.2.1.2.1) ∧ w.cell? ⟨b, o + 8, none⟩ = some (.int .i64 x.1.2.2.2.2.2.2.1.2.2) ∧ w.cell? ⟨b, o + 9, none⟩ = some (.int .i64 x.1.2.2.2.2.2.2.2.1) ∧ w.cell? ⟨b, o + 10, none⟩ = some (.int .i64 x.1.2.2.2.2.2.2.2.2) :=
  ⟨h 0 _ rfl, h 1 _ rfl, h 2 _ rfl, h 3 _ rfl, h 4 _ rfl, h 5 _ rfl, h 6 _ rfl, h 7 _ rfl, h 8 _ rfl, h 9 _ rfl, h 10 _ rfl⟩
theorem HuX.four {D : Nat → Prop} {h : Hb} {w : World} {vs : List Value} (hx : HuX D h w vs) : ∃ a0 n0 c0 a1 n1 c1 a3 n3 c3, vs = [.slice a0 n0 c0, .slice a1 n1 c1, .int .i64 h.2.1, .slice a3 n3 c3] := by
  obtain ⟨a, c, p, d, q, g, X, rfl, _⟩ := hx
  exact ⟨_, _, _, _, _, _, _, _, _, rfl⟩
theorem HuX.fournew {D : Nat → Prop} {w : World} {vs : List Value} (hx : HuX D newHb w vs) : ∃ a0 n0 c0 a1 n1 c1 a3 n3 c3, vs = [.slice a0 n0 c0, .slice a1 n1 c1, .int .i64 0, .slice a3 n3 c3] := hx.four
theorem ViX.three {D : Nat → Prop} {R : List Int} {K V : List Pl} {w : World} {vs : List Value} (hx : ViX D R K V w vs) : ∃ a0 c0 a1 c1 a3 c3, vs = [.slice a0 R.length c0, .slice a1 K.length c1, .slice a3 V.length c3] := by
  obtain ⟨aR, aK, aV, cR, cK, cV, rfl, _⟩ := hx
  exact ⟨_, _, _, _, _, _, rfl⟩

set_option maxHeartbeats 4000000 in
set_option maxRecDepth 100000 in
theorem ureplay_any (w : World) (a : Option Addr) (c : Nat) (X : List Rq) (l : List Rc) (hl : X.map (·.1) = l) (hm : X.length ≤ maxLen) (hX : SlC w a X) :
    Calls Tryz.prog 19 #[.slice a X.length c] w (Gives (HuX (w.heap.size ≤ ·) (replayH l)) w (replayE l)) := by
  have hm' : X.length ≤ 9223372036854775807 := hm
  have HX := Lib.hid hX
  have HAT : Hid (∀ k, (hk : k < X.length) → ∃ hp : k < l.length, l[k] = X[k].1) := fun k hk => rec_at hl k hk
  have HLL : Hid (X.length = l.length) := by show _ = _; rw [← hl]; simp
  clear hX hl hm
  have HBAD : Hid (∀ E w', E = replayE l → E ≠ 0 → Below w.heap.size w w' → Gives (HuX (w.heap.size ≤ ·) (replayH l)) w (replayE l) (.returned (.tuple #[.agg [Value.slice none 0 0, .slice none 0 0, .int .i64 0, .slice none 0 0].toArray, .int .i64 E])) w') := by
    intro E w' e hne hb
    subst e
    exact ⟨_, rfl, by rw [replay_err hne]; exact HuX.no _ _, hb⟩
  by_cases hbig : 60 < X.length
  · have HE : Hid (2 = replayE l) := by show _ = _; rw [(replay_big (by have := HLL.out; omega)).1]
    have d1 : decide ((X.length : Int) > 60) = true := by simp; omega
    obtain ⟨W0, hW, hZ, hB, -⟩ := laid1 w [Value.slice none 0 0, .slice none 0 0, .int .i64 0, .slice none 0 0] 30
    have rf := hZ.frz
    have r0 := hZ.at 0 rfl
    have r1 := hZ.at 1 rfl
    have r2 := hZ.at 2 rfl
    have r3 := hZ.at 3 rfl
    go_enter Tryz.func19, Tryz.ntmps19
    go_wp2
    have hRf := hZ.sets [Value.slice none 0 0, .slice none 0 0, .int .i64 0, .slice none 0 0] rfl
    refine ret_cell_tmp Tryz.results19 rfl rfl (hRf.load Tryz.underlying30 rfl sizeHub) ?_
    exact HBAD.out 2 _ HE.out (by omega) (below_sets hB w.heap.size (Nat.le_refl _) [Value.slice none 0 0, .slice none 0 0, .int .i64 0, .slice none 0 0] 0)
  have HES := Lib.hid (@replay_small l (by have := HLL.out; omega))
  have d1 : decide ((X.length : Int) > 60) = false := by simp; omega
  go_enter Tryz.func19, Tryz.ntmps19
  go_wp2_with fail
  obtain ⟨W0, hW, hZ, hB, -⟩ := laid1 w [Value.slice none 0 0, .slice none 0 0, .int .i64 0, .slice none 0 0] 30
  rw [hW]
  clear hW d1
  refine (unew_any W0).mono ?_
  rintro e w1 ⟨vs, rfl, hN, hb⟩
  obtain ⟨e0, m0, c0, e1, m1, c1, e3, m3, c3, rfl⟩ := hN.fournew
  have hZ1 := hZ.keep hb
  have HB1 := Lib.hid (hB.trans (hb.mono hB.size))
  have hz1 : w.heap.size < w1.heap.size := hZ1.lt
  have hz0 : w.heap.size < W0.heap.size := hZ.lt
  obtain ⟨W2, hW, hH, hB2, hS2⟩ := laid1 w1 [Value.slice e0 m0 c0, .slice e1 m1 c1, .int .i64 0, .slice e3 m3 c3] 30
  have hN2 := ((hN.lowD.imp (D' := fun b => w.heap.size < b ∧ b ≠ w1.heap.size) (fun b hb => by omega)).keep hB2)
  have hZ2 := hZ1.keep hB2
  have HB2 := Lib.hid (HB1.out.trans (hB2.mono HB1.out.size))
  clear hN hZ hZ1 hb hB hB2 HB1
  have rq := hH.frz
  have q0 := hH.at 0 rfl
  have q1 := hH.at 1 rfl
  have q2 := hH.at 2 rfl
  have q3 := hH.at 3 rfl
  go_wp2
  clear hW rq q0 q1 q2 q3
  generalize hhb : w1.heap.size = hb at *
  clear hhb
  go_loopw [16] (fun i W => ∃ (k : Nat) (H : Hb) (vs : List Value), k ≤ X.length ∧ i = .int .i64 k ∧ runE newHb (l.take k) = 0 ∧ runH newHb (l.take k) = H ∧ HuX (fun b => w.heap.size < b ∧ b ≠ hb) H W vs ∧ Blk W hb vs ∧ Blk W w.heap.size [Value.slice none 0 0, .slice none 0 0, .int .i64 0, .slice none 0 0] ∧ Below w.heap.size w W) (fun i _ => X.length - (intOf i).toNat)
  case atStart => exact ⟨0, newHb, _, Nat.zero_le _, rfl, rfl, rfl, hN2, hH, hZ2, HB2.out⟩
  case round =>
    obtain ⟨k, H, vs, hk, rfl, hrE, hrH, hHx, hHb, hZr, hb⟩ := hrel
    obtain ⟨e0', m0', c0', e1', m1', c1', e3', m3', c3', rfl⟩ := hHx.four
    have HRE := Lib.hid hrE
    have HRH := Lib.hid hrH
    have HBr := Lib.hid hb
    have HHX := Lib.hid hHx
    clear hN2 hH hZ2 HB2 hb hrE hrH hHx
    by_cases hlt : k < X.length
    case neg =>
      have hkX : k = X.length := by omega
      have HE : Hid (replayE l = 0) := by
        show _ = _
        rw [HES.out]
        have e := HRE.out
        rw [List.take_of_length_le (by have := HLL.out; omega)] at e
        exact e
      have HHE : Hid (replayH l = H) := by
        show _ = _
        rw [replay_ok HE.out]
        have e := HRH.out
        rw [List.take_of_length_le (by have := HLL.out; omega)] at e
        exact e
      have y0 := hHb.at 0 rfl
      have y1 := hHb.at 1 rfl
      have y2 := hHb.at 2 rfl
      have y3 := hHb.at 3 rfl
      have rf := hZr.frz
      have r0 := hZr.at 0 rfl
      have r1 := hZr.at 1 rfl
      have r2 := hZr.at 2 rfl
      have r3 := hZr.at 3 rfl
      clear hkX
      go_wp2
      have hRf := hZr.sets [Value.slice e0' m0' c0', .slice e1' m1' c1', .int .i64 H.2.1, .slice e3' m3' c3'] rfl
      refine ret_cell_tmp Tryz.results19 rfl rfl (hRf.load Tryz.underlying30 rfl sizeHub) ?_
      refine ⟨[Value.slice e0' m0' c0', .slice e1' m1' c1', .int .i64 H.2.1, .slice e3' m3' c3'], by rw [HE.out]; rfl, ?_, below_sets HBr.out w.heap.size (Nat.le_refl _) [Value.slice e0' m0' c0', .slice e1' m1' c1', .int .i64 H.2.1, .slice e3' m3' c3'] 0⟩
      rw [HHE.out]
      exact (HHX.out.sets w.heap.size (fun b hb => by omega) [Value.slice e0' m0' c0', .slice e1' m1' c1', .int .i64 H.2.1, .slice e3' m3' c3'] 0).imp (fun b hb => by omega)
    obtain ⟨hp, hpe⟩ := HAT.out k hlt
    have HSTOP : Hid (nextE H X[k].1 ≠ 0 → replayE l = nextE H X[k].1) := by
      intro e
      rw [HES.out, ← hpe, ← HRH.out]
      rw [← hpe, ← HRH.out] at e
      exact run_stop hp HRE.out e
    have HMORE : Hid (nextE H X[k].1 = 0 → runE newHb (l.take (k + 1)) = 0 ∧ runH newHb (l.take (k + 1)) = nextH H X[k].1) := by
      intro e
      rw [← hpe, ← HRH.out] at e
      have := run_more hp HRE.out e
      rw [HRH.out, hpe] at this
      exact this
    have hXr := HX.out.keep HBr.out
    obtain ⟨bx, ox, rfl, hbx, hrx⟩ := hXr.reads.at rqC_len k hlt
    have HRX := Lib.hid (hXr.roots _ (List.getElem_mem hlt))
    obtain ⟨g0, g1, g2, g3, g4, g5, g6, g7, g8, g9, g10⟩ := rqC_cells hrx
    clear hrx hXr hpe HRE HRH
    generalize X[k] = x at *
    obtain ⟨r, ar, cr⟩ := x
    simp only at g0 g1 g2 g3 g4 g5 g6 g7 g8 g9 g10 HRX
    have hlti : (k : Int) < (X.length : Int) := by omega
    have y0 := hHb.at 0 rfl
    have y1 := hHb.at 1 rfl
    have y2 := hHb.at 2 rfl
    have y3 := hHb.at 3 rfl
    have hlh : hb < wr.heap.size := hHb.lt
    have hnh : ¬ wr.heap.size = hb := by omega
    go_wp2_with fail
    obtain ⟨W3, hW, -, hB3, -⟩ := laid1 wr (rcL r.1 r.2.1 r.2.2.1 (.slice ar r.2.2.2.1.length cr) r.2.2.2.2) 37
    change (wr.alloc (Obj.cells #[Value.int IntKind.i64 r.1, .int .i64 r.2.1, .int .i64 r.2.2.1, .slice ar r.2.2.2.1.length cr, .int .i64 r.2.2.2.2.1, .int .i64 r.2.2.2.2.2.1, .int .i64 r.2.2.2.2.2.2.1.1, .int .i64 r.2.2.2.2.2.2.1.2.1, .int .i64 r.2.2.2.2.2.2.1.2.2, .int .i64 r.2.2.2.2.2.2.2.1, .int .i64 r.2.2.2.2.2.2.2.2] 37)) = W3 at hW
    rw [hW]
    clear hW g0 g1 g2 g3 g4 g5 g6 g7 g8 g9 g10 y0 y1 y2 y3
    refine (unext_any W3 _ H r ar cr (HHX.out.keep hB3).is HRX.out.2 (HRX.out.1.below hB3)).mono ?_
    rintro e w4 ⟨us, rfl, hU, hb4⟩
    obtain ⟨f0, l0, d0, f1, l1, d1, f3, l3, d3, rfl⟩ := hU.four
    have hb4' := hB3.trans (hb4.mono hB3.size)
    have HB4 := Lib.hid (HBr.out.trans (hb4'.mono HBr.out.size))
    have hHb4 := hHb.keep hb4'
    have hZ4 := hZr.keep hb4'
    have hlz : w.heap.size < wr.heap.size := hZr.lt
    have hs3 := hB3.size
    have hU4 : HuX (fun b => w.heap.size < b ∧ b ≠ hb) (nextH H r) w4 [Value.slice f0 l0 d0, .slice f1 l1 d1, .int .i64 (nextH H r).2.1, .slice f3 l3 d3] := hU.imp (fun b hb => by omega)
    have rf := hZ4.frz
    have r0 := hZ4.at 0 rfl
    have r1 := hZ4.at 1 rfl
    have r2 := hZ4.at 2 rfl
    have r3 := hZ4.at 3 rfl
    clear hU hb4 hb4' hHb hZr hB3 HHX HRX HBr
    by_cases hz : nextE H r = 0
    case neg =>
      have dz : (nextE H r != 0) = true := by simpa using hz
      have HZ := Lib.hid hz
      have HE := Lib.hid (HSTOP.out hz)
      clear hz HSTOP HMORE
      generalize nextE H r = OE at *
      generalize (nextH H r).2.1 = nv at *
      obtain ⟨W5, hW, hN5, hB5, -⟩ := laid1 w4 [Value.slice f0 l0 d0, .slice f1 l1 d1, .int .i64 nv, .slice f3 l3 d3] 30
      have hZ5 := hZ4.keep hB5
      have rf := hZ5.frz
      have r0 := hZ5.at 0 rfl
      have r1 := hZ5.at 1 rfl
      have r2 := hZ5.at 2 rfl
      have r3 := hZ5.at 3 rfl
      have HB5 := Lib.hid (HB4.out.trans (hB5.mono HB4.out.size))
      clear hB5 HB4 hU4
      go_wp2
      have hRf := hZ5.sets [Value.slice none 0 0, .slice none 0 0, .int .i64 0, .slice none 0 0] rfl
      refine ret_cell_tmp Tryz.results19 rfl rfl (hRf.load Tryz.underlying30 rfl sizeHub) ?_
      exact HBAD.out OE _ HE.out.symm HZ.out (below_sets HB5.out w.heap.size (Nat.le_refl _) [Value.slice none 0 0, .slice none 0 0, .int .i64 0, .slice none 0 0] 0)
    have HM := Lib.hid (HMORE.out hz)
    rw [hz]
    clear hz HSTOP HMORE
    generalize nextH H r = H' at *
    obtain ⟨W5, hW, hN5, hB5, -⟩ := laid1 w4 [Value.slice f0 l0 d0, .slice f1 l1 d1, .int .i64 H'.2.1, .slice f3 l3 d3] 30
    have hZ5 := hZ4.keep hB5
    have hHb5 := hHb4.keep hB5
    have hU5 := hU4.keep hB5
    have HB5 := Lib.hid (HB4.out.trans (hB5.mono HB4.out.size))
    have y0 := hN5.at 0 rfl
    have y1 := hN5.at 1 rfl
    have y2 := hN5.at 2 rfl
    have y3 := hN5.at 3 rfl
    have zf := hHb5.frz
    have z0 := hHb5.at 0 rfl
    have z1 := hHb5.at 1 rfl
    have z2 := hHb5.at 2 rfl
    have z3 := hHb5.at 3 rfl
    clear hB5 HB4 hU4 hZ4 hHb4 rf r0 r1 r2 r3
    have HRES : Hid (HuX (fun b => w.heap.size < b ∧ b ≠ hb) H' (W5.setCells hb 0 [Value.slice f0 l0 d0, .slice f1 l1 d1, .int .i64 H'.2.1, .slice f3 l3 d3]) [Value.slice f0 l0 d0, .slice f1 l1 d1, .int .i64 H'.2.1, .slice f3 l3 d3] ∧ Blk (W5.setCells hb 0 [Value.slice f0 l0 d0, .slice f1 l1 d1, .int .i64 H'.2.1, .slice f3 l3 d3]) hb [Value.slice f0 l0 d0, .slice f1 l1 d1, .int .i64 H'.2.1, .slice f3 l3 d3] ∧ Blk (W5.setCells hb 0 [Value.slice f0 l0 d0, .slice f1 l1 d1, .int .i64 H'.2.1, .slice f3 l3 d3]) w.heap.size [Value.slice none 0 0, .slice none 0 0, .int .i64 0, .slice none 0 0] ∧ Below w.heap.size w (W5.setCells hb 0 [Value.slice f0 l0 d0, .slice f1 l1 d1, .int .i64 H'.2.1, .slice f3 l3 d3])) :=
      ⟨hU5.sets hb (fun b hb => hb.2) _ 0, hHb5.sets _ rfl, hZ5.others (by omega) _ 0, below_sets HB5.out hb (by omega) _ 0⟩
    go_wp2
    go_roundw
    case rel => exact ⟨k + 1, H', _, hlt, by go_num, HM.out.1, HM.out.2, HRES.out⟩
    case measure => simp [intOf]; omega

end Go.Proofs.YthlhnokgcnieeadGreat

/- Plain facts on lines of records: what a disk holds. -/
namespace Orangery
open Go.Lib (itoa)

/-- the first line, without its line feed, and what is behind it -/
def lineOf : List UInt8 → Option (List UInt8 × List UInt8)
  | [] => none
  | c :: r => if c = 10 then some ([], r) else (lineOf r).map fun x => (c :: x.1, x.2)
/-- records as far as lines are whole: them, how many bytes they have, what is wrong with the next one; at most m -/
def linesR : Nat → Nat → List UInt8 → List Rc × Nat × Int
  | 0, _, _ => ([], 0, 0)
  | f + 1, m, s => if s = [] then ([], 0, 0) else match lineOf s with
    | none => ([], 0, 8)
    | some (t, r) => if readE t ≠ 0 then ([], 0, readE t) else if m = 0 then ([], 0, 2)
      else (readR t :: (linesR f (m - 1) r).1, t.length + 1 + (linesR f (m - 1) r).2.1, (linesR f (m - 1) r).2.2)

def recLine (r : Rc) : List UInt8 := recT r ++ [10]
def encR (l : List Rc) : List UInt8 := l.flatMap recLine

theorem lineOf_app (t r : List UInt8) (h : ∀ c ∈ t, c ≠ 10) : lineOf (t ++ 10 :: r) = some (t, r) := by
  induction t with
  | nil => simp [lineOf]
  | cons c t ih =>
    rw [List.cons_append]
    unfold lineOf
    rw [if_neg (h c (by simp)), ih (fun d hd => h d (by simp [hd]))]
    rfl
theorem lineOf_none (t : List UInt8) (h : ∀ c ∈ t, c ≠ 10) : lineOf t = none := by
  induction t with
  | nil => rfl
  | cons c t ih =>
    unfold lineOf
    rw [if_neg (h c (by simp)), ih (fun d hd => h d (by simp [hd]))]
    rfl
theorem lineOf_some {s t r : List UInt8} (h : lineOf s = some (t, r)) : s = t ++ 10 :: r ∧ ∀ c ∈ t, c ≠ 10 := by
  induction s generalizing t r with
  | nil => simp [lineOf] at h
  | cons c s ih =>
    unfold lineOf at h
    split at h
    · rename_i h1
      simp at h
      obtain ⟨rfl, rfl⟩ := h
      exact ⟨by rw [h1]; rfl, by simp⟩
    · rename_i h1
      rw [Option.map_eq_some_iff] at h
      obtain ⟨⟨t', r'⟩, h2, h3⟩ := h
      simp at h3
      obtain ⟨rfl, rfl⟩ := h3
      obtain ⟨e1, e2⟩ := ih h2
      refine ⟨by rw [e1]; rfl, fun d hd => ?_⟩
      rcases List.mem_cons.1 hd with rfl | hd
      · exact h1
      · exact e2 d hd

theorem glue_no (b : UInt8) (hb : b ≠ 32) (ws : List (List UInt8)) (h : ∀ x ∈ ws, ∀ c ∈ x, c ≠ b) : ∀ c ∈ glue ws, c ≠ b := by
  induction ws with
  | nil => intro c hc; simp [glue, Go.Lib.join] at hc
  | cons x l ih =>
    cases l with
    | nil => rw [glue_one]; exact h x (by simp)
    | cons y l =>
      rw [glue_cons]
      intro c hc
      rcases List.mem_append.1 hc with hc | hc
      · exact h x (by simp) c hc
      · rcases List.mem_cons.1 hc with rfl | hc
        · exact fun e => hb e.symm
        · exact ih (fun z hz => h z (by simp [hz])) c hc
theorem itoa_lf (n : Int) : ∀ c ∈ itoa n, c ≠ 10 := by
  intro c hc e
  subst e
  unfold itoa at hc
  split at hc
  · simp at hc
    have := digits_all _ _ hc
    simp at this
  · have := digits_all _ _ hc
    simp at this
theorem recT_lf (r : Rc) : ∀ c ∈ recT r, c ≠ 10 := by
  unfold recT
  refine glue_no 10 (by decide) _ ?_
  intro x hx
  rcases List.mem_cons.1 hx with rfl | hx
  · unfold recWord
    split
    · decide
    · split <;> decide
  · obtain ⟨n, _, rfl⟩ := List.mem_map.1 hx
    exact itoa_lf n

theorem encR_cons (r : Rc) (l : List Rc) : encR (r :: l) = recT r ++ 10 :: encR l := by simp [encR, recLine]
theorem encR_app (a b : List Rc) : encR (a ++ b) = encR a ++ encR b := by simp [encR]

/-- whole lines of right records are read, and what is behind them -/
theorem lines_enc (l : List Rc) (hl : ∀ r ∈ l, checkRec r = 0) : ∀ (f m : Nat) (s : List UInt8), l.length ≤ f → l.length ≤ m →
    linesR f m (encR l ++ s) = (l ++ (linesR (f - l.length) (m - l.length) s).1, (encR l).length + (linesR (f - l.length) (m - l.length) s).2.1, (linesR (f - l.length) (m - l.length) s).2.2) := by
  induction l with
  | nil => intro f m s _ _; simp [encR]
  | cons r l ih =>
    intro f m s hf hm
    cases f with
    | zero => simp at hf
    | succ f =>
      have hr := hl r (by simp)
      rw [encR_cons, List.append_assoc, List.cons_append]
      conv => lhs; unfold linesR
      rw [if_neg (by simp), lineOf_app _ _ (recT_lf r)]
      simp only
      rw [if_neg (by rw [(read_text hr).2.1]; simp), if_neg (by simp at hm; omega), (read_text hr).2.2]
      have := ih (fun q hq => hl q (by simp [hq])) f (m - 1) s (by simp at hf; omega) (by simp at hm; omega)
      rw [this]
      have e1 : f + 1 - (r :: l).length = f - l.length := by simp
      have e2 : m - (r :: l).length = m - 1 - l.length := by simp; omega
      rw [e1, e2]
      simp only [List.length_append, List.length_cons, List.cons_append]
      refine congrArg _ (congrArg (·, _) ?_)
      omega

/-- a beginning of whole lines: some of them, and a beginning of the next one -/
theorem take_enc (l : List Rc) : ∀ n, ∃ (j : Nat) (t : List UInt8), j ≤ l.length ∧ (encR l).take n = encR (l.take j) ++ t ∧ (t = [] ∨ ∀ c ∈ t, c ≠ 10) := by
  induction l with
  | nil => intro n; exact ⟨0, [], by simp, by simp [encR], Or.inl rfl⟩
  | cons r l ih =>
    intro n
    by_cases hn : n ≤ (recT r).length
    · refine ⟨0, (recT r).take n, by simp, ?_, Or.inr fun c hc => recT_lf r c (List.mem_of_mem_take hc)⟩
      rw [encR_cons, List.take_append_of_le_length hn]
      simp [encR]
    · obtain ⟨j, t, h1, h2, h3⟩ := ih (n - ((recT r).length + 1))
      refine ⟨j + 1, t, by simp; omega, ?_, h3⟩
      rw [encR_cons, List.take_succ_cons, encR_cons]
      have e : recT r ++ 10 :: encR l = (recT r ++ [10]) ++ encR l := by simp
      rw [e, List.take_append]
      have e2 : (recT r ++ [10]).length = (recT r).length + 1 := by simp
      rw [e2, h2, List.take_of_length_le (by rw [e2]; omega)]
      simp

/-- what is behind whole lines and has no line feed says nothing -/
theorem lines_torn (t : List UInt8) (h : t = [] ∨ ∀ c ∈ t, c ≠ 10) (f m : Nat) : (linesR f m t).1 = [] ∧ (linesR f m t).2.1 = 0 := by
  cases f with
  | zero => exact ⟨rfl, rfl⟩
  | succ f =>
    unfold linesR
    by_cases ht : t = []
    · rw [if_pos ht]; exact ⟨rfl, rfl⟩
    · rw [if_neg ht]
      have : lineOf t = none := lineOf_none t (by rcases h with h | h; exact absurd h ht; exact h)
      rw [this]
      exact ⟨rfl, rfl⟩
end Orangery

/- Plain facts on disks: checked, put on, synced, crashed, recovered; what was synced is there. -/
namespace Orangery
open Go.Lib (itoa)

/-- records, bytes and error of a text's lines, m records at most -/
def lnL (m : Nat) (s : List UInt8) : List Rc := (linesR (s.length + 1) m s).1
def lnN (m : Nat) (s : List UInt8) : Nat := (linesR (s.length + 1) m s).2.1
def lnE (m : Nat) (s : List UInt8) : Int := (linesR (s.length + 1) m s).2.2

/-- chapter 7's Check -/
def diskE (s w : List UInt8) : Int := if 60000 < s.length ∨ 60000 - s.length < w.length then 2 else lnE 60 s
/-- chapter 7's Put, of a right disk -/
def putE (s w : List UInt8) (r : Rc) : Int := if checkRec r ≠ 0 then checkRec r else if 60000 < s.length + w.length + (recT r).length + 1 then 2 else 0
/-- chapter 7's Recover, of a right disk -/
def recovS (s w : List UInt8) : List UInt8 := s ++ w.take (lnN (60 - (lnL 60 s).length) w)
def recovL (s w : List UInt8) : List Rc := lnL 60 s ++ lnL (60 - (lnL 60 s).length) w

/-- more fuel than lines changes nothing -/
theorem lineOf_len {s t r : List UInt8} (h : lineOf s = some (t, r)) : s.length = t.length + 1 + r.length := by
  obtain ⟨e, _⟩ := lineOf_some h
  rw [e]; simp; omega
theorem lines_fuels (f : Nat) : ∀ (g m : Nat) (s : List UInt8), s.length < f → s.length < g → linesR f m s = linesR g m s := by
  induction f with
  | zero => intro g m s h _; omega
  | succ f ih =>
    intro g m s h h'
    cases g with
    | zero => omega
    | succ g =>
      unfold linesR
      by_cases hs : s = []
      · rw [if_pos hs, if_pos hs]
      · rw [if_neg hs, if_neg hs]
        cases hl : lineOf s with
        | none => rfl
        | some x =>
          obtain ⟨t, r⟩ := x
          have hlen := lineOf_len hl
          simp only
          rw [ih g (m - 1) r (by omega) (by omega)]
theorem lines_fuel (f m : Nat) (s : List UInt8) (h : s.length < f) : linesR f m s = linesR (s.length + 1) m s := lines_fuels f _ m s h (Nat.lt_succ_self _)

theorem ln_enc (l : List Rc) (hl : ∀ r ∈ l, checkRec r = 0) (m : Nat) (t : List UInt8) (hm : l.length ≤ m) (ht : t = [] ∨ ∀ c ∈ t, c ≠ 10) :
    lnL m (encR l ++ t) = l ∧ lnN m (encR l ++ t) = (encR l).length ∧ (t = [] → lnE m (encR l ++ t) = 0) := by
  have hlen : l.length ≤ (encR l).length := by
    clear hl hm
    induction l with
    | nil => simp
    | cons r l ih => rw [encR_cons]; simp; omega
  have h := lines_enc l hl ((encR l ++ t).length + 1) m t (by simp; omega) hm
  have h2 := lines_torn t ht ((encR l ++ t).length + 1 - l.length) (m - l.length)
  unfold lnL lnN lnE
  rw [h]
  refine ⟨by rw [h2.1]; simp, by rw [h2.2]; simp, ?_⟩
  intro e
  subst e
  cases hk : (encR l ++ []).length + 1 - l.length with
  | zero => rfl
  | succ k => simp [linesR]

/-- P7.3: whatever is kept of what was not synced -/
theorem disk_keeps (A B : List Rc) (hA : ∀ r ∈ A, checkRec r = 0) (hB : ∀ r ∈ B, checkRec r = 0) (ha : A.length ≤ 20) (hb : B.length ≤ 20) (n : Nat) :
    ∃ j, j ≤ B.length ∧ recovL (encR A) ((encR B).take n) = A ++ B.take j ∧ recovS (encR A) ((encR B).take n) = encR (A ++ B.take j) := by
  obtain ⟨j, t, h1, h2, h3⟩ := take_enc B n
  refine ⟨j, h1, ?_⟩
  have eA := ln_enc A hA 60 [] (by omega) (Or.inl rfl)
  rw [List.append_nil] at eA
  have hBj : ∀ r ∈ B.take j, checkRec r = 0 := fun r hr => hB r (List.mem_of_mem_take hr)
  have eB := ln_enc (B.take j) hBj (60 - A.length) t (by simp; omega) h3
  unfold recovL recovS
  rw [eA.1, h2, eB.1, eB.2.1]
  refine ⟨rfl, ?_⟩
  rw [List.take_left, encR_app]
/-- recovered again it is the same -/
theorem disk_again (L : List Rc) (hL : ∀ r ∈ L, checkRec r = 0) (hl : L.length ≤ 60) : recovL (encR L) [] = L ∧ recovS (encR L) [] = encR L ∧ lnE 60 (encR L) = 0 := by
  have e := ln_enc L hL 60 [] hl (Or.inl rfl)
  rw [List.append_nil] at e
  unfold recovL recovS
  rw [e.1]
  refine ⟨by simp [lnL, linesR], by simp, e.2.2 rfl⟩
theorem encR_len (L : List Rc) (hL : ∀ r ∈ L, checkRec r = 0) : (encR L).length ≤ 177 * L.length := by
  induction L with
  | nil => simp [encR]
  | cons r l ih =>
    have h1 := recT_len (hL r (by simp))
    have h2 := ih (fun q hq => hL q (by simp [hq]))
    rw [encR_cons]
    simp
    omega
end Orangery

/- Plain facts on texts: strings.Split and strconv.Atoi in the words of PlainQ. -/
namespace Orangery
open Go.Lib (itoa index cut splitK split count splitB countB parseIntB atoiAll)

theorem words_step (s : List UInt8) : wordsB s = if index s [32] = -1 then [s] else s.take (index s [32]).toNat :: wordsB (s.drop ((index s [32]).toNat + 1)) := by
  have h := cut_blank s
  have hge := Go.Lib.index_ge s [32]
  rw [wordsB_split s, ← h.1, h.2]
  unfold cut
  by_cases h1 : index s [32] = -1
  · rw [h1]; rfl
  · rw [if_neg h1, if_pos (by omega)]
    rfl
theorem words_len (s : List UInt8) : (wordsB s).length = s.count 32 + 1 := by
  induction s with
  | nil => rfl
  | cons c r ih =>
    unfold wordsB
    have := wordsB_split r
    by_cases h : c = 32
    · subst h
      rw [if_pos rfl, List.count_cons_self, List.length_cons, ih]
    · rw [if_neg h, List.count_cons_of_ne (by simpa using h)]
      rw [this] at ih
      simp at ih ⊢
      exact ih
theorem words_small (s : List UInt8) : ∀ x ∈ wordsB s, x.length ≤ s.length := by
  induction s with
  | nil => simp [wordsB]
  | cons c r ih =>
    intro x hx
    unfold wordsB at hx
    split at hx
    · rcases List.mem_cons.1 hx with rfl | hx
      · simp
      · have := ih x hx
        simp; omega
    · rcases List.mem_cons.1 hx with rfl | hx
      · have := ih ((wordsB r).headD []) (by rw [wordsB_split r]; simp)
        simp at this ⊢; omega
      · have := ih x (List.mem_of_mem_tail hx)
        simp; omega
theorem words_count (s : List UInt8) : (wordsB s).length ≤ s.length + 1 := by
  rw [words_len]
  have := List.count_le_length (a := (32 : UInt8)) (l := s)
  omega
theorem splitK_words (k : Nat) : ∀ s : List UInt8, (wordsB s).length ≤ k + 1 → splitK [32] 0 k s = wordsB s := by
  induction k with
  | zero =>
    intro s h
    rw [words_step] at h ⊢
    split at h
    · rename_i h1; rw [if_pos h1]; rfl
    · rw [List.length_cons, words_len] at h; omega
  | succ k ih =>
    intro s h
    unfold splitK
    rw [words_step] at h ⊢
    by_cases h1 : index s [32] = -1
    · rw [if_pos h1, h1]; rfl
    · rw [if_neg h1] at h ⊢
      rw [if_neg (by simpa using h1)]
      rw [ih _ (by simp at h ⊢; omega)]
      rfl
/-- strings.Split at a blank, as the library's law says it -/
theorem splitB_words (s : ByteArray) : (splitB ⟨#[32]⟩ 0 (countB s ⟨#[32]⟩) s).map (·.data.toList) = wordsB s.data.toList := by
  rw [Go.Lib.splitB_data]
  refine splitK_words _ _ ?_
  have e : countB s ⟨#[32]⟩ = s.data.toList.count 32 := Go.Lib.count_one 32 _
  rw [e, words_len]
  exact Nat.le_refl _
theorem countB_words (s : ByteArray) : countB s ⟨#[32]⟩ + 1 = (wordsB s.data.toList).length := by
  have e : countB s ⟨#[32]⟩ = s.data.toList.count 32 := Go.Lib.count_one 32 _
  rw [e, words_len]
theorem splitB_strs (s : ByteArray) : splitB ⟨#[32]⟩ 0 (countB s ⟨#[32]⟩) s = (wordsB s.data.toList).map fun x => (⟨x.toArray⟩ : ByteArray) := by
  rw [← splitB_words s, List.map_map]
  have : ((fun x : List UInt8 => (⟨x.toArray⟩ : ByteArray)) ∘ fun x : ByteArray => x.data.toList) = id := by
    funext x; cases x; rfl
  rw [this, List.map_id]

/-- what Atoi makes of a word, and whether it is written so -/
theorem numOf_ok {t : List UInt8} {v : Int} (h : atoiAll t = .ok v) : numOf t = if itoa v = t then some v else none := by
  unfold numOf
  rw [Go.Lib.parseIntB_64, h]
theorem numOf_bad {t : List UInt8} (h : ∀ v, atoiAll t ≠ .ok v) : numOf t = none := by
  unfold numOf
  rw [Go.Lib.parseIntB_64]
  split
  · rename_i v hv; exact absurd hv (h v)
  · rfl
theorem numOf_bounds {t : List UInt8} {v : Int} (h : numOf t = some v) : -9223372036854775808 ≤ v ∧ v ≤ 9223372036854775807 := by
  unfold numOf at h
  split at h
  · rename_i u hu
    have := Go.Lib.parseIntB_bounds hu
    split at h
    · simp at h; subst h; simp at this; omega
    · simp at h
  · simp at h
theorem atoi_bounds {t : List UInt8} {v : Int} (h : atoiAll t = .ok v) : -9223372036854775808 ≤ v ∧ v ≤ 9223372036854775807 := by
  rw [← Go.Lib.parseIntB_64] at h
  have := Go.Lib.parseIntB_bounds h
  simp at this
  omega
theorem numsOf_len (ws : List (List UInt8)) : ∀ l, numsOf ws = some l → l.length = ws.length := by
  intro l h
  have := numsOf_some ws l h
  rw [this]; simp
theorem numsOf_take (ws : List (List UInt8)) (k : Nat) (hk : k < ws.length) (l : List Int) (h : numsOf (ws.take k) = some l) :
    numsOf (ws.take (k + 1)) = (numOf ws[k]).map fun v => l ++ [v] := by
  induction ws generalizing k l with
  | nil => simp at hk
  | cons t ws ih =>
    cases k with
    | zero =>
      simp [numsOf] at h
      subst h
      simp [numsOf]
      cases numOf t <;> rfl
    | succ k =>
      simp only [List.take_succ_cons, List.getElem_cons_succ] at h ⊢
      unfold numsOf at h ⊢
      cases hn : numOf t with
      | none => rw [hn] at h; simp at h
      | some u =>
        rw [hn] at h
        simp only at h ⊢
        rw [Option.map_eq_some_iff] at h
        obtain ⟨l', h1, rfl⟩ := h
        have hk' : k < ws.length := by simpa using hk
        rw [ih k hk' l' h1]
        cases numOf ws[k] <;> rfl
/-- a word that is no number: none of them is -/
theorem numsOf_stop (ws : List (List UInt8)) (k : Nat) (h : numsOf (ws.take k) = none) : numsOf ws = none := by
  induction ws generalizing k with
  | nil => simp [numsOf] at h
  | cons t ws ih =>
    cases k with
    | zero => simp [numsOf] at h
    | succ k =>
      simp only [List.take_succ_cons] at h
      unfold numsOf at h ⊢
      cases hn : numOf t with
      | none => rfl
      | some u =>
        rw [hn] at h
        simp only [Option.map_eq_none_iff] at h ⊢
        exact ih k h
theorem take_all {α : Type} (l : List α) (k : Nat) (h : k = l.length) : l.take k = l := by rw [h]; exact List.take_length

theorem glue_flat (x : List UInt8) (ws : List (List UInt8)) : glue (x :: ws) = x ++ ws.flatMap (fun t => 32 :: t) := by
  induction ws generalizing x with
  | nil => rw [glue_one]; simp
  | cons y l ih => rw [glue_cons, ih y]; simp
/-- a text behind its first k numbers -/
def partT (x : List UInt8) (l : List Int) (k : Nat) : List UInt8 := x ++ (l.take k).flatMap (fun n => 32 :: itoa n)
theorem partT_zero (x : List UInt8) (l : List Int) : partT x l 0 = x := by simp [partT]
theorem partT_next (x : List UInt8) (l : List Int) (k : Nat) (hk : k < l.length) : partT x l (k + 1) = partT x l k ++ 32 :: itoa l[k] := by
  unfold partT
  rw [List.take_succ_eq_append_getElem hk, List.flatMap_append, ← List.append_assoc]
  simp
theorem partT_all (x : List UInt8) (l : List Int) : partT x l l.length = glue (x :: l.map itoa) := by
  unfold partT
  rw [glue_flat, List.take_length, List.flatMap_map]
theorem partT_len (x : List UInt8) (l : List Int) (k : Nat) : (partT x l k).length ≤ (glue (x :: l.map itoa)).length := by
  rw [glue_flat, List.flatMap_map]
  unfold partT
  have e : l.flatMap (fun n => 32 :: itoa n) = (l.take k).flatMap (fun n => 32 :: itoa n) ++ (l.drop k).flatMap (fun n => 32 :: itoa n) := by
    rw [← List.flatMap_append, List.take_append_drop]
  have e2 : List.flatMap (fun a => (fun t => (32 : UInt8) :: t) (itoa a)) l = l.flatMap (fun n => 32 :: itoa n) := rfl
  rw [e2, e]
  simp
/-! strings as byte arrays -/
theorem bytes_eq (s : ByteArray) : (⟨s.data.toList.toArray⟩ : ByteArray) = s := by cases s; rfl
theorem bytes_app (a b : List UInt8) : (⟨a.toArray⟩ : ByteArray) ++ ⟨b.toArray⟩ = ⟨(a ++ b).toArray⟩ := by
  apply ByteArray.ext
  simp
theorem bytes_inj {a b : List UInt8} (h : (⟨a.toArray⟩ : ByteArray) = ⟨b.toArray⟩) : a = b := by
  have := congrArg (fun x : ByteArray => x.data.toList) h
  simpa using this
theorem bytes_size (a : List UInt8) : (⟨a.toArray⟩ : ByteArray).size = a.length := rfl
theorem bytes_list (a : List UInt8) : (⟨a.toArray⟩ : ByteArray).toList = a := Go.Lib.toList_data _
theorem bytes_ne {a b : List UInt8} (h : a ≠ b) : ((⟨a.toArray⟩ : ByteArray).toList == (⟨b.toArray⟩ : ByteArray).toList) = false := by
  rw [bytes_list, bytes_list]
  simpa using h
theorem bytes_same {a b : List UInt8} (h : a = b) : ((⟨a.toArray⟩ : ByteArray).toList == (⟨b.toArray⟩ : ByteArray).toList) = true := by
  subst h
  simp
end Orangery

/- Plain facts on lines: strings.SplitAfter at a line feed, piece by piece. -/
namespace Orangery
open Go.Lib (index splitK count splitB countB)

theorem index_lf_nil : index [] [10] = -1 := rfl
theorem index_lf (c : UInt8) (r : List UInt8) : index (c :: r) [10] = if c = 10 then 0 else if index r [10] = -1 then -1 else index r [10] + 1 := by
  have e : index (c :: r) [10] = if List.isPrefixOf [10] (c :: r) then 0 else if index r [10] == -1 then -1 else index r [10] + 1 := rfl
  rw [e]
  by_cases h : c = 10
  · subst h; simp [List.isPrefixOf]
  · have h2 : (10 == c) = false := by simp; exact fun e => h e.symm
    simp [List.isPrefixOf, h, h2]
theorem lineOf_index (s : List UInt8) : lineOf s = if index s [10] = -1 then none else some (s.take (index s [10]).toNat, s.drop ((index s [10]).toNat + 1)) := by
  induction s with
  | nil => rfl
  | cons c r ih =>
    unfold lineOf
    rw [index_lf]
    by_cases h : c = 10
    · rw [if_pos h, if_pos h]; simp
    · rw [if_neg h, if_neg h, ih]
      have hge := Go.Lib.index_ge r [10]
      by_cases h2 : index r [10] = -1
      · rw [if_pos h2, if_pos h2]; rfl
      · rw [if_neg h2, if_neg h2, if_neg (by omega)]
        have h5 : (index r [10] + 1).toNat = (index r [10]).toNat + 1 := by omega
        rw [h5]
        rfl
/-- the pieces of a text, each with its line feed -/
def pcs : Nat → List UInt8 → List (List UInt8)
  | 0, s => [s]
  | k + 1, s => match lineOf s with
    | none => [s]
    | some (t, r) => (t ++ [10]) :: pcs k r
theorem splitK_pcs (k : Nat) : ∀ s : List UInt8, splitK [10] 1 k s = pcs k s := by
  induction k with
  | zero => intro s; rfl
  | succ k ih =>
    intro s
    unfold splitK pcs
    have hl := lineOf_index s
    by_cases h : index s [10] = -1
    · rw [if_pos h] at hl
      rw [hl, h]
      rfl
    · rw [if_neg h] at hl
      rw [hl, if_neg (by simpa using h), ih]
      simp only [List.length_cons, List.length_nil]
      refine congrArg (· :: _) ?_
      obtain ⟨e, _⟩ := lineOf_some hl
      have hlen := lineOf_len hl
      generalize (index s [10]).toNat = n at *
      have ht : (s.take n).length = n := by
        simp only [List.length_take, List.length_drop] at hlen ⊢
        omega
      have hn : n < s.length := by
        simp only [List.length_take, List.length_drop] at hlen ht
        omega
      have e2 : s[n] = 10 := by
        have : s[n]? = some 10 := by
          rw [e, List.getElem?_append_right (by omega), ht]
          simp
        rw [List.getElem?_eq_getElem hn] at this
        simpa using this
      rw [List.take_succ_eq_append_getElem hn, e2]
/-- the lines of pieces: them as records, bytes, what is wrong -/
def runP : Nat → List (List UInt8) → List Rc × Nat × Int
  | _, [] => ([], 0, 0)
  | m, t :: ps => if t = [] then ([], 0, 0) else if t.getLast? ≠ some 10 then ([], 0, 8)
    else if readE t.dropLast ≠ 0 then ([], 0, readE t.dropLast) else if m = 0 then ([], 0, 2)
    else (readR t.dropLast :: (runP (m - 1) ps).1, t.length + (runP (m - 1) ps).2.1, (runP (m - 1) ps).2.2)
theorem lineOf_count {s t r : List UInt8} (h : lineOf s = some (t, r)) : s.count 10 = r.count 10 + 1 := by
  obtain ⟨e, hn⟩ := lineOf_some h
  rw [e, List.count_append, List.count_cons_self, List.count_eq_zero.2 (fun hm => hn 10 hm rfl)]
  omega
theorem lineOf_no {s : List UInt8} (h : lineOf s = none) : ∀ c ∈ s, c ≠ 10 := by
  induction s with
  | nil => simp
  | cons c r ih =>
    unfold lineOf at h
    split at h
    · simp at h
    · rename_i h1
      simp at h
      intro d hd
      rcases List.mem_cons.1 hd with rfl | hd
      · exact h1
      · exact ih h d hd
theorem run_pcs (k : Nat) : ∀ (m : Nat) (s : List UInt8), s.count 10 ≤ k → runP m (pcs k s) = linesR (s.length + 1) m s := by
  induction k with
  | zero =>
    intro m s h
    have hn : lineOf s = none := by
      cases hl : lineOf s with
      | none => rfl
      | some x => have := lineOf_count (s := s) (t := x.1) (r := x.2) hl; omega
    unfold pcs runP linesR
    by_cases hs : s = []
    · rw [if_pos hs, if_pos hs]
    · rw [if_neg hs, if_neg hs, hn]
      have : s.getLast? ≠ some 10 := fun e => lineOf_no hn 10 (List.mem_of_getLast? e) rfl
      rw [if_pos this]
  | succ k ih =>
    intro m s h
    unfold pcs linesR
    cases hl : lineOf s with
    | none =>
      simp only
      unfold runP
      by_cases hs : s = []
      · rw [if_pos hs, if_pos hs]
      · rw [if_neg hs, if_neg hs]
        have : s.getLast? ≠ some 10 := fun e => lineOf_no hl 10 (List.mem_of_getLast? e) rfl
        rw [if_pos this]
    | some x =>
      obtain ⟨t, r⟩ := x
      have hc := lineOf_count hl
      have hlen := lineOf_len hl
      have hs : s ≠ [] := by intro e; subst e; simp [lineOf] at hl
      simp only
      rw [if_neg hs]
      unfold runP
      rw [if_neg (by simp), if_neg (by simp)]
      have e1 : (t ++ [10]).dropLast = t := by simp
      rw [e1, ih (m - 1) r (by omega), ← lines_fuel s.length (m - 1) r (by omega)]
      simp
/-- strings.SplitAfter at a line feed, as the library's law says it -/
theorem splitB_pcs (s : ByteArray) : (splitB ⟨#[10]⟩ 1 (countB s ⟨#[10]⟩) s).map (·.data.toList) = pcs (s.data.toList.count 10) s.data.toList := by
  rw [Go.Lib.splitB_data]
  have e : countB s ⟨#[10]⟩ = s.data.toList.count 10 := Go.Lib.count_one 10 _
  rw [e]
  exact splitK_pcs _ _
theorem pcs_len (k : Nat) : ∀ s : List UInt8, (pcs k s).length ≤ k + 1 := by
  induction k with
  | zero => intro s; simp [pcs]
  | succ k ih =>
    intro s
    unfold pcs
    split
    · simp
    · rename_i t r _
      have := ih r
      simp; omega
theorem pcs_small (k : Nat) : ∀ s : List UInt8, ∀ t ∈ pcs k s, t.length ≤ s.length := by
  induction k with
  | zero => intro s t ht; simp [pcs] at ht; subst ht; exact Nat.le_refl _
  | succ k ih =>
    intro s t ht
    unfold pcs at ht
    split at ht
    · simp at ht; subst ht; exact Nat.le_refl _
    · rename_i u r hl
      have hlen := lineOf_len hl
      rcases List.mem_cons.1 ht with rfl | ht
      · simp; omega
      · have := ih r t ht; omega
end Orangery

