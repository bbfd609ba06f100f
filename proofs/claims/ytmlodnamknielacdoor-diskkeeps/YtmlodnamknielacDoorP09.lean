/- 6 texts of the proof: disk.Put. slices.Grow of nothing, slices.Concat at records in memory. disk.Recover. disk.Crash. slices.EqualFunc at records. A store of a value of two cells. -/
import Derived.Deep.RegionHeld3
import Derived.Deep.DeepCutAuto
import Derived.Lib.AppendZerosOnto
import Derived.Laws.AppendOwnNone
import Derived.Test.YtmlodnamknielacDoorP08
import Derived.Test.YtmlodnamknielacDoorP07
import Derived.Test.YtmlodnamknielacDoorP04
/- disk.Put. -/
namespace Go.Proofs.YtmlodnamknielacDoor
open Go.ChangeShapes Go.WideShapes Go.ChangeAt Go.RowKit
open Orangery (Mv Rc noRec noOp lnL lnN lnE diskE putE recT recText checkRec)

/-- chapter 7's Put -/
def putAll (s t : List UInt8) (r : Rc) : Int := if diskE s t ≠ 0 then diskE s t else putE s t r
def putS (s t : List UInt8) (r : Rc) : List UInt8 := if putAll s t r ≠ 0 then [] else s
def putT (s t : List UInt8) (r : Rc) : List UInt8 := if putAll s t r ≠ 0 then [] else t ++ (recT r ++ [10])
theorem put_not {s t : List UInt8} {r : Rc} {E : Int} (h : putAll s t r = E) (he : E ≠ 0) : putS s t r = [] ∧ putT s t r = [] := by
  unfold putS putT
  rw [h, if_pos he, if_pos he]
  exact ⟨rfl, rfl⟩
theorem put_bad {s t : List UInt8} {r : Rc} (h : diskE s t ≠ 0) : putAll s t r = diskE s t := by unfold putAll; rw [if_pos h]
theorem put_rec {s t : List UInt8} {r : Rc} (h : diskE s t = 0) (h2 : checkRec r ≠ 0) : putAll s t r = checkRec r := by
  unfold putAll putE; rw [if_neg (by simpa using h), if_pos h2]
theorem put_many {s t : List UInt8} {r : Rc} (h : diskE s t = 0) (h2 : checkRec r = 0) (h3 : 60000 < s.length + t.length + ((recT r ++ [10]).length)) : putAll s t r = 2 := by
  unfold putAll putE; rw [if_neg (by simpa using h), if_neg (by simpa using h2), if_pos (by simp at h3; omega)]
theorem put_ok {s t : List UInt8} {r : Rc} (h : diskE s t = 0) (h2 : checkRec r = 0) (h3 : ¬ 60000 < s.length + t.length + ((recT r ++ [10]).length)) : putAll s t r = 0 ∧ putS s t r = s ∧ putT s t r = t ++ (recT r ++ [10]) := by
  have e : putAll s t r = 0 := by unfold putAll putE; rw [if_neg (by simpa using h), if_neg (by simpa using h2), if_neg (by simp at h3; omega)]
  refine ⟨e, ?_, ?_⟩
  · unfold putS; rw [e, if_neg (by simp)]
  · unfold putT; rw [e, if_neg (by simp)]
theorem str_cells (l : List UInt8) : Lib.strCells ⟨l.toArray⟩ = l.flatMap btC := by
  unfold Lib.strCells
  induction l with
  | nil => rfl
  | cons b l ih => simp [btC] at ih ⊢; exact ih

set_option maxHeartbeats 4000000 in
set_option maxRecDepth 100000 in
theorem kput_any (w : World) (v : Value) (s t : List UInt8) (k u f : Int) (a3 : Option Addr) (c3 : Nat) (R : List Int) (o : Mv) (h : DkIs w v s t) (hl : R.length ≤ maxLen) (hn : a3 = none → c3 = 0) (hI : SlI w a3 R) (hv : Vars w) :
    Calls Tryd.prog 16 #[v, rcV k u f (.slice a3 R.length c3) o] w fun e w' => (∃ v', e = .returned (.tuple #[v', .int .i64 (putAll s t (k, u, f, R, o))]) ∧ DkNew w.heap.size w' v' (putS s t (k, u, f, R, o)) (putT s t (k, u, f, R, o))) ∧ Below w.heap.size w w' := by
  obtain ⟨i0, hi, hz0, hz1, hz2⟩ := info_parts infoByte
  obtain ⟨a, c, a', c', rfl, h1, h2⟩ := h
  have H1 := Lib.hid h1
  have H2 := Lib.hid h2
  have HV := Lib.hid hv
  have HI := Lib.hid hI
  have HN := Lib.hid hn
  have HL := Lib.hid hl
  clear h1 h2 hv hI hn hl
  go_enter Tryd.func16, Tryd.ntmps16
  go_wp2_with fail
  obtain ⟨W0, hW, hA, hC, hR, hB, -⟩ := laid3 w [.slice a s.length c, .slice a' t.length c'] 41 [Value.int IntKind.i64 k, .int .i64 u, .int .i64 f, .slice a3 R.length c3, .int .i64 o.1, .int .i64 o.2.1, .int .i64 o.2.2.1.1, .int .i64 o.2.2.1.2.1, .int .i64 o.2.2.1.2.2, .int .i64 o.2.2.2.1, .int .i64 o.2.2.2.2] 28 [.slice none 0 0, .slice none 0 0] 41
  rw [hW]
  clear hW
  refine (kcheck_any W0 _ s t ⟨a, c, a', c', rfl, H1.out.keep hB, H2.out.keep hB⟩ (HV.out.on hB)).mono ?_
  rintro e w1 ⟨rfl, hb⟩
  have hA1 := hA.keep hb
  have hC1 := hC.keep hb
  have hR1 := hR.keep hb
  have HB1 := Lib.hid (hB.trans (hb.mono hB.size))
  clear hA hC hR hB hb
  by_cases hd : diskE s t = 0
  case neg =>
    have HP := Lib.hid (put_bad (r := (k, u, f, R, o)) hd)
    have HE := Lib.hid (put_not HP.out hd)
    have d1 : (diskE s t != 0) = true := by simpa using hd
    generalize diskE s t = E at *
    have r0 := hR1.at 0 rfl
    have r1 := hR1.at 1 rfl
    have rf := hR1.frz
    clear hd
    go_wp2
    refine ret_cell_tmp Tryd.results16 rfl rfl ((hR1.sets [.slice none 0 0, .slice none 0 0] rfl).load Tryd.underlying41 rfl sizeDisk) ?_
    rw [HE.out.1, HE.out.2, HP.out]
    exact ⟨⟨_, rfl, dkNew_none _ _⟩, below_sets HB1.out (w.heap.size + 1 + 1) (by omega) [.slice none 0 0, .slice none 0 0] 0⟩
  have hfit := disk_fits hd
  have HD : Hid (diskE s t = 0) := hd
  rw [hd]
  clear hd
  have y0 := hC1.at 0 rfl
  have y1 := hC1.at 1 rfl
  have y2 := hC1.at 2 rfl
  have y3 := hC1.at 3 rfl
  have y4 := hC1.at 4 rfl
  have y5 := hC1.at 5 rfl
  have y6 := hC1.at 6 rfl
  have y7 := hC1.at 7 rfl
  have y8 := hC1.at 8 rfl
  have y9 := hC1.at 9 rfl
  have y10 := hC1.at 10 rfl
  go_wp2_with fail
  refine (nprint_any w1 k u f a3 c3 R o HL.out HN.out (HI.out.below HB1.out) (HV.out.on HB1.out)).mono ?_
  rintro e w2 ⟨rfl, hb⟩
  have hA2 := hA1.keep hb
  have hR2 := hR1.keep hb
  have HB2 := Lib.hid (HB1.out.trans (hb.mono HB1.out.size))
  clear hA1 hC1 hR1 HB1 hb y0 y1 y2 y3 y4 y5 y6 y7 y8 y9 y10
  by_cases hc : checkRec (k, u, f, R, o) = 0
  case neg =>
    have HP := Lib.hid (put_rec HD.out hc)
    have HE := Lib.hid (put_not HP.out hc)
    have d1 : (checkRec (k, u, f, R, o) != 0) = true := by simpa using hc
    generalize checkRec (k, u, f, R, o) = E at *
    generalize recText (k, u, f, R, o) = T at *
    have r0 := hR2.at 0 rfl
    have r1 := hR2.at 1 rfl
    have rf := hR2.frz
    clear hc
    go_wp2
    refine ret_cell_tmp Tryd.results16 rfl rfl ((hR2.sets [.slice none 0 0, .slice none 0 0] rfl).load Tryd.underlying41 rfl sizeDisk) ?_
    rw [HE.out.1, HE.out.2, HP.out]
    exact ⟨⟨_, rfl, dkNew_none _ _⟩, below_sets HB2.out (w.heap.size + 1 + 1) (by omega) [.slice none 0 0, .slice none 0 0] 0⟩
  have HC : Hid (checkRec (k, u, f, R, o) = 0) := hc
  have hT := Orangery.recT_len hc
  rw [hc, recText_ok hc]
  obtain ⟨T, hTe⟩ : ∃ T, recT (k, u, f, R, o) = T := ⟨_, rfl⟩
  have HT : Hid (recT (k, u, f, R, o) = T) := hTe
  rw [hTe] at hT ⊢
  clear hc hTe
  have d9 : ¬ 9223372036854775807 < T.length + 1 := by omega
  have x0 := hA2.at 0 rfl
  have x1 := hA2.at 1 rfl
  go_wp2_with fail
  rw [show Value.string ((⟨T.toArray⟩ : ByteArray) ++ ⟨#[10]⟩) = txV (T ++ [10]) from congrArg Value.string (Orangery.bytes_app T [10])]
  refine (ksize_any w2 _ s t ⟨a, c, a', c', rfl, H1.out.keep HB2.out, H2.out.keep HB2.out⟩).mono ?_
  rintro e w3 ⟨rfl, hb⟩
  have hA3 := hA2.keep hb
  have hR3 := hR2.keep hb
  have HB3 := Lib.hid (HB2.out.trans (hb.mono HB2.out.size))
  have hz3 : w.heap.size + 1 + 1 < w3.heap.size := hR3.lt
  clear x0 x1 hA2 hR2 HB2 hb d9
  obtain ⟨Z, hZ⟩ : ∃ Z, T ++ [10] = Z := ⟨_, rfl⟩
  have hZl : Z.length ≤ 177 := by rw [← hZ]; simp; omega
  have HZ : Hid (recT (k, u, f, R, o) ++ [10] = Z) := by show _ = _; rw [HT.out, hZ]
  rw [hZ]
  clear hZ hT HT
  have hZs : (⟨Z.toArray⟩ : ByteArray).size = Z.length := Orangery.bytes_size Z
  by_cases hbig : 60000 < s.length + t.length + Z.length
  · have HP : Hid (putAll s t (k, u, f, R, o) = 2) := put_many HD.out HC.out (by rw [HZ.out]; exact hbig)
    have HE := Lib.hid (put_not HP.out (by decide))
    have d1 : decide ((s.length : Int) + (t.length : Int) + (Z.length : Int) > 60000) = true := by simp; omega
    have r0 := hR3.at 0 rfl
    have r1 := hR3.at 1 rfl
    have rf := hR3.frz
    clear hbig
    go_wp2
    refine ret_cell_tmp Tryd.results16 rfl rfl ((hR3.sets [.slice none 0 0, .slice none 0 0] rfl).load Tryd.underlying41 rfl sizeDisk) ?_
    rw [HE.out.1, HE.out.2, HP.out]
    exact ⟨⟨_, rfl, dkNew_none _ _⟩, below_sets HB3.out (w.heap.size + 1 + 1) (by omega) [.slice none 0 0, .slice none 0 0] 0⟩
  have d1 : decide ((s.length : Int) + (t.length : Int) + (Z.length : Int) > 60000) = false := by simp; omega
  have HP := Lib.hid (put_ok HD.out HC.out (by rw [HZ.out]; exact hbig))
  rw [HZ.out] at HP
  have hbig' : s.length + t.length + Z.length ≤ 60000 := by omega
  clear hbig
  go_upto_region 10 with fail
  have HA : Hid (Blk w3 w.heap.size [.slice a s.length c, .slice a' t.length c']) := hA3
  have HR : Hid (Blk w3 (w.heap.size + 1 + 1) [.slice none 0 0, .slice none 0 0]) := hR3
  clear hA3 hR3
  have hS' : Blk w3.drew w.heap.size [.slice a s.length c, .slice a' t.length c'] ∧ Below w.heap.size w w3.drew := ⟨HA.out.drew, HB3.out.drew⟩
  refine wp_region_held_drew (S := fun w' => Blk w' w.heap.size [.slice a s.length c, .slice a' t.length c'] ∧ Below w.heap.size w w') (by kernel_rfl) hS' (fun hHeld => ?_)
  refine take_yes 0 34 (v := ?_) rfl rfl (by kernel_rfl) (by kernel_rfl) (by kernel_rfl) (fun _ _ _ h => h) (by rfl) ?_ hHeld ?_
  rotate_left 1
  · (intro w hSw; go_simp; try with_reducible rfl)
  simp only [Act.put, List.setIfInBounds_toArray, List.set_cons_succ, List.set_cons_zero]
  refine take_yes 1 35 (v := ?_) rfl rfl (by kernel_rfl) (by kernel_rfl) (by kernel_rfl) (fun _ _ _ h => h) (by rfl) ?_ hHeld ?_
  rotate_left 1
  · (intro w hSw; have z0 := hSw.1.at 0 rfl; go_simp; try with_reducible rfl)
  simp only [Act.put, List.setIfInBounds_toArray, List.set_cons_succ, List.set_cons_zero]
  refine take_yes 3 37 (v := ?_) rfl rfl (by kernel_rfl) (by kernel_rfl) (by kernel_rfl) (fun _ _ _ h => h) (by rfl) ?_ hHeld ?_
  rotate_left 1
  · (intro w hSw; go_simp; try with_reducible rfl)
  simp only [Act.put, List.setIfInBounds_toArray, List.set_cons_succ, List.set_cons_zero]
  refine take_yes 4 38 (v := ?_) rfl rfl (by kernel_rfl) (by kernel_rfl) (by kernel_rfl) (fun _ _ _ h => h) (by rfl) ?_ hHeld ?_
  rotate_left 1
  · (intro w hSw; have z1 := hSw.1.at 1 rfl; go_simp; try with_reducible rfl)
  simp only [Act.put, List.setIfInBounds_toArray, List.set_cons_succ, List.set_cons_zero]
  refine take_yes 6 40 (v := ?_) rfl rfl (by kernel_rfl) (by kernel_rfl) (by kernel_rfl) (fun _ _ _ h => h) (by rfl) ?_ hHeld ?_
  rotate_left 1
  · (intro w hSw; go_simp; try with_reducible rfl)
  simp only [Act.put, List.setIfInBounds_toArray, List.set_cons_succ, List.set_cons_zero]
  refine wpAnyH_ready (rs := [2]) (by kernel_rfl) (by simp) ?_
  refine AllReadyH.cons rfl (fun K hK => ?_) AllReadyH.nil
  go_simp
  refine (bclone_any _ a c s (by omega) (H1.out.keep hS'.2).reads).mono ?_
  rintro e w4 ⟨v4, rfl, hO4, hb⟩
  have hS4 : Blk w4 w.heap.size [.slice a s.length c, .slice a' t.length c'] ∧ Below w.heap.size w w4 := ⟨hS'.1.keep hb, hS'.2.trans (hb.mono (Below.size hS'.2))⟩
  have hR4 := (HR.out.drew).keep hb
  have hz4 : w3.heap.size ≤ w4.heap.size := hb.size
  obtain ⟨a4, c4, rfl, -⟩ := OwnB.bs hO4 (by omega)
  clear hb hS' HR HB3
  go_wp2_with fail
  refine hK.out _ _ hS4 (fun hHeld => ?_)
  clear hK K
  refine wpAnyH_ready (rs := [5]) (by kernel_rfl) (by simp) ?_
  refine AllReadyH.cons rfl (fun K hK => ?_) AllReadyH.nil
  go_simp
  refine (bclone_any w4 a' c' t (by omega) (H2.out.keep hS4.2).reads).mono ?_
  rintro e w5 ⟨v5, rfl, hO5, hb⟩
  have hS5 : Blk w5 w.heap.size [.slice a s.length c, .slice a' t.length c'] ∧ Below w.heap.size w w5 := ⟨hS4.1.keep hb, hS4.2.trans (hb.mono (Below.size hS4.2))⟩
  have hR5 := hR4.keep hb
  have HO4 := Lib.hid (OwnE.keep hO4 hb)
  have HB45 := Lib.hid hb
  have HO4w := Lib.hid hO4
  obtain ⟨a5, c5, rfl, -⟩ := OwnB.bs hO5 (by omega)
  clear hb hS4 hO4 hR4
  go_wp2_with fail
  refine hK.out _ _ hS5 (fun hHeld => ?_)
  clear hK K
  have hown5 : w5.ownsRow w4.heap.size 5 1 (.slice a5 t.length c5) t.length (t.flatMap btC) := hO5
  refine step_append_text 7 41 39 9 (by kernel_rfl) rfl rfl (by rfl) (by rfl) w4.heap.size 5 i0 Tryd.underlying39 Tryd.underlying9 hi hz0 hz1 hz2 _ t.length (t.flatMap btC) (by rfl) hown5 ⟨Z.toArray⟩ (by rfl) (by rw [hZs]; unfold maxLen; omega) (by rw [hZs]; omega) HB45.out.size (fun v6 w6 hown6 hgrow => ?_)
  have hgb : ∀ g, (Value.slice a5 t.length c5).ownBlock = some g → w4.heap.size ≤ g := fun g hg => (hown5.lt g hg).1
  have hb6 := below_grown hown5 HB45.out.size hgrow
  have hS6 : Blk w6 w.heap.size [.slice a s.length c, .slice a' t.length c'] ∧ Below w.heap.size w w6 := ⟨hS5.1.grown hgrow (by intro e; have := hgb _ e.symm; omega), hS5.2.trans (hb6.mono (by omega))⟩
  refine ⟨hS6, ?_⟩
  have hHeld := hS6
  have hR6 := hR5.grown hgrow (by intro e; have := hgb _ e.symm; omega)
  have HO46 := Lib.hid (OwnE.keep HO4w.out (HB45.out.trans hb6))
  obtain ⟨q, hq⟩ : ∃ q, q = t ++ Z := ⟨_, rfl⟩
  have hql : q.length ≤ 60000 := by rw [hq]; simp; omega
  have hO6 : OwnB w6 w4.heap.size v6 q := by
    show World.ownsRow _ _ _ _ _ _ _
    rw [hq, List.length_append, List.flatMap_append, ← str_cells Z, ← hZs]
    exact hown6
  have HQ : Hid (t ++ Z = q) := hq.symm
  obtain ⟨a6, c6, rfl, -⟩ := OwnB.bs hO6 (by omega)
  have HO6 := Lib.hid hO6
  clear hq hO6 hown6 hown5 hgrow hgb hb6 hS5 hR5 HO4 HO4w HB45 hO5
  simp only [Act.put, List.setIfInBounds_toArray, List.set_cons_succ, List.set_cons_zero]
  refine take_yes 8 42 (v := ?_) rfl rfl (by kernel_rfl) (by kernel_rfl) (by kernel_rfl) (fun _ _ _ h => h) (by rfl) ?_ hHeld ?_
  rotate_left 1
  · (intro w hSw; go_simp; try with_reducible rfl)
  simp only [Act.put, List.setIfInBounds_toArray, List.set_cons_succ, List.set_cons_zero]
  refine step_store 9 41 (w.heap.size + 1 + 1) [.slice a4 s.length c4, .slice a6 q.length c6] (by kernel_rfl) rfl rfl (by rfl) (by rfl) (by rfl) (by rfl) hR6.there sizeDisk ?_ ?_ ?_
  · intro v hv; simp at hv; rcases hv with rfl | rfl <;> rfl
  · exact (show Blk (w6.setCells (w.heap.size + 1 + 1) 0 [.slice a4 s.length c4, .slice a6 q.length c6]) w.heap.size [.slice a s.length c, .slice a' t.length c'] ∧ Below w.heap.size w (w6.setCells (w.heap.size + 1 + 1) 0 [.slice a4 s.length c4, .slice a6 q.length c6]) from ⟨hS6.1.others (by omega) _ 0, below_sets hS6.2 (w.heap.size + 1 + 1) (by omega) _ 0⟩)
  have hHeld := (show Blk (w6.setCells (w.heap.size + 1 + 1) 0 [.slice a4 s.length c4, .slice a6 q.length c6]) w.heap.size [.slice a s.length c, .slice a' t.length c'] ∧ Below w.heap.size w (w6.setCells (w.heap.size + 1 + 1) 0 [.slice a4 s.length c4, .slice a6 q.length c6]) from ⟨hS6.1.others (by omega) _ 0, below_sets hS6.2 (w.heap.size + 1 + 1) (by omega) _ 0⟩)
  refine take_yes 10 5 (v := ?_) rfl rfl (by kernel_rfl) (by kernel_rfl) (by kernel_rfl) (fun _ _ _ h => h) (by rfl) ?_ hHeld ?_
  rotate_left 1
  · (intro w hSw; go_simp; try with_reducible rfl)
  simp only [Act.put, List.setIfInBounds_toArray, List.set_cons_succ, List.set_cons_zero]
  refine wpAnyH_done (by kernel_rfl) ?_ _
  have hRf := hR6.sets [.slice a4 s.length c4, .slice a6 q.length c6] rfl
  go_wp2
  refine ret_cell_tmp Tryd.results16 rfl rfl (hRf.load Tryd.underlying41 rfl sizeDisk) ?_
  rw [HP.out.1, HP.out.2.1, HP.out.2.2, HQ.out]
  refine ⟨⟨_, rfl, a4, c4, a6, c6, rfl, ?_, ?_, from_mono (OwnB.from HO46.out) (by show _ ≤ w3.heap.size; omega), from_mono (OwnB.from HO6.out) (by omega)⟩, below_sets hS6.2 (w.heap.size + 1 + 1) (by omega) [.slice a4 s.length c4, .slice a6 q.length c6] 0⟩
  · exact OwnB.bsi (OwnE.others (w.heap.size + 1 + 1) (by show _ < w3.heap.size; omega) [.slice a4 s.length c4, .slice a6 q.length c6] 0 _ HO46.out) (by omega)
  · exact OwnB.bsi (OwnE.others (w.heap.size + 1 + 1) (by omega) [.slice a4 s.length c4, .slice a6 q.length c6] 0 _ HO6.out) (by omega)
end Go.Proofs.YtmlodnamknielacDoor

/- slices.Grow of nothing, slices.Concat at records in memory. -/
namespace Go.Proofs.YtmlodnamknielacDoor
open Go.ChangeShapes Go.WideShapes Go.ChangeAt Go.RowKit

set_option maxHeartbeats 1000000 in
set_option maxRecDepth 100000 in
theorem growRecs_any (w : World) (n : Nat) (hn : n ≤ 1000) :
    Calls Tryd.prog 46 #[.slice none 0 0, .int .i64 n] w
      fun e w' => ∃ v, e = .returned v ∧ OwnE rcC 11 28 w' w.heap.size v [] ∧ Below w.heap.size w w' := by
  obtain ⟨i0, hi, hz0, hz1, hz2⟩ := info_parts infoRec
  have h1 : ¬ ((n : Int) < 0) := by omega
  by_cases hp : 0 < n
  · have h4 : (n : Int) > 0 := by omega
    have hold : (Builtin.firstCells i0.size 0 (.slice none 0 0)).run Tryd.prog w.drew = .ok ([] : List Value).toArray w.drew := by simp [Builtin.firstCells]
    have hr : ∀ ty, (Builtin.append_ #[38, 3] ty #[.slice none 0 0, .int .i64 (n : Int)]).run Tryd.prog w = _ := fun ty => Lib.run_append_grow_zeros w 38 3 ty 28 i0 _ .i64 .i64 Tryd.underlying38 Tryd.underlying3 hi hz0 none 0 0 [] hold n hp (by omega) (by omega) (by omega) (by rw [hz2]; omega) (growslice_fits (by omega) (by rw [hz2]; omega))
    have hge := grownCap_ge w (0 + n) 0 28
    have hle := grownCap_le_maxLen w (0 + n) 0 28 (by unfold maxLen; omega)
    generalize grownCap w (0 + n) 0 28 = G at *
    have hle' : G ≤ 9223372036854775807 := hle
    have HO : Hid (∀ cur : Array Value, cur.size = G * 11 → OwnE rcC 11 28 (w.drew.alloc (.cells cur 28)) w.heap.size (.slice (some ⟨w.heap.size, 0, none⟩) 0 G) []) := fun cur hc =>
      ⟨rfl, Or.inr ⟨w.heap.size, G, cur, rfl, Nat.le_refl _, blk_new rfl, Nat.zero_le _, hle, hc, by simp⟩⟩
    have HB : Hid (∀ o : Obj, Below w.heap.size w (w.drew.alloc o)) := fun o => ((Below.refl _ w).drew).alloc (Nat.le_refl _) o
    have HSZ : Hid ((([] : List Value).toArray ++ Builtin.zeroCells (Value.agg #[.int .i64 0, .int .i64 0, .int .i64 0, .slice none 0 0, .int .i64 0, .int .i64 0, .int .i64 0, .int .i64 0, .int .i64 0, .int .i64 0, .int .i64 0]).cells n ++ Builtin.zeroCells (Value.agg #[.int .i64 0, .int .i64 0, .int .i64 0, .slice none 0 0, .int .i64 0, .int .i64 0, .int .i64 0, .int .i64 0, .int .i64 0, .int .i64 0, .int .i64 0]).cells (G - (0 + n))).size = G * 11) := by
      show _ = _
      rw [Array.size_append, Array.size_append, size_zeroCells, size_zeroCells]
      simp [Value.cells]
      omega
    generalize (([] : List Value).toArray ++ Builtin.zeroCells (Value.agg #[.int .i64 0, .int .i64 0, .int .i64 0, .slice none 0 0, .int .i64 0, .int .i64 0, .int .i64 0, .int .i64 0, .int .i64 0, .int .i64 0, .int .i64 0]).cells n ++ Builtin.zeroCells (Value.agg #[.int .i64 0, .int .i64 0, .int .i64 0, .slice none 0 0, .int .i64 0, .int .i64 0, .int .i64 0, .int .i64 0, .int .i64 0, .int .i64 0, .int .i64 0]).cells (G - (0 + n))) = cur at *
    clear hold
    go_enter Tryd.func46, Tryd.ntmps46
    go_wp2_with (at_builtin; refine Lib.wpList_append_run _ rfl _ _ _ _ rfl _ _ rfl rfl _ _ (hr _) ?_)
    all_goals (go_ret; exact ⟨_, rfl, HO.out cur HSZ.out, HB.out _⟩)
  · obtain rfl : n = 0 := by omega
    go_enter Tryd.func46, Tryd.ntmps46
    go_wp2
    go_ret
    exact ⟨_, rfl, OwnE.nil _ _, Below.refl _ _⟩

set_option maxHeartbeats 2000000 in
set_option maxRecDepth 100000 in
theorem concatRecs_any (w : World) (bq : Nat) (a1 a2 : Option Addr) (c1 c2 : Nat) (l1 l2 : List Rm) (hl1 : l1.length ≤ 500) (hl2 : l2.length ≤ 500) (hc1 : a1 = none → c1 = 0) (hc2 : a2 = none → c2 = 0)
    (q0 : w.cell? ⟨bq, 0, none⟩ = some (.slice a1 l1.length c1)) (q1 : w.cell? ⟨bq, 1, none⟩ = some (.slice a2 l2.length c2)) (h1 : SlE rcC w a1 l1) (h2 : SlE rcC w a2 l2) :
    Calls Tryd.prog 22 #[.slice (some ⟨bq, 0, none⟩) 2 2] w
      fun e w' => ∃ v, e = .returned v ∧ OwnE rcC 11 28 w' w.heap.size v (l1 ++ l2) ∧ Below w.heap.size w w' := by
  obtain ⟨i0, hi, hz0, hz1, hz2⟩ := info_parts infoRec
  have hbq : bq < w.heap.size := World.block_lt_of_cell? w ⟨bq, 0, none⟩ q0
  go_enter Tryd.func22, Tryd.ntmps22
  go_wp2
  go_loop [3, 11] (fun x i => ∃ k : Nat, k ≤ 2 ∧ i = .int .i64 k ∧ x = .int .i64 (if k = 0 then 0 else if k = 1 then l1.length else l1.length + l2.length : Nat)) (fun _ i => 2 - (intOf i).toNat)
  case atStart => exact ⟨0, by omega, rfl, rfl⟩
  case round =>
    obtain ⟨k, hk, rfl, rfl⟩ := hrel
    have hc : k = 0 ∨ k = 1 ∨ k = 2 := by omega
    rcases hc with rfl | rfl | rfl
    · simp only [if_true]
      have d1 : decide ((l1.length : Int) < 0) = false := by simp <;> omega
      go_wp2
      go_round
      case rel => exact ⟨1, by omega, by go_num, by simp⟩
      case measure => simp [intOf]
    · simp only [show ¬ (1 = 0) by omega, if_true, if_false]
      have d1 : decide ((l1.length : Int) + (l2.length : Int) < 0) = false := by simp <;> omega
      go_wp2
      go_round
      case rel => exact ⟨2, by omega, by go_num, by simp⟩
      case measure => simp [intOf]
    · simp only [show ¬ (2 = 0) by omega, show ¬ (2 = 1) by omega, if_false]
      have HG := growRecs_any w (l1.length + l2.length) (by omega)
      have HGG : Hid (Calls Tryd.prog 46 #[.slice none 0 0, .int .i64 (l1.length + l2.length : Nat)] w fun e w' => ∃ v, e = .returned v ∧ OwnE rcC 11 28 w' w.heap.size v [] ∧ Below w.heap.size w w') := HG
      clear HG
      go_wp2_with fail
      refine HGG.out.mono ?_
      rintro e w1 ⟨v1, rfl, hO1, hb1⟩
      clear HGG
      go_wp2
      go_loopw [6, 27] (fun v i W => ∃ k : Nat, k ≤ 2 ∧ i = .int .i64 k ∧ OwnE rcC 11 28 W w.heap.size v (if k = 0 then [] else if k = 1 then l1 else l1 ++ l2) ∧ Below w.heap.size w W) (fun _ i _ => 2 - (intOf i).toNat)
      case atStart => exact ⟨0, by omega, rfl, hO1, hb1⟩
      case round =>
        obtain ⟨k, hk, rfl, hO, hb⟩ := hrel
        have hc : k = 0 ∨ k = 1 ∨ k = 2 := by omega
        have qr0 : wr.cell? ⟨bq, 0, none⟩ = some (.slice a1 l1.length c1) := by rw [hb.cell (by exact hbq)]; exact q0
        have qr1 : wr.cell? ⟨bq, 1, none⟩ = some (.slice a2 l2.length c2) := by rw [hb.cell (by exact hbq)]; exact q1
        rcases hc with rfl | rfl | rfl
        · simp only [if_true] at hO
          cases a1 with
          | none =>
            have e1 := slE_none h1
            have e2 := hc1 rfl
            have qr0' : wr.cell? ⟨bq, 0, none⟩ = some (.slice none 0 0) := by rw [qr0, e1, e2]; rfl
            have HE : Hid (l1 = []) := e1
            clear qr0 e1 e2
            go_wp2_with (at_builtin; refine wpList_append_own_none rfl _ _ 38 rfl w.heap.size 28 i0 11 Tryd.underlying38 hi _ 0 [] rfl hO.row rfl ?_)
            go_roundw
            case rel => exact ⟨1, by omega, by go_num, by simp [HE.out]; exact hO, hb⟩
            case measure => simp [intOf]
          | some ad =>
            have hn := slE_news (h1.below hb)
            have HN : Hid (∀ j u, (l1.flatMap rcC)[j]? = some u → wr.cell? (ad.add j) = some u) := hn
            have hown : wr.ownsRow w.heap.size 28 11 u6 0 [] := hO.row
            clear hn
            go_wp2_with (at_builtin; refine wpList_append_own _ rfl _ _ 38 rfl w.heap.size 28 i0 _ 11 104 Tryd.underlying38 hi hz0 hz1 hz2 rfl (by decide) _ _ _ rfl hown ad l1.length c1 (l1.flatMap rcC) rfl (flatE_len rcC_len l1) ?c1 ?c2 ?c3 ?c4 ?c5 ?_)
            case c1 => exact HN.out
            case c2 => exact flat_oneE rcC_one l1
            case c3 => unfold maxLen; omega
            case c4 => omega
            case c5 => exact hb.size
            intro v' w4 hown' hgrow _
            have hb4 := hb.trans (below_grown hown hb.size hgrow)
            clear hgrow hown
            go_wp2
            go_roundw
            case rel => exact ⟨1, by omega, by go_num, by simp; simpa [OwnE] using hown', hb4⟩
            case measure => simp [intOf]
        · simp only [show ¬ (1 = 0) by omega, if_true, if_false] at hO
          cases a2 with
          | none =>
            have e1 := slE_none h2
            have e2 := hc2 rfl
            have qr1' : wr.cell? ⟨bq, 1, none⟩ = some (.slice none 0 0) := by rw [qr1, e1, e2]; rfl
            have HE : Hid (l2 = []) := e1
            clear qr1 e1 e2
            go_wp2_with (at_builtin; refine wpList_append_own_none rfl _ _ 38 rfl w.heap.size 28 i0 11 Tryd.underlying38 hi _ l1.length (l1.flatMap rcC) rfl hO.row rfl ?_)
            go_roundw
            case rel => exact ⟨2, by omega, by go_num, by simp [HE.out]; exact hO, hb⟩
            case measure => simp [intOf]
          | some ad =>
            have hn := slE_news (h2.below hb)
            have HN : Hid (∀ j u, (l2.flatMap rcC)[j]? = some u → wr.cell? (ad.add j) = some u) := hn
            have hown : wr.ownsRow w.heap.size 28 11 u6 l1.length (l1.flatMap rcC) := hO.row
            clear hn
            go_wp2_with (at_builtin; refine wpList_append_own _ rfl _ _ 38 rfl w.heap.size 28 i0 _ 11 104 Tryd.underlying38 hi hz0 hz1 hz2 rfl (by decide) _ _ _ rfl hown ad l2.length c2 (l2.flatMap rcC) rfl (flatE_len rcC_len l2) ?d1 ?d2 ?d3 ?d4 ?d5 ?_)
            case d1 => exact HN.out
            case d2 => exact flat_oneE rcC_one l2
            case d3 => unfold maxLen; omega
            case d4 => omega
            case d5 => exact hb.size
            intro v' w4 hown' hgrow _
            have hb4 := hb.trans (below_grown hown hb.size hgrow)
            clear hgrow hown
            go_wp2
            go_roundw
            case rel => exact ⟨2, by omega, by go_num, by simp; simpa [OwnE] using hown', hb4⟩
            case measure => simp [intOf]
        · simp only [show ¬ (2 = 0) by omega, show ¬ (2 = 1) by omega, if_false] at hO
          go_wp2
          go_ret
          exact ⟨_, rfl, hO, hb⟩
end Go.Proofs.YtmlodnamknielacDoor

/- disk.Recover. -/
namespace Go.Proofs.YtmlodnamknielacDoor
open Go.ChangeShapes Go.WideShapes Go.ChangeAt Go.RowKit
open Orangery (Mv Rc noRec noOp lnL lnN lnE diskE recovS recovL)

/-- chapter 7's Recover -/
def rcvS (s t : List UInt8) : List UInt8 := if diskE s t ≠ 0 then [] else recovS s t
def rcvL (s t : List UInt8) : List Rc := if diskE s t ≠ 0 then [] else recovL s t
theorem rcv_bad {s t : List UInt8} (h : diskE s t ≠ 0) : rcvS s t = [] ∧ rcvL s t = [] := by unfold rcvS rcvL; rw [if_pos h, if_pos h]; exact ⟨rfl, rfl⟩
theorem rcv_ok {s t : List UInt8} (h : diskE s t = 0) : rcvS s t = s ++ t.take (lnN (60 - (lnL 60 s).length) t) ∧ rcvL s t = lnL 60 s ++ lnL (60 - (lnL 60 s).length) t := by
  unfold rcvS rcvL
  rw [if_neg (by simpa using h), if_neg (by simpa using h)]
  exact ⟨rfl, rfl⟩
theorem BsIs.take {w : World} {a : Option Addr} {c : Nat} {l : List UInt8} (h : BsIs w a c l) (n : Nat) : BsIs w a c (l.take n) :=
  ⟨SlE.take h.reads n, h.none, by have := h.room; simp; omega, h.cap, by have := h.few; simp; omega⟩
theorem ownR_concat {w : World} {base : Nat} {v : Value} {X Y : List Rm} (h : OwnE rcC 11 28 w base v (X ++ Y)) (hx : ∀ x ∈ X, RootsIn 0 w x) (hy : ∀ x ∈ Y, RootsIn 0 w x) : OwnR w base v 0 (X ++ Y) :=
  ⟨h, fun x hm => by rcases List.mem_append.1 hm with h' | h'; exact hx x h'; exact hy x h'⟩

set_option maxHeartbeats 2000000 in
set_option maxRecDepth 100000 in
theorem krecover_any (w : World) (v : Value) (s t : List UInt8) (h : DkIs w v s t) (hv : Vars w) :
    Calls Tryd.prog 20 #[v] w fun e w' => (∃ (v' lv : Value) (X : List Rm), e = .returned (.tuple #[v', lv, .int .i64 (diskE s t)]) ∧ DkNew w.heap.size w' v' (rcvS s t) [] ∧ OwnR w' w.heap.size lv 0 X ∧ X.map (·.1) = rcvL s t) ∧ Below w.heap.size w w' := by
  obtain ⟨a, c, a', c', rfl, h1, h2⟩ := h
  have H1 := Lib.hid h1
  have H2 := Lib.hid h2
  have HV := Lib.hid hv
  have hroom : t.length ≤ c' := h2.room
  have hcap : c' ≤ 9223372036854775807 := h2.cap
  clear h1 h2 hv
  go_enter Tryd.func20, Tryd.ntmps20
  go_wp2_with fail
  obtain ⟨W0, hW, hA, hR, hB, -⟩ := laid2 w [.slice a s.length c, .slice a' t.length c'] 41 [.slice none 0 0, .slice none 0 0] 41
  rw [hW]
  clear hW
  refine (kcheck_any W0 _ s t ⟨a, c, a', c', rfl, H1.out.keep hB, H2.out.keep hB⟩ (HV.out.on hB)).mono ?_
  rintro e w1 ⟨rfl, hb⟩
  have hA1 := hA.keep hb
  have hR1 := hR.keep hb
  have HB1 := Lib.hid (hB.trans (hb.mono hB.size))
  clear hA hR hB hb
  by_cases hd : diskE s t = 0
  case neg =>
    have HE := Lib.hid (rcv_bad hd)
    have d1 : (diskE s t != 0) = true := by simpa using hd
    generalize hE : diskE s t = E at *
    have HEq : Hid (diskE s t = E) := hE
    have r0 := hR1.at 0 rfl
    have r1 := hR1.at 1 rfl
    have rf := hR1.frz
    clear hd hE
    go_wp2
    refine ret_cell_tmp_tmp Tryd.results20 rfl rfl rfl ((hR1.sets [.slice none 0 0, .slice none 0 0] rfl).load Tryd.underlying41 rfl sizeDisk) ?_
    rw [HE.out.1, HE.out.2, HEq.out]
    exact ⟨⟨_, _, [], rfl, dkNew_none _ _, OwnR.nil _ _ _, rfl⟩, below_sets HB1.out (w.heap.size + 1) (by omega) [.slice none 0 0, .slice none 0 0] 0⟩
  have hfit := disk_fits hd
  have HD := Lib.hid (rcv_ok hd)
  have HD0 : Hid (diskE s t = 0) := hd
  rw [hd]
  clear hd
  have x0 := hA1.at 0 rfl
  go_wp2_with fail
  refine (kread_any w1 a c s 60 (by omega) (by omega) (H1.out.keep HB1.out) (HV.out.on HB1.out)).mono ?_
  rintro e w2 ⟨⟨v2, X, a2, c2, rfl, hO, hX, hF⟩, hb⟩
  have hA2 := hA1.keep hb
  have hR2 := hR1.keep hb
  have HB2 := Lib.hid (HB1.out.trans (hb.mono HB1.out.size))
  have hz : w.heap.size + 1 < w1.heap.size := hR1.lt
  have hz2 : w1.heap.size ≤ w2.heap.size := hb.size
  clear x0 hA1 hR1 hb
  have hXl : X.length ≤ 60 := by
    have := Orangery.lnL_len 60 s
    rw [← hX] at this
    simpa using this
  rw [← hX] at HD
  rw [List.length_map] at HD
  obtain ⟨aX, cX, rfl, -, hcX, hnX⟩ := hO.val
  have HO := Lib.hid hO
  have HF := Lib.hid hF
  have HX : Hid (X.map (·.1) = lnL 60 s) := hX
  have HNX : Hid (aX = none → cX = 0) := hnX
  have e60 : (60 : Int) - (X.length : Int) = ((60 - X.length : Nat) : Int) := by omega
  clear hO hF hX hnX
  obtain ⟨m, hm⟩ : ∃ m, 60 - X.length = m := ⟨_, rfl⟩
  rw [hm] at HD e60
  have hm60 : m ≤ 60 := by omega
  clear hm
  generalize lnE 60 s = E60 at *
  generalize s.length - lnN 60 s = z60 at *
  have x1 := hA2.at 1 rfl
  go_wp2_with fail
  refine (kread_any w2 a' c' t m (by omega) hm60 (H2.out.keep HB2.out) (HV.out.on HB2.out)).mono ?_
  rintro e w3 ⟨⟨v3, Y, a3, c3, rfl, hO3, hY, hF3⟩, hb⟩
  have hA3 := hA2.keep hb
  have hR3 := hR2.keep hb
  have HB3 := Lib.hid (HB2.out.trans (hb.mono HB2.out.size))
  have HO2 := Lib.hid (HO.out.keep hb)
  have hz3 : w2.heap.size ≤ w3.heap.size := hb.size
  clear x1 hA2 hR2 hb HB2 HO
  have hYl : Y.length ≤ 60 := by
    have := Orangery.lnL_len m t
    rw [← hY] at this
    simp at this
    omega
  have hNl := Orangery.lnN_len m t
  rw [← hY] at HD
  obtain ⟨aY, cY, rfl, -, hcY, hnY⟩ := hO3.val
  have HO3 := Lib.hid hO3
  have HF3 := Lib.hid hF3
  have HNY : Hid (aY = none → cY = 0) := hnY
  clear hO3 hF3 hY hnY
  generalize lnE m t = E3 at *
  generalize lnN m t = N at *
  obtain ⟨r, hr⟩ : ∃ r, t.length - N = r := ⟨_, rfl⟩
  rw [hr]
  have eN : (t.length : Int) - (r : Int) = (N : Int) := by omega
  have hNc : N ≤ c' := by omega
  have HTk : Hid ((t.take N).length = N) := by show _ = _; simp; omega
  clear hr
  have x0 := hA3.at 0 rfl
  have x1 := hA3.at 1 rfl
  go_wp2_with fail
  obtain ⟨W4, hW, hQ, hB4, -⟩ := laid1 w3 [.slice a s.length c, .slice a' N c'] 39
  rw [hW]
  clear hW x0 x1
  have HB4 := Lib.hid (HB3.out.trans (hB4.mono HB3.out.size))
  have hR4 := hR3.keep hB4
  have HO4 := Lib.hid ((HO2.out.keep hB4))
  have HP4 := Lib.hid (HO3.out.keep hB4)
  have q1 := hQ.at 1 rfl
  rw [← HTk.out] at q1
  refine (concatBts_any W4 w3.heap.size a a' c c' s (t.take N) (by omega) (by rw [HTk.out]; omega) (H1.out).none (H2.out).none (hQ.at 0 rfl) q1 (H1.out.keep HB4.out).reads ((H2.out.keep HB4.out).take N).reads).mono ?_
  rintro e w5 ⟨v5, rfl, hO5, hb⟩
  have hR5 := hR4.keep hb
  have HB5 := Lib.hid (HB4.out.trans (hb.mono HB4.out.size))
  have HO5 := Lib.hid (HO4.out.keep hb)
  have HP5 := Lib.hid (HP4.out.keep hb)
  have hz4 : w3.heap.size < W4.heap.size := hQ.lt
  have hz5 : W4.heap.size ≤ w5.heap.size := hb.size
  obtain ⟨q, hq⟩ : ∃ q, q = s ++ t.take N := ⟨_, rfl⟩
  rw [← hq] at hO5
  have hql : q.length ≤ 60000 := by rw [hq, List.length_append, HTk.out]; omega
  have HQ : Hid (q = s ++ t.take N) := hq
  clear hq hb hQ hB4 q1 hR4 hR3 HB3 HB4 HO4 HP4 HO2 HO3 hA3
  obtain ⟨a5, c5, rfl, -⟩ := OwnB.bs hO5 (by omega)
  have HS5 := Lib.hid hO5
  clear hO5
  go_wp2_with fail
  obtain ⟨W6, hW, hQ, hB6, -⟩ := laid1 w5 [.slice aX X.length cX, .slice aY Y.length cY] 38
  rw [hW]
  clear hW
  have HB6 := Lib.hid (HB5.out.trans (hB6.mono HB5.out.size))
  have hR6 := hR5.keep hB6
  have HO6 := Lib.hid (HO5.out.keep hB6)
  have HP6 := Lib.hid (HP5.out.keep hB6)
  have HS6 := Lib.hid (OwnE.keep HS5.out hB6)
  refine (concatRecs_any W6 w5.heap.size aX aY cX cY X Y (by omega) (by omega) HNX.out HNY.out (hQ.at 0 rfl) (hQ.at 1 rfl) HO6.out.own.read HP6.out.own.read).mono ?_
  rintro e w7 ⟨v7, rfl, hO7, hb⟩
  have hR7 := hR6.keep hb
  have HB7 := Lib.hid (HB6.out.trans (hb.mono HB6.out.size))
  have HS7 := Lib.hid (OwnE.keep HS6.out hb)
  have hz6 : w5.heap.size < W6.heap.size := hQ.lt
  have HX7 : Hid (∀ x ∈ X, RootsIn 0 w7 x) := fun x hx => ((HO6.out.roots x hx).keep hb)
  have HY7 : Hid (∀ x ∈ Y, RootsIn 0 w7 x) := fun x hx => ((HP6.out.roots x hx).keep hb)
  have HO7 := Lib.hid hO7
  clear hb hQ hB6 hR5 hR6 HB5 HB6 HO5 HP5 HO6 HP6 HS5 HS6 hO7
  have r0 := hR7.at 0 rfl
  have r1 := hR7.at 1 rfl
  have rf := hR7.frz
  go_wp2
  refine ret_cell_tmp_tmp Tryd.results20 rfl rfl rfl ((hR7.sets [.slice a5 q.length c5, .slice none 0 0] rfl).load Tryd.underlying41 rfl sizeDisk) ?_
  rw [HD.out.1, HD.out.2, HD0.out]
  have hS := OwnB.bsi (OwnE.others (w.heap.size + 1) (by omega) [.slice a5 q.length c5, .slice none 0 0] 0 _ HS7.out) (by omega)
  have hL := OwnE.others (w.heap.size + 1) (by omega) [.slice a5 q.length c5, .slice none 0 0] 0 _ HO7.out
  have hL2 := ownR_concat hL (fun x hx => RootsIn.sets _ 0 _ (HX7.out x hx) (fun b off e => by have := HF.out x hx b off e; omega)) (fun x hx => RootsIn.sets _ 0 _ (HY7.out x hx) (fun b off e => by have := HF3.out x hx b off e; omega))
  rw [← HQ.out]
  refine ⟨⟨_, _, X ++ Y, rfl, ⟨a5, c5, none, 0, rfl, hS, bsIs_nil _, from_mono (OwnB.from HS7.out) (by omega), from_none⟩, ⟨hL2.own.mono (by omega), hL2.roots⟩, by simp⟩, below_sets HB7.out (w.heap.size + 1) (by omega) [.slice a5 q.length c5, .slice none 0 0] 0⟩
end Go.Proofs.YtmlodnamknielacDoor

/- disk.Crash. -/
namespace Go.Proofs.YtmlodnamknielacDoor
open Go.ChangeShapes Go.WideShapes Go.ChangeAt Go.RowKit
open Orangery (diskE)

/-- chapter 7's Crash -/
def crashE (s t : List UInt8) (n : Int) : Int := if diskE s t ≠ 0 then diskE s t else if n < 0 ∨ (t.length : Int) < n then 3 else 0
def crashS (s t : List UInt8) (n : Int) : List UInt8 := if crashE s t n ≠ 0 then [] else s
def crashT (s t : List UInt8) (n : Int) : List UInt8 := if crashE s t n ≠ 0 then [] else t.take n.toNat
theorem crash_not {s t : List UInt8} {n E : Int} (h : crashE s t n = E) (he : E ≠ 0) : crashS s t n = [] ∧ crashT s t n = [] := by
  unfold crashS crashT
  rw [h, if_pos he, if_pos he]
  exact ⟨rfl, rfl⟩
theorem crash_bad {s t : List UInt8} {n : Int} (h : diskE s t ≠ 0) : crashE s t n = diskE s t := by unfold crashE; rw [if_pos h]
theorem crash_range {s t : List UInt8} {n : Int} (h : diskE s t = 0) (h2 : n < 0 ∨ (t.length : Int) < n) : crashE s t n = 3 := by unfold crashE; rw [if_neg (by simpa using h), if_pos h2]
theorem crash_ok {s t : List UInt8} {n : Int} (h : diskE s t = 0) (h2 : ¬ (n < 0 ∨ (t.length : Int) < n)) : crashE s t n = 0 ∧ crashS s t n = s ∧ crashT s t n = t.take n.toNat := by
  have e : crashE s t n = 0 := by unfold crashE; rw [if_neg (by simpa using h), if_neg h2]
  refine ⟨e, ?_, ?_⟩
  · unfold crashS; rw [e, if_neg (by simp)]
  · unfold crashT; rw [e, if_neg (by simp)]

set_option maxHeartbeats 4000000 in
set_option maxRecDepth 100000 in
theorem kcrash_any (w : World) (v : Value) (s t : List UInt8) (n : Int) (h : DkIs w v s t) (hv : Vars w) :
    Calls Tryd.prog 18 #[v, .int .i64 n] w fun e w' => (∃ v', e = .returned (.tuple #[v', .int .i64 (crashE s t n)]) ∧ DkNew w.heap.size w' v' (crashS s t n) (crashT s t n)) ∧ Below w.heap.size w w' := by
  obtain ⟨a, c, a', c', rfl, h1, h2⟩ := h
  have H1 := Lib.hid h1
  have H2 := Lib.hid h2
  have HV := Lib.hid hv
  have hroom : t.length ≤ c' := h2.room
  have hcap : c' ≤ 9223372036854775807 := h2.cap
  clear h1 h2 hv
  go_enter Tryd.func18, Tryd.ntmps18
  go_wp2_with fail
  obtain ⟨W0, hW, hA, hR, hB, -⟩ := laid2 w [.slice a s.length c, .slice a' t.length c'] 41 [.slice none 0 0, .slice none 0 0] 41
  rw [hW]
  clear hW
  refine (kcheck_any W0 _ s t ⟨a, c, a', c', rfl, H1.out.keep hB, H2.out.keep hB⟩ (HV.out.on hB)).mono ?_
  rintro e w1 ⟨rfl, hb⟩
  have hA1 := hA.keep hb
  have hR1 := hR.keep hb
  have HB1 := Lib.hid (hB.trans (hb.mono hB.size))
  have hz1 : w.heap.size + 1 < w1.heap.size := hR1.lt
  clear hA hR hB hb
  have r0 := hR1.at 0 rfl
  have r1 := hR1.at 1 rfl
  have rf := hR1.frz
  by_cases hd : diskE s t = 0
  case neg =>
    have HP := Lib.hid (crash_bad (n := n) hd)
    have HE := Lib.hid (crash_not HP.out hd)
    have d1 : (diskE s t != 0) = true := by simpa using hd
    generalize diskE s t = E at *
    clear hd
    go_wp2
    refine ret_cell_tmp Tryd.results18 rfl rfl ((hR1.sets [.slice none 0 0, .slice none 0 0] rfl).load Tryd.underlying41 rfl sizeDisk) ?_
    rw [HE.out.1, HE.out.2, HP.out]
    exact ⟨⟨_, rfl, dkNew_none _ _⟩, below_sets HB1.out (w.heap.size + 1) (by omega) [.slice none 0 0, .slice none 0 0] 0⟩
  have hfit := disk_fits hd
  have HD : Hid (diskE s t = 0) := hd
  rw [hd]
  clear hd
  have x0 := hA1.at 0 rfl
  have x1 := hA1.at 1 rfl
  by_cases hneg : n < 0
  · have HP := Lib.hid (crash_range (s := s) HD.out (Or.inl hneg))
    have HE := Lib.hid (crash_not HP.out (by decide))
    have d1 : decide (n < 0) = true := by simpa using hneg
    go_wp2
    refine ret_cell_tmp Tryd.results18 rfl rfl ((hR1.sets [.slice none 0 0, .slice none 0 0] rfl).load Tryd.underlying41 rfl sizeDisk) ?_
    rw [HE.out.1, HE.out.2, HP.out]
    exact ⟨⟨_, rfl, dkNew_none _ _⟩, below_sets HB1.out (w.heap.size + 1) (by omega) [.slice none 0 0, .slice none 0 0] 0⟩
  by_cases hbig : (t.length : Int) < n
  · have HP := Lib.hid (crash_range (s := s) HD.out (Or.inr hbig))
    have HE := Lib.hid (crash_not HP.out (by decide))
    have d1 : decide (n < 0) = false := by simpa using hneg
    have d2 : decide (n > (t.length : Int)) = true := by simpa using hbig
    go_wp2
    refine ret_cell_tmp Tryd.results18 rfl rfl ((hR1.sets [.slice none 0 0, .slice none 0 0] rfl).load Tryd.underlying41 rfl sizeDisk) ?_
    rw [HE.out.1, HE.out.2, HP.out]
    exact ⟨⟨_, rfl, dkNew_none _ _⟩, below_sets HB1.out (w.heap.size + 1) (by omega) [.slice none 0 0, .slice none 0 0] 0⟩
  obtain ⟨j, rfl⟩ : ∃ j : Nat, n = j := ⟨n.toNat, by omega⟩
  have HP := Lib.hid (crash_ok (s := s) (t := t) (n := (j : Int)) HD.out (by omega))
  rw [Int.toNat_natCast] at HP
  have hj : j ≤ t.length := by omega
  have d1 : decide ((j : Int) < 0) = false := by simp
  have d2 : decide ((j : Int) > (t.length : Int)) = false := by simp; omega
  have hjc : j ≤ c' := by omega
  clear hneg hbig
  go_upto_region 6 with fail
  have HA : Hid (Blk w1 w.heap.size [.slice a s.length c, .slice a' t.length c']) := hA1
  have HR : Hid (Blk w1 (w.heap.size + 1) [.slice none 0 0, .slice none 0 0]) := hR1
  clear hA1 hR1 r0 r1 rf x0 x1
  have hS' : Blk w1.drew w.heap.size [.slice a s.length c, .slice a' t.length c'] ∧ Below w.heap.size w w1.drew := ⟨HA.out.drew, HB1.out.drew⟩
  refine wp_region_held_drew (S := fun w' => Blk w' w.heap.size [.slice a s.length c, .slice a' t.length c'] ∧ Below w.heap.size w w') (by kernel_rfl) hS' (fun hHeld => ?_)
  refine take_yes 0 23 (v := ?_) rfl rfl (by kernel_rfl) (by kernel_rfl) (by kernel_rfl) (fun _ _ _ h => h) (by rfl) ?_ hHeld ?_
  rotate_left 1
  · (intro w hSw; go_simp; try with_reducible rfl)
  simp only [Act.put, List.setIfInBounds_toArray, List.set_cons_succ, List.set_cons_zero]
  refine take_yes 1 24 (v := ?_) rfl rfl (by kernel_rfl) (by kernel_rfl) (by kernel_rfl) (fun _ _ _ h => h) (by rfl) ?_ hHeld ?_
  rotate_left 1
  · (intro w hSw; have z0 := hSw.1.at 0 rfl; go_simp; try with_reducible rfl)
  simp only [Act.put, List.setIfInBounds_toArray, List.set_cons_succ, List.set_cons_zero]
  refine take_yes 3 26 (v := ?_) rfl rfl (by kernel_rfl) (by kernel_rfl) (by kernel_rfl) (fun _ _ _ h => h) (by rfl) ?_ hHeld ?_
  rotate_left 1
  · (intro w hSw; go_simp; try with_reducible rfl)
  simp only [Act.put, List.setIfInBounds_toArray, List.set_cons_succ, List.set_cons_zero]
  refine take_yes 4 27 (v := ?_) rfl rfl (by kernel_rfl) (by kernel_rfl) (by kernel_rfl) (fun _ _ _ h => h) (by rfl) ?_ hHeld ?_
  rotate_left 1
  · (intro w hSw; have z1 := hSw.1.at 1 rfl; go_simp; try with_reducible rfl)
  simp only [Act.put, List.setIfInBounds_toArray, List.set_cons_succ, List.set_cons_zero]
  refine take_yes 5 28 (v := ?_) rfl rfl (by kernel_rfl) (by kernel_rfl) (by kernel_rfl) (fun _ _ _ h => h) (by rfl) ?_ hHeld ?_
  rotate_left 1
  · (intro w hSw; go_simp; try with_reducible rfl)
  simp only [Act.put, List.setIfInBounds_toArray, List.set_cons_succ, List.set_cons_zero]
  refine take_yes 6 29 (v := ?_) rfl rfl (by kernel_rfl) (by kernel_rfl) (by kernel_rfl) (fun _ _ _ h => h) (by rfl) ?_ hHeld ?_
  rotate_left 1
  · (intro w hSw; go_simp; try with_reducible rfl)
  simp only [Act.put, List.setIfInBounds_toArray, List.set_cons_succ, List.set_cons_zero]
  have HTk : Hid ((t.take j).length = j) := by show _ = _; simp; omega
  refine wpAnyH_ready (rs := [2]) (by kernel_rfl) (by simp) ?_
  refine AllReadyH.cons rfl (fun K hK => ?_) AllReadyH.nil
  go_simp
  refine (bclone_any _ a c s (by omega) (H1.out.keep hS'.2).reads).mono ?_
  rintro e w4 ⟨v4, rfl, hO4, hb⟩
  have hS4 : Blk w4 w.heap.size [.slice a s.length c, .slice a' t.length c'] ∧ Below w.heap.size w w4 := ⟨hS'.1.keep hb, hS'.2.trans (hb.mono (Below.size hS'.2))⟩
  have hR4 := (HR.out.drew).keep hb
  have hz4 : w1.heap.size ≤ w4.heap.size := hb.size
  obtain ⟨a4, c4, rfl, -⟩ := OwnB.bs hO4 (by omega)
  clear hb hS' HR HB1
  go_wp2_with fail
  refine hK.out _ _ hS4 (fun hHeld => ?_)
  clear hK K
  refine wpAnyH_ready (rs := [7]) (by kernel_rfl) (by simp) ?_
  refine AllReadyH.cons rfl (fun K hK => ?_) AllReadyH.nil
  go_simp
  have HCl := Lib.hid (bclone_any w4 a' c' (t.take j) (by rw [HTk.out]; omega) ((H2.out.keep hS4.2).take j).reads)
  rw [HTk.out] at HCl
  refine HCl.out.mono ?_
  rintro e w5 ⟨v5, rfl, hO5, hb⟩
  have hS5 : Blk w5 w.heap.size [.slice a s.length c, .slice a' t.length c'] ∧ Below w.heap.size w w5 := ⟨hS4.1.keep hb, hS4.2.trans (hb.mono (Below.size hS4.2))⟩
  have hR5 := hR4.keep hb
  have HO4 := Lib.hid (OwnE.keep hO4 hb)
  obtain ⟨a5, c5, e5, -⟩ := OwnB.bs hO5 (by rw [HTk.out]; omega)
  rw [HTk.out] at e5
  subst e5
  have HO5 := Lib.hid hO5
  clear hb hS4 hO4 hR4 hO5 HCl
  go_wp2_with fail
  refine hK.out _ _ hS5 (fun hHeld => ?_)
  clear hK K
  refine take_yes 8 31 (v := ?_) rfl rfl (by kernel_rfl) (by kernel_rfl) (by kernel_rfl) (fun _ _ _ h => h) (by rfl) ?_ hHeld ?_
  rotate_left 1
  · (intro w hSw; go_simp; try with_reducible rfl)
  simp only [Act.put, List.setIfInBounds_toArray, List.set_cons_succ, List.set_cons_zero]
  refine step_store 9 41 (w.heap.size + 1) [.slice a4 s.length c4, .slice a5 j c5] (by kernel_rfl) rfl rfl (by rfl) (by rfl) (by rfl) (by rfl) hR5.there sizeDisk ?_ ?_ ?_
  · intro v hv; simp at hv; rcases hv with rfl | rfl <;> rfl
  · exact (show Blk (w5.setCells (w.heap.size + 1) 0 [.slice a4 s.length c4, .slice a5 j c5]) w.heap.size [.slice a s.length c, .slice a' t.length c'] ∧ Below w.heap.size w (w5.setCells (w.heap.size + 1) 0 [.slice a4 s.length c4, .slice a5 j c5]) from ⟨hS5.1.others (by omega) _ 0, below_sets hS5.2 (w.heap.size + 1) (by omega) _ 0⟩)
  have hHeld := (show Blk (w5.setCells (w.heap.size + 1) 0 [.slice a4 s.length c4, .slice a5 j c5]) w.heap.size [.slice a s.length c, .slice a' t.length c'] ∧ Below w.heap.size w (w5.setCells (w.heap.size + 1) 0 [.slice a4 s.length c4, .slice a5 j c5]) from ⟨hS5.1.others (by omega) _ 0, below_sets hS5.2 (w.heap.size + 1) (by omega) _ 0⟩)
  refine take_yes 10 5 (v := ?_) rfl rfl (by kernel_rfl) (by kernel_rfl) (by kernel_rfl) (fun _ _ _ h => h) (by rfl) ?_ hHeld ?_
  rotate_left 1
  · (intro w hSw; go_simp; try with_reducible rfl)
  simp only [Act.put, List.setIfInBounds_toArray, List.set_cons_succ, List.set_cons_zero]
  refine wpAnyH_done (by kernel_rfl) ?_ _
  have hRf := hR5.sets [.slice a4 s.length c4, .slice a5 j c5] rfl
  go_wp2
  refine ret_cell_tmp Tryd.results18 rfl rfl (hRf.load Tryd.underlying41 rfl sizeDisk) ?_
  rw [HP.out.1, HP.out.2.1, HP.out.2.2]
  refine ⟨⟨_, rfl, a4, c4, a5, c5, by rw [HTk.out], ?_, ?_, from_mono (OwnB.from HO4.out) (by show _ ≤ w1.heap.size; omega), from_mono (OwnB.from HO5.out) (by omega)⟩, below_sets hS5.2 (w.heap.size + 1) (by omega) [.slice a4 s.length c4, .slice a5 j c5] 0⟩
  · exact OwnB.bsi (OwnE.others (w.heap.size + 1) (by show _ < w1.heap.size; omega) [.slice a4 s.length c4, .slice a5 j c5] 0 _ HO4.out) (by omega)
  · exact OwnB.bsi (OwnE.others (w.heap.size + 1) (by omega) [.slice a4 s.length c4, .slice a5 j c5] 0 _ HO5.out) (by rw [HTk.out]; omega)
end Go.Proofs.YtmlodnamknielacDoor

/- slices.EqualFunc at records. -/
namespace Go.Proofs.YtmlodnamknielacDoor
open Go.ChangeShapes Go.WideShapes Go.ChangeAt Go.RowKit
open Orangery (Mv Rc)

def eqRs : List Rm → List Rm → Bool
  | [], [] => true
  | x :: X, y :: Y => sameR x.1 y.1 && eqRs X Y
  | _, _ => false
theorem eqRs_iff (X : List Rm) : ∀ Y : List Rm, eqRs X Y = true ↔ X.map (·.1) = Y.map (·.1) := by
  induction X with
  | nil =>
    intro Y
    cases Y with
    | nil => simp [eqRs]
    | cons y Y => simp [eqRs]
  | cons x X ih =>
    intro Y
    cases Y with
    | nil => simp [eqRs]
    | cons y Y =>
      rw [eqRs, Bool.and_eq_true, sameR_iff, ih Y]
      simp
theorem eqRs_yes {X Y : List Rm} (h : X.map (·.1) = Y.map (·.1)) : eqRs X Y = true := (eqRs_iff X Y).2 h
theorem eqRs_no {X Y : List Rm} (h : X.map (·.1) ≠ Y.map (·.1)) : eqRs X Y = false := by
  cases hq : eqRs X Y
  · rfl
  · exact absurd ((eqRs_iff X Y).1 hq) h
theorem rc_cells {w : World} {b o : Nat} {x : Rm} (h : w.rangeAt b o (rcC x)) :
    w.cell? ⟨b, o, none⟩ = some (.int .i64 x.1.1) ∧ w.cell? ⟨b, o + 1, none⟩ = some (.int .i64 x.1.2.1) ∧ w.cell? ⟨b, o + 2, none⟩ = some (.int .i64 x.1.2.2.1) ∧ w.cell? ⟨b, o + 3, none⟩ = some (.slice x.2.1 x.1.2.2.2.1.length x.2.2) ∧ w.cell? ⟨b, o + 4, none⟩ = some (.int .i64 x.1.2.2.2.2.1) ∧ w.cell? ⟨b, o + 5, none⟩ = some (.int .i64 x.1.2.2.2.2.2.1) ∧ w.cell? ⟨b, o + 6, none⟩ = some (.int .i64 x.1.2.2.2.2.2.2.1.1) ∧ w.cell? ⟨b, o + 7, none⟩ = some (.int .i64 x.1.2.2.2.2.2.2.1.2.1) ∧ w.cell? ⟨b, o + 8, none⟩ = some (.int .i64 x.1.2.2.2.2.2.2.1.2.2) ∧ w.cell? ⟨b, o + 9, none⟩ = some (.int .i64 x.1.2.2.2.2.2.2.2.1) ∧ w.cell? ⟨b, o + 10, none⟩ = some (.int .i64 x.1.2.2.2.2.2.2.2.2) :=
  ⟨h 0 _ rfl, h 1 _ rfl, h 2 _ rfl, h 3 _ rfl, h 4 _ rfl, h 5 _ rfl, h 6 _ rfl, h 7 _ rfl, h 8 _ rfl, h 9 _ rfl, h 10 _ rfl⟩
theorem map_take_ne {X Y : List Rm} {k : Nat} (hx : k < X.length) (hy : k < Y.length) (h : X[k].1 ≠ Y[k].1) : X.map (·.1) ≠ Y.map (·.1) := by
  intro e
  have h1 : (X.map (·.1))[k]? = some X[k].1 := by simp [hx]
  have h2 : (Y.map (·.1))[k]? = some Y[k].1 := by simp [hy]
  rw [e, h2] at h1
  exact h (by simpa using h1.symm)

set_option maxHeartbeats 2000000 in
set_option maxRecDepth 100000 in
theorem eqFuncR_any (w : World) (a a' : Option Addr) (c c' : Nat) (X Y : List Rm) (B B' g : Nat) (hl : X.length ≤ 1000) (hx : SlR w a B X) (hy : SlR w a' B' Y)
    (eg : ∀ args w, (callFunc g args).run Tryd.prog w = .ok (.enter g args) w)
    (hg : ∀ W (x y : Rm), RootsIn B W x → RootsIn B' W y → Calls Tryd.prog g #[x.val, y.val] W fun e w' => e = .returned (.bool (sameR x.1 y.1)) ∧ Below W.heap.size W w') :
    Calls Tryd.prog 21 #[.slice a X.length c, .slice a' Y.length c', .func (.func g) #[] #[]] w
      fun e w' => e = .returned (.bool (eqRs X Y)) ∧ Below w.heap.size w w' := by
  have HX := Lib.hid hx
  have HY := Lib.hid hy
  have HG := Lib.hid hg
  clear hx hy hg
  by_cases hlen : X.length = Y.length
  case neg =>
    have d1 : ((X.length : Int) != (Y.length : Int)) = true := by simp; omega
    have HE : Hid (eqRs X Y = false) := eqRs_no (by intro e; have := congrArg List.length e; simp at this; omega)
    clear hlen
    go_enter Tryd.func21, Tryd.ntmps21
    go_wp2
    go_ret
    exact ⟨ret_bool HE.out.symm, Below.refl _ _⟩
  have d1 : ((X.length : Int) != (Y.length : Int)) = false := by simp; omega
  have hl2 : Y.length ≤ 1000 := by omega
  have HLEN : Hid (X.length = Y.length) := hlen
  clear hlen
  go_enter Tryd.func21, Tryd.ntmps21
  go_wp2
  go_loopw [17] (fun i W => ∃ k : Nat, k ≤ X.length ∧ i = .int .i64 k ∧ (X.take k).map (·.1) = (Y.take k).map (·.1) ∧ Below w.heap.size w W) (fun i _ => X.length - (intOf i).toNat)
  case atStart => exact ⟨0, Nat.zero_le _, rfl, rfl, Below.refl _ _⟩
  case round =>
    obtain ⟨j, hj, rfl, hpre, hb⟩ := hrel
    have HP : Hid ((X.take j).map (·.1) = (Y.take j).map (·.1)) := hpre
    have HB := Lib.hid hb
    clear hpre hb
    by_cases hlt : j < X.length
    case neg =>
      have HE : Hid (eqRs X Y = true) := by
        refine eqRs_yes ?_
        have e := HP.out
        rw [List.take_of_length_le (by omega), List.take_of_length_le (by have := HLEN.out; omega)] at e
        exact e
      go_wp2
      go_ret
      exact ⟨ret_bool HE.out.symm, HB.out⟩
    have hlt2 : j < Y.length := by have := HLEN.out; omega
    have hXr := HX.out.keep HB.out
    have hYr := HY.out.keep HB.out
    obtain ⟨bx, ox, rfl, hbx, hrx⟩ := hXr.reads.at rcC_len j hlt
    obtain ⟨by', oy, rfl, hby, hry⟩ := hYr.reads.at rcC_len j hlt2
    have HRX := Lib.hid (hXr.roots _ (List.getElem_mem hlt))
    have HRY := Lib.hid (hYr.roots _ (List.getElem_mem hlt2))
    have HT1 : Hid ((X.take (j + 1)).map (·.1) = (X.take j).map (·.1) ++ [X[j].1]) := by show _ = _; rw [List.take_succ_eq_append_getElem hlt, List.map_append]; rfl
    have HT2 : Hid ((Y.take (j + 1)).map (·.1) = (Y.take j).map (·.1) ++ [Y[j].1]) := by show _ = _; rw [List.take_succ_eq_append_getElem hlt2, List.map_append]; rfl
    have HNE : Hid (X[j].1 ≠ Y[j].1 → X.map (·.1) ≠ Y.map (·.1)) := map_take_ne hlt hlt2
    obtain ⟨g0, g1, g2, g3, g4, g5, g6, g7, g8, g9, g10⟩ := rc_cells hrx
    obtain ⟨y0, y1, y2, y3, y4, y5, y6, y7, y8, y9, y10⟩ := rc_cells hry
    clear hrx hry hXr hYr
    generalize X[j] = x at *
    generalize Y[j] = y at *
    obtain ⟨⟨k1, u1, f1, R1, o1⟩, a1, c1⟩ := x
    obtain ⟨⟨k2, u2, f2, R2, o2⟩, a2, c2⟩ := y
    simp only at g0 g1 g2 g3 g4 g5 g6 g7 g8 g9 g10 y0 y1 y2 y3 y4 y5 y6 y7 y8 y9 y10
    have hlti : (j : Int) < (Y.length : Int) := by omega
    go_wp2_with fail
    obtain ⟨W2, hW, -, -, hB2, -⟩ := laid2 wr [Value.int IntKind.i64 k1, .int .i64 u1, .int .i64 f1, .slice a1 R1.length c1, .int .i64 o1.1, .int .i64 o1.2.1, .int .i64 o1.2.2.1.1, .int .i64 o1.2.2.1.2.1, .int .i64 o1.2.2.1.2.2, .int .i64 o1.2.2.2.1, .int .i64 o1.2.2.2.2] 28 [Value.int IntKind.i64 k2, .int .i64 u2, .int .i64 f2, .slice a2 R2.length c2, .int .i64 o2.1, .int .i64 o2.2.1, .int .i64 o2.2.2.1.1, .int .i64 o2.2.2.1.2.1, .int .i64 o2.2.2.1.2.2, .int .i64 o2.2.2.2.1, .int .i64 o2.2.2.2.2] 28
    rw [hW]
    clear hW g0 g1 g2 g3 g4 g5 g6 g7 g8 g9 g10 y0 y1 y2 y3 y4 y5 y6 y7 y8 y9 y10
    refine (HG.out W2 ((k1, u1, f1, R1, o1), a1, c1) ((k2, u2, f2, R2, o2), a2, c2) (HRX.out.keep hB2) (HRY.out.keep hB2)).mono ?_
    rintro e w3 ⟨rfl, hb3⟩
    have HB3 := Lib.hid (HB.out.trans ((hB2.trans (hb3.mono hB2.size)).mono HB.out.size))
    clear hB2 hb3 HRX HRY
    by_cases hq : (k1, u1, f1, R1, o1) = (k2, u2, f2, R2, o2)
    · rw [sameR_yes hq]
      have HQ : Hid ((k1, u1, f1, R1, o1) = (k2, u2, f2, R2, o2)) := hq
      clear hq
      go_wp2
      go_roundw
      case rel => exact ⟨j + 1, hlt, by go_num, by rw [HT1.out, HT2.out, HP.out, HQ.out], HB3.out⟩
      case measure => simp [intOf]; omega
    · rw [sameR_no hq]
      have HE : Hid (eqRs X Y = false) := eqRs_no (HNE.out hq)
      clear hq
      go_wp2
      go_ret
      exact ⟨ret_bool HE.out.symm, HB3.out⟩
end Go.Proofs.YtmlodnamknielacDoor

/- A store of a value of two cells. -/
namespace Go.Proofs.YtmlodnamknielacDoor
/-- a store of a disk, cell by cell -/
theorem two_cells (w : World) (g : Nat) (x y : Value) : (w.setCell ⟨g, 0, none⟩ x).setCell ⟨g, 1, none⟩ y = w.setCells g 0 [x, y] := rfl
end Go.Proofs.YtmlodnamknielacDoor

