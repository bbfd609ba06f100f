/- 6 texts of the proof: disk.Put. slices.EqualFunc at records. orangerylaw.at: a number brought within bounds. orangerylaw.HubInOrder: the walk. orangerylaw.HubParts: the walk. A tree that came in as an argument: which places it holds. -/
import Derived.Deep.RegionHeld3
import Derived.Deep.DeepCutAuto
import Derived.Deep.Slices
import Derived.Deep.Strs
import Derived.ChangeOld
import Derived.Test.YthlhnokgcnieeadGreatDoorP17
import Derived.Test.YthlhnokgcnieeadGreatDoorP16
import Derived.Test.YthlhnokgcnieeadGreatDoorP01
import Derived.Test.YthlhnokgcnieeadGreatDoorP02
import Derived.Test.YthlhnokgcnieeadGreatDoorP14
import Derived.Test.YthlhnokgcnieeadGreatDoorP12
/- disk.Put. -/
namespace Go.Proofs.YthlhnokgcnieeadGreatDoor
open Go.ChangeShapes Go.WideShapes Go.ChangeAt Go.RowKit
open Orangery (Mv Rc noRec noOp lnL lnN lnE diskE putE recT recText checkRec)

/-- chapter 7's Put -/
def putAll (s t : List UInt8) (r : Rc) : Int := if diskE s t ≠ 0 then diskE s t else putE s t r
def putS (s t : List UInt8) (r : Rc) : List UInt8 := if putAll s t r ≠ 0 then [] else s
def putT (s t : List UInt8) (r : Rc) : List UInt8 := if putAll s t r ≠ 0 then [] else t ++ (recT r ++ [10])
theorem put_not {s t : List UInt8} {r : Rc} {E : Int} (h : putAll s t r = E) (he : E ≠ 0) : putS s t r = [] ∧ putT s t r = [] := by
  unfold putS putT
  rw [h, if_pos he, if_pos he]
  exact ⟨rfl, rfl⟩
theorem put_bad {s t : List UInt8} {r : Rc} (h : diskE s t ≠ 0) : putAll s t r = diskE s t := by unfold putAll; rw [if_pos h]
theorem put_rec {s t : List UInt8} {r : Rc} (h : diskE s t = 0) (h2 : checkRec r ≠ 0) : putAll s t r = checkRec r := by
  unfold putAll putE; rw [if_neg (by simpa using h), if_pos h2]
theorem put_many {s t : List UInt8} {r : Rc} (h : diskE s t = 0) (h2 : checkRec r = 0) (h3 : 60000 < s.length + t.length + ((recT r ++ [10]).length)) : putAll s t r = 2 := by
  unfold putAll putE; rw [if_neg (by simpa using h), if_neg (by simpa using h2), if_pos (by simp at h3; omega)]
theorem put_ok {s t : List UInt8} {r : Rc} (h : diskE s t = 0) (h2 : checkRec r = 0) (h3 : ¬ 60000 < s.length + t.length + ((recT r ++ [10]).length)) : putAll s t r = 0 ∧ putS s t r = s ∧ putT s t r = t ++ (recT r ++ [10]) := by
  have e : putAll s t r = 0 := by unfold putAll putE; rw [if_neg (by simpa using h), if_neg (by simpa using h2), if_neg (by simp at h3; omega)]
  refine ⟨e, ?_, ?_⟩
  · unfold putS; rw [e, if_neg (by simp)]
  · unfold putT; rw [e, if_neg (by simp)]
theorem str_cells (l : List UInt8) : Lib.strCells ⟨l.toArray⟩ = l.flatMap btC := by
  unfold Lib.strCells
  induction l with
  | nil => rfl
  | cons b l ih => simp [btC] at ih ⊢; exact ih

set_option maxHeartbeats 4000000 in
set_option maxRecDepth 100000 in
theorem kput_any (w : World) (v : Value) (s t : List UInt8) (k u f : Int) (a3 : Option Addr) (c3 : Nat) (R : List Int) (o : Mv) (h : DkIs w v s t) (hl : R.length ≤ maxLen) (hn : a3 = none → c3 = 0) (hI : SlI w a3 R) (hv : Vars w) :
    Calls Tryz.prog 8 #[v, rcV k u f (.slice a3 R.length c3) o] w fun e w' => (∃ v', e = .returned (.tuple #[v', .int .i64 (putAll s t (k, u, f, R, o))]) ∧ DkNew w.heap.size w' v' (putS s t (k, u, f, R, o)) (putT s t (k, u, f, R, o))) ∧ Below w.heap.size w w' := by
  obtain ⟨i0, hi, hz0, hz1, hz2⟩ := info_parts infoByte
  obtain ⟨a, c, a', c', rfl, h1, h2⟩ := h
  have H1 := Lib.hid h1
  have H2 := Lib.hid h2
  have HV := Lib.hid hv
  have HI := Lib.hid hI
  have HN := Lib.hid hn
  have HL := Lib.hid hl
  clear h1 h2 hv hI hn hl
  go_enter Tryz.func8, Tryz.ntmps8
  go_wp2_with fail
  obtain ⟨W0, hW, hA, hC, hR, hB, -⟩ := laid3 w [.slice a s.length c, .slice a' t.length c'] 47 [Value.int IntKind.i64 k, .int .i64 u, .int .i64 f, .slice a3 R.length c3, .int .i64 o.1, .int .i64 o.2.1, .int .i64 o.2.2.1.1, .int .i64 o.2.2.1.2.1, .int .i64 o.2.2.1.2.2, .int .i64 o.2.2.2.1, .int .i64 o.2.2.2.2] 43 [.slice none 0 0, .slice none 0 0] 47
  rw [hW]
  clear hW
  refine (kcheck_any W0 _ s t ⟨a, c, a', c', rfl, H1.out.keep hB, H2.out.keep hB⟩ (HV.out.on hB)).mono ?_
  rintro e w1 ⟨rfl, hb⟩
  have hA1 := hA.keep hb
  have hC1 := hC.keep hb
  have hR1 := hR.keep hb
  have HB1 := Lib.hid (hB.trans (hb.mono hB.size))
  clear hA hC hR hB hb
  by_cases hd : diskE s t = 0
  case neg =>
    have HP := Lib.hid (put_bad (r := (k, u, f, R, o)) hd)
    have HE := Lib.hid (put_not HP.out hd)
    have d1 : (diskE s t != 0) = true := by simpa using hd
    generalize diskE s t = E at *
    have r0 := hR1.at 0 rfl
    have r1 := hR1.at 1 rfl
    have rf := hR1.frz
    clear hd
    go_wp2
    refine ret_cell_tmp Tryz.results8 rfl rfl ((hR1.sets [.slice none 0 0, .slice none 0 0] rfl).load Tryz.underlying47 rfl sizeDisk) ?_
    rw [HE.out.1, HE.out.2, HP.out]
    exact ⟨⟨_, rfl, dkNew_none _ _⟩, below_sets HB1.out (w.heap.size + 1 + 1) (by omega) [.slice none 0 0, .slice none 0 0] 0⟩
  have hfit := disk_fits hd
  have HD : Hid (diskE s t = 0) := hd
  rw [hd]
  clear hd
  have y0 := hC1.at 0 rfl
  have y1 := hC1.at 1 rfl
  have y2 := hC1.at 2 rfl
  have y3 := hC1.at 3 rfl
  have y4 := hC1.at 4 rfl
  have y5 := hC1.at 5 rfl
  have y6 := hC1.at 6 rfl
  have y7 := hC1.at 7 rfl
  have y8 := hC1.at 8 rfl
  have y9 := hC1.at 9 rfl
  have y10 := hC1.at 10 rfl
  go_wp2_with fail
  refine (nprint_any w1 k u f a3 c3 R o HL.out HN.out (HI.out.below HB1.out) (HV.out.on HB1.out)).mono ?_
  rintro e w2 ⟨rfl, hb⟩
  have hA2 := hA1.keep hb
  have hR2 := hR1.keep hb
  have HB2 := Lib.hid (HB1.out.trans (hb.mono HB1.out.size))
  clear hA1 hC1 hR1 HB1 hb y0 y1 y2 y3 y4 y5 y6 y7 y8 y9 y10
  by_cases hc : checkRec (k, u, f, R, o) = 0
  case neg =>
    have HP := Lib.hid (put_rec HD.out hc)
    have HE := Lib.hid (put_not HP.out hc)
    have d1 : (checkRec (k, u, f, R, o) != 0) = true := by simpa using hc
    generalize checkRec (k, u, f, R, o) = E at *
    generalize recText (k, u, f, R, o) = T at *
    have r0 := hR2.at 0 rfl
    have r1 := hR2.at 1 rfl
    have rf := hR2.frz
    clear hc
    go_wp2
    refine ret_cell_tmp Tryz.results8 rfl rfl ((hR2.sets [.slice none 0 0, .slice none 0 0] rfl).load Tryz.underlying47 rfl sizeDisk) ?_
    rw [HE.out.1, HE.out.2, HP.out]
    exact ⟨⟨_, rfl, dkNew_none _ _⟩, below_sets HB2.out (w.heap.size + 1 + 1) (by omega) [.slice none 0 0, .slice none 0 0] 0⟩
  have HC : Hid (checkRec (k, u, f, R, o) = 0) := hc
  have hT := Orangery.recT_len hc
  rw [hc, recText_ok hc]
  obtain ⟨T, hTe⟩ : ∃ T, recT (k, u, f, R, o) = T := ⟨_, rfl⟩
  have HT : Hid (recT (k, u, f, R, o) = T) := hTe
  rw [hTe] at hT ⊢
  clear hc hTe
  have d9 : ¬ 9223372036854775807 < T.length + 1 := by omega
  have x0 := hA2.at 0 rfl
  have x1 := hA2.at 1 rfl
  go_wp2_with fail
  rw [show Value.string ((⟨T.toArray⟩ : ByteArray) ++ ⟨#[10]⟩) = txV (T ++ [10]) from congrArg Value.string (Orangery.bytes_app T [10])]
  refine (ksize_any w2 _ s t ⟨a, c, a', c', rfl, H1.out.keep HB2.out, H2.out.keep HB2.out⟩).mono ?_
  rintro e w3 ⟨rfl, hb⟩
  have hA3 := hA2.keep hb
  have hR3 := hR2.keep hb
  have HB3 := Lib.hid (HB2.out.trans (hb.mono HB2.out.size))
  have hz3 : w.heap.size + 1 + 1 < w3.heap.size := hR3.lt
  clear x0 x1 hA2 hR2 HB2 hb d9
  obtain ⟨Z, hZ⟩ : ∃ Z, T ++ [10] = Z := ⟨_, rfl⟩
  have hZl : Z.length ≤ 177 := by rw [← hZ]; simp; omega
  have HZ : Hid (recT (k, u, f, R, o) ++ [10] = Z) := by show _ = _; rw [HT.out, hZ]
  rw [hZ]
  clear hZ hT HT
  have hZs : (⟨Z.toArray⟩ : ByteArray).size = Z.length := Orangery.bytes_size Z
  by_cases hbig : 60000 < s.length + t.length + Z.length
  · have HP : Hid (putAll s t (k, u, f, R, o) = 2) := put_many HD.out HC.out (by rw [HZ.out]; exact hbig)
    have HE := Lib.hid (put_not HP.out (by decide))
    have d1 : decide ((s.length : Int) + (t.length : Int) + (Z.length : Int) > 60000) = true := by simp; omega
    have r0 := hR3.at 0 rfl
    have r1 := hR3.at 1 rfl
    have rf := hR3.frz
    clear hbig
    go_wp2
    refine ret_cell_tmp Tryz.results8 rfl rfl ((hR3.sets [.slice none 0 0, .slice none 0 0] rfl).load Tryz.underlying47 rfl sizeDisk) ?_
    rw [HE.out.1, HE.out.2, HP.out]
    exact ⟨⟨_, rfl, dkNew_none _ _⟩, below_sets HB3.out (w.heap.size + 1 + 1) (by omega) [.slice none 0 0, .slice none 0 0] 0⟩
  have d1 : decide ((s.length : Int) + (t.length : Int) + (Z.length : Int) > 60000) = false := by simp; omega
  have HP := Lib.hid (put_ok HD.out HC.out (by rw [HZ.out]; exact hbig))
  rw [HZ.out] at HP
  have hbig' : s.length + t.length + Z.length ≤ 60000 := by omega
  clear hbig
  go_upto_region 10 with fail
  have HA : Hid (Blk w3 w.heap.size [.slice a s.length c, .slice a' t.length c']) := hA3
  have HR : Hid (Blk w3 (w.heap.size + 1 + 1) [.slice none 0 0, .slice none 0 0]) := hR3
  clear hA3 hR3
  have hS' : Blk w3.drew w.heap.size [.slice a s.length c, .slice a' t.length c'] ∧ Below w.heap.size w w3.drew := ⟨HA.out.drew, HB3.out.drew⟩
  refine wp_region_held_drew (S := fun w' => Blk w' w.heap.size [.slice a s.length c, .slice a' t.length c'] ∧ Below w.heap.size w w') (by kernel_rfl) hS' (fun hHeld => ?_)
  refine take_yes 0 34 (v := ?_) rfl rfl (by kernel_rfl) (by kernel_rfl) (by kernel_rfl) (fun _ _ _ h => h) (by rfl) ?_ hHeld ?_
  rotate_left 1
  · (intro w hSw; go_simp; try with_reducible rfl)
  simp only [Act.put, List.setIfInBounds_toArray, List.set_cons_succ, List.set_cons_zero]
  refine take_yes 1 35 (v := ?_) rfl rfl (by kernel_rfl) (by kernel_rfl) (by kernel_rfl) (fun _ _ _ h => h) (by rfl) ?_ hHeld ?_
  rotate_left 1
  · (intro w hSw; have z0 := hSw.1.at 0 rfl; go_simp; try with_reducible rfl)
  simp only [Act.put, List.setIfInBounds_toArray, List.set_cons_succ, List.set_cons_zero]
  refine take_yes 3 37 (v := ?_) rfl rfl (by kernel_rfl) (by kernel_rfl) (by kernel_rfl) (fun _ _ _ h => h) (by rfl) ?_ hHeld ?_
  rotate_left 1
  · (intro w hSw; go_simp; try with_reducible rfl)
  simp only [Act.put, List.setIfInBounds_toArray, List.set_cons_succ, List.set_cons_zero]
  refine take_yes 4 38 (v := ?_) rfl rfl (by kernel_rfl) (by kernel_rfl) (by kernel_rfl) (fun _ _ _ h => h) (by rfl) ?_ hHeld ?_
  rotate_left 1
  · (intro w hSw; have z1 := hSw.1.at 1 rfl; go_simp; try with_reducible rfl)
  simp only [Act.put, List.setIfInBounds_toArray, List.set_cons_succ, List.set_cons_zero]
  refine take_yes 6 40 (v := ?_) rfl rfl (by kernel_rfl) (by kernel_rfl) (by kernel_rfl) (fun _ _ _ h => h) (by rfl) ?_ hHeld ?_
  rotate_left 1
  · (intro w hSw; go_simp; try with_reducible rfl)
  simp only [Act.put, List.setIfInBounds_toArray, List.set_cons_succ, List.set_cons_zero]
  refine wpAnyH_ready (rs := [2]) (by kernel_rfl) (by simp) ?_
  refine AllReadyH.cons rfl (fun K hK => ?_) AllReadyH.nil
  go_simp
  refine (bclone_any _ a c s (by omega) (H1.out.keep hS'.2).reads).mono ?_
  rintro e w4 ⟨v4, rfl, hO4, hb⟩
  have hS4 : Blk w4 w.heap.size [.slice a s.length c, .slice a' t.length c'] ∧ Below w.heap.size w w4 := ⟨hS'.1.keep hb, hS'.2.trans (hb.mono (Below.size hS'.2))⟩
  have hR4 := (HR.out.drew).keep hb
  have hz4 : w3.heap.size ≤ w4.heap.size := hb.size
  obtain ⟨a4, c4, rfl, -⟩ := OwnB.bs hO4 (by omega)
  clear hb hS' HR HB3
  go_wp2_with fail
  refine hK.out _ _ hS4 (fun hHeld => ?_)
  clear hK K
  refine wpAnyH_ready (rs := [5]) (by kernel_rfl) (by simp) ?_
  refine AllReadyH.cons rfl (fun K hK => ?_) AllReadyH.nil
  go_simp
  refine (bclone_any w4 a' c' t (by omega) (H2.out.keep hS4.2).reads).mono ?_
  rintro e w5 ⟨v5, rfl, hO5, hb⟩
  have hS5 : Blk w5 w.heap.size [.slice a s.length c, .slice a' t.length c'] ∧ Below w.heap.size w w5 := ⟨hS4.1.keep hb, hS4.2.trans (hb.mono (Below.size hS4.2))⟩
  have hR5 := hR4.keep hb
  have HO4 := Lib.hid (OwnE.keep hO4 hb)
  have HB45 := Lib.hid hb
  have HO4w := Lib.hid hO4
  obtain ⟨a5, c5, rfl, -⟩ := OwnB.bs hO5 (by omega)
  clear hb hS4 hO4 hR4
  go_wp2_with fail
  refine hK.out _ _ hS5 (fun hHeld => ?_)
  clear hK K
  have hown5 : w5.ownsRow w4.heap.size 5 1 (.slice a5 t.length c5) t.length (t.flatMap btC) := hO5
  refine step_append_text 7 41 45 9 (by kernel_rfl) rfl rfl (by rfl) (by rfl) w4.heap.size 5 i0 Tryz.underlying45 Tryz.underlying9 hi hz0 hz1 hz2 _ t.length (t.flatMap btC) (by rfl) hown5 ⟨Z.toArray⟩ (by rfl) (by rw [hZs]; unfold maxLen; omega) (by rw [hZs]; omega) HB45.out.size (fun v6 w6 hown6 hgrow => ?_)
  have hgb : ∀ g, (Value.slice a5 t.length c5).ownBlock = some g → w4.heap.size ≤ g := fun g hg => (hown5.lt g hg).1
  have hb6 := below_grown hown5 HB45.out.size hgrow
  have hS6 : Blk w6 w.heap.size [.slice a s.length c, .slice a' t.length c'] ∧ Below w.heap.size w w6 := ⟨hS5.1.grown hgrow (by intro e; have := hgb _ e.symm; omega), hS5.2.trans (hb6.mono (by omega))⟩
  refine ⟨hS6, ?_⟩
  have hHeld := hS6
  have hR6 := hR5.grown hgrow (by intro e; have := hgb _ e.symm; omega)
  have HO46 := Lib.hid (OwnE.keep HO4w.out (HB45.out.trans hb6))
  obtain ⟨q, hq⟩ : ∃ q, q = t ++ Z := ⟨_, rfl⟩
  have hql : q.length ≤ 60000 := by rw [hq]; simp; omega
  have hO6 : OwnB w6 w4.heap.size v6 q := by
    show World.ownsRow _ _ _ _ _ _ _
    rw [hq, List.length_append, List.flatMap_append, ← str_cells Z, ← hZs]
    exact hown6
  have HQ : Hid (t ++ Z = q) := hq.symm
  obtain ⟨a6, c6, rfl, -⟩ := OwnB.bs hO6 (by omega)
  have HO6 := Lib.hid hO6
  clear hq hO6 hown6 hown5 hgrow hgb hb6 hS5 hR5 HO4 HO4w HB45 hO5
  simp only [Act.put, List.setIfInBounds_toArray, List.set_cons_succ, List.set_cons_zero]
  refine take_yes 8 42 (v := ?_) rfl rfl (by kernel_rfl) (by kernel_rfl) (by kernel_rfl) (fun _ _ _ h => h) (by rfl) ?_ hHeld ?_
  rotate_left 1
  · (intro w hSw; go_simp; try with_reducible rfl)
  simp only [Act.put, List.setIfInBounds_toArray, List.set_cons_succ, List.set_cons_zero]
  refine step_store 9 47 (w.heap.size + 1 + 1) [.slice a4 s.length c4, .slice a6 q.length c6] (by kernel_rfl) rfl rfl (by rfl) (by rfl) (by rfl) (by rfl) hR6.there sizeDisk ?_ ?_ ?_
  · intro v hv; simp at hv; rcases hv with rfl | rfl <;> rfl
  · exact (show Blk (w6.setCells (w.heap.size + 1 + 1) 0 [.slice a4 s.length c4, .slice a6 q.length c6]) w.heap.size [.slice a s.length c, .slice a' t.length c'] ∧ Below w.heap.size w (w6.setCells (w.heap.size + 1 + 1) 0 [.slice a4 s.length c4, .slice a6 q.length c6]) from ⟨hS6.1.others (by omega) _ 0, below_sets hS6.2 (w.heap.size + 1 + 1) (by omega) _ 0⟩)
  have hHeld := (show Blk (w6.setCells (w.heap.size + 1 + 1) 0 [.slice a4 s.length c4, .slice a6 q.length c6]) w.heap.size [.slice a s.length c, .slice a' t.length c'] ∧ Below w.heap.size w (w6.setCells (w.heap.size + 1 + 1) 0 [.slice a4 s.length c4, .slice a6 q.length c6]) from ⟨hS6.1.others (by omega) _ 0, below_sets hS6.2 (w.heap.size + 1 + 1) (by omega) _ 0⟩)
  refine take_yes 10 5 (v := ?_) rfl rfl (by kernel_rfl) (by kernel_rfl) (by kernel_rfl) (fun _ _ _ h => h) (by rfl) ?_ hHeld ?_
  rotate_left 1
  · (intro w hSw; go_simp; try with_reducible rfl)
  simp only [Act.put, List.setIfInBounds_toArray, List.set_cons_succ, List.set_cons_zero]
  refine wpAnyH_done (by kernel_rfl) ?_ _
  have hRf := hR6.sets [.slice a4 s.length c4, .slice a6 q.length c6] rfl
  go_wp2
  refine ret_cell_tmp Tryz.results8 rfl rfl (hRf.load Tryz.underlying47 rfl sizeDisk) ?_
  rw [HP.out.1, HP.out.2.1, HP.out.2.2, HQ.out]
  refine ⟨⟨_, rfl, a4, c4, a6, c6, rfl, ?_, ?_, from_mono (OwnB.from HO46.out) (by show _ ≤ w3.heap.size; omega), from_mono (OwnB.from HO6.out) (by omega)⟩, below_sets hS6.2 (w.heap.size + 1 + 1) (by omega) [.slice a4 s.length c4, .slice a6 q.length c6] 0⟩
  · exact OwnB.bsi (OwnE.others (w.heap.size + 1 + 1) (by show _ < w3.heap.size; omega) [.slice a4 s.length c4, .slice a6 q.length c6] 0 _ HO46.out) (by omega)
  · exact OwnB.bsi (OwnE.others (w.heap.size + 1 + 1) (by omega) [.slice a4 s.length c4, .slice a6 q.length c6] 0 _ HO6.out) (by omega)
end Go.Proofs.YthlhnokgcnieeadGreatDoor

/- slices.EqualFunc at records. -/
namespace Go.Proofs.YthlhnokgcnieeadGreatDoor
open Go.ChangeShapes Go.WideShapes Go.ChangeAt Go.RowKit
open Orangery (Mv Rc)

def eqRs : List Rm → List Rm → Bool
  | [], [] => true
  | x :: X, y :: Y => sameR x.1 y.1 && eqRs X Y
  | _, _ => false
theorem eqRs_iff (X : List Rm) : ∀ Y : List Rm, eqRs X Y = true ↔ X.map (·.1) = Y.map (·.1) := by
  induction X with
  | nil =>
    intro Y
    cases Y with
    | nil => simp [eqRs]
    | cons y Y => simp [eqRs]
  | cons x X ih =>
    intro Y
    cases Y with
    | nil => simp [eqRs]
    | cons y Y =>
      rw [eqRs, Bool.and_eq_true, sameR_iff, ih Y]
      simp
theorem eqRs_yes {X Y : List Rm} (h : X.map (·.1) = Y.map (·.1)) : eqRs X Y = true := (eqRs_iff X Y).2 h
theorem eqRs_no {X Y : List Rm} (h : X.map (·.1) ≠ Y.map (·.1)) : eqRs X Y = false := by
  cases hq : eqRs X Y
  · rfl
  · exact absurd ((eqRs_iff X Y).1 hq) h
theorem rc_cells {w : World} {b o : Nat} {x : Rm} (h : w.rangeAt b o (rcC x)) :
    w.cell? ⟨b, o, none⟩ = some (.int .i64 x.1.1) ∧ w.cell? ⟨b, o + 1, none⟩ = some (.int .i64 x.1.2.1) ∧ w.cell? ⟨b, o + 2, none⟩ = some (.int .i64 x.1.2.2.1) ∧ w.cell? ⟨b, o + 3, none⟩ = some (.slice x.2.1 x.1.2.2.2.1.length x.2.2) ∧ w.cell? ⟨b, o + 4, none⟩ = some (.int .i64 x.1.2.2.2.2.1) ∧ w.cell? ⟨b, o + 5, none⟩ = some (.int .i64 x.1.2.2.2.2.2.1) ∧ w.cell? ⟨b, o + 6, none⟩ = some (.int .i64 x.1.2.2.2.2.2.2.1.1) ∧ w.cell? ⟨b, o + 7, none⟩ = some (.int .i64 x.1.2.2.2.2.2.2.1.2.1) ∧ w.cell? ⟨b, o + 8, none⟩ = some (.int .i64 x.1.2.2.2.2.2.2.1.2.2) ∧ w.cell? ⟨b, o + 9, none⟩ = some (.int .i64 x.1.2.2.2.2.2.2.2.1) ∧ w.cell? ⟨b, o + 10, none⟩ = some (.int .i64 x.1.2.2.2.2.2.2.2.2) :=
  ⟨h 0 _ rfl, h 1 _ rfl, h 2 _ rfl, h 3 _ rfl, h 4 _ rfl, h 5 _ rfl, h 6 _ rfl, h 7 _ rfl, h 8 _ rfl, h 9 _ rfl, h 10 _ rfl⟩
theorem map_take_ne {X Y : List Rm} {k : Nat} (hx : k < X.length) (hy : k < Y.length) (h : X[k].1 ≠ Y[k].1) : X.map (·.1) ≠ Y.map (·.1) := by
  intro e
  have h1 : (X.map (·.1))[k]? = some X[k].1 := by simp [hx]
  have h2 : (Y.map (·.1))[k]? = some Y[k].1 := by simp [hy]
  rw [e, h2] at h1
  exact h (by simpa using h1.symm)

set_option maxHeartbeats 2000000 in
set_option maxRecDepth 100000 in
theorem eqFuncR_any (w : World) (a a' : Option Addr) (c c' : Nat) (X Y : List Rm) (B B' g : Nat) (hl : X.length ≤ 1000) (hx : SlR w a B X) (hy : SlR w a' B' Y)
    (eg : ∀ args w, (callFunc g args).run Tryz.prog w = .ok (.enter g args) w)
    (hg : ∀ W (x y : Rm), RootsIn B W x → RootsIn B' W y → Calls Tryz.prog g #[x.val, y.val] W fun e w' => e = .returned (.bool (sameR x.1 y.1)) ∧ Below W.heap.size W w') :
    Calls Tryz.prog 12 #[.slice a X.length c, .slice a' Y.length c', .func (.func g) #[] #[]] w
      fun e w' => e = .returned (.bool (eqRs X Y)) ∧ Below w.heap.size w w' := by
  have HX := Lib.hid hx
  have HY := Lib.hid hy
  have HG := Lib.hid hg
  clear hx hy hg
  by_cases hlen : X.length = Y.length
  case neg =>
    have d1 : ((X.length : Int) != (Y.length : Int)) = true := by simp; omega
    have HE : Hid (eqRs X Y = false) := eqRs_no (by intro e; have := congrArg List.length e; simp at this; omega)
    clear hlen
    go_enter Tryz.func12, Tryz.ntmps12
    go_wp2
    go_ret
    exact ⟨ret_bool HE.out.symm, Below.refl _ _⟩
  have d1 : ((X.length : Int) != (Y.length : Int)) = false := by simp; omega
  have hl2 : Y.length ≤ 1000 := by omega
  have HLEN : Hid (X.length = Y.length) := hlen
  clear hlen
  go_enter Tryz.func12, Tryz.ntmps12
  go_wp2
  go_loopw [17] (fun i W => ∃ k : Nat, k ≤ X.length ∧ i = .int .i64 k ∧ (X.take k).map (·.1) = (Y.take k).map (·.1) ∧ Below w.heap.size w W) (fun i _ => X.length - (intOf i).toNat)
  case atStart => exact ⟨0, Nat.zero_le _, rfl, rfl, Below.refl _ _⟩
  case round =>
    obtain ⟨j, hj, rfl, hpre, hb⟩ := hrel
    have HP : Hid ((X.take j).map (·.1) = (Y.take j).map (·.1)) := hpre
    have HB := Lib.hid hb
    clear hpre hb
    by_cases hlt : j < X.length
    case neg =>
      have HE : Hid (eqRs X Y = true) := by
        refine eqRs_yes ?_
        have e := HP.out
        rw [List.take_of_length_le (by omega), List.take_of_length_le (by have := HLEN.out; omega)] at e
        exact e
      go_wp2
      go_ret
      exact ⟨ret_bool HE.out.symm, HB.out⟩
    have hlt2 : j < Y.length := by have := HLEN.out; omega
    have hXr := HX.out.keep HB.out
    have hYr := HY.out.keep HB.out
    obtain ⟨bx, ox, rfl, hbx, hrx⟩ := hXr.reads.at rcC_len j hlt
    obtain ⟨by', oy, rfl, hby, hry⟩ := hYr.reads.at rcC_len j hlt2
    have HRX := Lib.hid (hXr.roots _ (List.getElem_mem hlt))
    have HRY := Lib.hid (hYr.roots _ (List.getElem_mem hlt2))
    have HT1 : Hid ((X.take (j + 1)).map (·.1) = (X.take j).map (·.1) ++ [X[j].1]) := by show _ = _; rw [List.take_succ_eq_append_getElem hlt, List.map_append]; rfl
    have HT2 : Hid ((Y.take (j + 1)).map (·.1) = (Y.take j).map (·.1) ++ [Y[j].1]) := by show _ = _; rw [List.take_succ_eq_append_getElem hlt2, List.map_append]; rfl
    have HNE : Hid (X[j].1 ≠ Y[j].1 → X.map (·.1) ≠ Y.map (·.1)) := map_take_ne hlt hlt2
    obtain ⟨g0, g1, g2, g3, g4, g5, g6, g7, g8, g9, g10⟩ := rc_cells hrx
    obtain ⟨y0, y1, y2, y3, y4, y5, y6, y7, y8, y9, y10⟩ := rc_cells hry
    clear hrx hry hXr hYr
    generalize X[j] = x at *
    generalize Y[j] = y at *
    obtain ⟨⟨k1, u1, f1, R1, o1⟩, a1, c1⟩ := x
    obtain ⟨⟨k2, u2, f2, R2, o2⟩, a2, c2⟩ := y
    simp only at g0 g1 g2 g3 g4 g5 g6 g7 g8 g9 g10 y0 y1 y2 y3 y4 y5 y6 y7 y8 y9 y10
    have hlti : (j : Int) < (Y.length : Int) := by omega
    go_wp2_with fail
    obtain ⟨W2, hW, -, -, hB2, -⟩ := laid2 wr [Value.int IntKind.i64 k1, .int .i64 u1, .int .i64 f1, .slice a1 R1.length c1, .int .i64 o1.1, .int .i64 o1.2.1, .int .i64 o1.2.2.1.1, .int .i64 o1.2.2.1.2.1, .int .i64 o1.2.2.1.2.2, .int .i64 o1.2.2.2.1, .int .i64 o1.2.2.2.2] 43 [Value.int IntKind.i64 k2, .int .i64 u2, .int .i64 f2, .slice a2 R2.length c2, .int .i64 o2.1, .int .i64 o2.2.1, .int .i64 o2.2.2.1.1, .int .i64 o2.2.2.1.2.1, .int .i64 o2.2.2.1.2.2, .int .i64 o2.2.2.2.1, .int .i64 o2.2.2.2.2] 43
    rw [hW]
    clear hW g0 g1 g2 g3 g4 g5 g6 g7 g8 g9 g10 y0 y1 y2 y3 y4 y5 y6 y7 y8 y9 y10
    refine (HG.out W2 ((k1, u1, f1, R1, o1), a1, c1) ((k2, u2, f2, R2, o2), a2, c2) (HRX.out.keep hB2) (HRY.out.keep hB2)).mono ?_
    rintro e w3 ⟨rfl, hb3⟩
    have HB3 := Lib.hid (HB.out.trans ((hB2.trans (hb3.mono hB2.size)).mono HB.out.size))
    clear hB2 hb3 HRX HRY
    by_cases hq : (k1, u1, f1, R1, o1) = (k2, u2, f2, R2, o2)
    · rw [sameR_yes hq]
      have HQ : Hid ((k1, u1, f1, R1, o1) = (k2, u2, f2, R2, o2)) := hq
      clear hq
      go_wp2
      go_roundw
      case rel => exact ⟨j + 1, hlt, by go_num, by rw [HT1.out, HT2.out, HP.out, HQ.out], HB3.out⟩
      case measure => simp [intOf]; omega
    · rw [sameR_no hq]
      have HE : Hid (eqRs X Y = false) := eqRs_no (HNE.out hq)
      clear hq
      go_wp2
      go_ret
      exact ⟨ret_bool HE.out.symm, HB3.out⟩
end Go.Proofs.YthlhnokgcnieeadGreatDoor

/- orangerylaw.at: a number brought within bounds. -/
namespace Go.Proofs.YthlhnokgcnieeadGreatDoor
open Go.ChangeShapes Go.WideShapes Go.ChangeAt Go.RowKit
open Orangery (atI)

set_option maxHeartbeats 400000 in
theorem at_any (w : World) (k n : Int) (hn : 0 < n) (hn2 : n ≤ 4611686018427387904) :
    Calls Tryz.prog 6 #[.int .i64 k, .int .i64 n] w fun e w' => e = .returned (.int .i64 (atI k n)) ∧ w' = w := by
  obtain ⟨⟨h1, h2⟩, hat⟩ := Orangery.tmod_at k n hn
  have HA : Hid (atI k n = if k.tmod n < 0 then k.tmod n + n else k.tmod n) := hat
  have hnz : (n == 0) = false := by simp; omega
  clear hat
  by_cases hneg : k.tmod n < 0
  · go_enter Tryz.func6, Tryz.ntmps6
    go_wp2
    go_ret
    exact ⟨ret_int (by rw [HA.out, if_pos hneg]), rfl⟩
  · go_enter Tryz.func6, Tryz.ntmps6
    go_wp2
    go_ret
    exact ⟨ret_int (by rw [HA.out, if_neg (by omega)]), rfl⟩

end Go.Proofs.YthlhnokgcnieeadGreatDoor

/- orangerylaw.HubInOrder: the walk. -/
namespace Go.Proofs.YthlhnokgcnieeadGreatDoor
open Go.ChangeShapes Go.WideShapes Go.ChangeAt Go.RowKit
open Orangery (Pl Mv Stp Rc Pr Hb peerE peersE rootsOk hubE histE newHb prOf stepE stepH noHb insE insL insT checkRec nextE nextH orI ofE ofR ofK ofW runE runH replayE replayH noOp accL accH accG opsOfR foldE foldL foldT sameB)

/-- an array of three numbers -/
def Arr (W : World) (b : Nat) (f : Int → Int) : Prop := Blk W b [.int .i64 (f 0), .int .i64 (f 1), .int .i64 (f 2)]
theorem Arr.at {W : World} {b : Nat} {f : Int → Int} (h : Arr W b f) (k : Nat) (hk : k < 3) : W.cell? ⟨b, k, none⟩ = some (.int .i64 (f k)) := by
  match k, hk with
  | 0, _ => exact Blk.at h 0 rfl
  | 1, _ => exact Blk.at h 1 rfl
  | 2, _ => exact Blk.at h 2 rfl
theorem Arr.set {W : World} {b : Nat} {f g : Int → Int} (h : Arr W b f) (k : Nat) (hk : k < 3) (v : Int) (hg : ∀ i : Int, 0 ≤ i → i ≤ 2 → g i = if i = (k : Int) then v else f i) : Arr (W.setCell ⟨b, k, none⟩ (.int .i64 v)) b g := by
  have g0 := hg 0 (by omega) (by omega)
  have g1 := hg 1 (by omega) (by omega)
  have g2 := hg 2 (by omega) (by omega)
  unfold Arr
  match k, hk with
  | 0, _ => rw [g0, g1, g2]; exact Blk.set h 0 (by simp) _
  | 1, _ => rw [g0, g1, g2]; exact Blk.set h 1 (by simp) _
  | 2, _ => rw [g0, g1, g2]; exact Blk.set h 2 (by simp) _
theorem Arr.same {W : World} {b : Nat} {f g : Int → Int} (h : Arr W b f) (hg : ∀ i : Int, 0 ≤ i → i ≤ 2 → g i = f i) : Arr W b g := by
  unfold Arr
  rw [hg 0 (by omega) (by omega), hg 1 (by omega) (by omega), hg 2 (by omega) (by omega)]
  exact h
theorem Arr.keep {W W' : World} {b : Nat} {f : Int → Int} (h : Arr W b f) (hb : Below W.heap.size W W') : Arr W' b f := Blk.keep h hb
theorem Arr.grown {W W' : World} {b : Nat} {f : Int → Int} {row : Option Nat} (h : Arr W b f) (hg : W.grownBy W' row) (hne : some b ≠ row) : Arr W' b f := Blk.grown h hg hne
theorem Arr.other {W : World} {b g : Nat} {f : Int → Int} (h : Arr W b f) (hne : b ≠ g) (j : Nat) (v : Value) : Arr (W.setCell ⟨g, j, none⟩ v) b f := Blk.other h hne j v
theorem HuX.belowB {n B : Nat} {h : Hb} {w w' : World} {vs : List Value} (hx : HuX (· < n) h w vs) (hb : Below B w w') (hn : n ≤ B) : HuX (· < n) h w' vs := by
  obtain ⟨a, c, p, d, q, g, X, rfl, hx, hd⟩ := hx
  have hk : ∀ {α : Type} {a : Option Addr} {l : List α}, InL (· < n) a l → l = [] ∨ ∀ b off, a = some ⟨b, off, none⟩ → w'.heap[b]? = w.heap[b]? := by
    intro α a l h
    rcases h with h | h
    · exact Or.inl h
    · exact Or.inr (fun b off e => hb.block b (by have := h b off e; omega))
  have kE : ∀ {α : Type} {enc : α → List Value} {a : Option Addr} {l : List α}, SlE enc w a l → InL (· < n) a l → SlE enc w' a l := by
    intro α enc a l h1 h2
    rcases hk h2 with h3 | h3
    · exact Or.inl h3
    · exact h1.apartH hb.size (fun b off e _ => h3 b off e)
  refine ⟨a, c, p, d, q, g, X, rfl, ⟨kE hx.steps hd.steps, ?_, ⟨kE hx.peers.reads hd.peers, fun x hm => ⟨?_, (hx.peers.roots x hm).2⟩⟩, hx.are, hx.few1, hx.few2, hx.few3⟩, hd⟩
  · rcases hk hd.places with h3 | h3
    · exact Or.inl h3
    · exact hx.places.apartH hb.size (fun b off e _ => h3 b off e)
  · rcases hk (hd.roots x hm) with h3 | h3
    · exact Or.inl h3
    · exact (hx.peers.roots x hm).1.apartH hb.size (fun b off e _ => h3 b off e)
theorem ops_more (l : List Rc) (k : Nat) (hk : k < l.length) : opsOfR (l.take (k + 1)) = opsOfR (l.take k) ++ (if l[k].1 = 1 then [l[k].2.2.2.2] else []) := by
  rw [List.take_succ_eq_append_getElem hk, Orangery.opsOfR_app]
  congr 1
  unfold opsOfR
  by_cases h : l[k].1 = 1 <;> simp [h]
theorem ops_few (l : List Rc) : (opsOfR l).length ≤ l.length := by
  unfold opsOfR
  exact List.length_filterMap_le _ _

end Go.Proofs.YthlhnokgcnieeadGreatDoor

/- orangerylaw.HubParts: the walk. -/
namespace Go.Proofs.YthlhnokgcnieeadGreatDoor
open Go.ChangeShapes Go.WideShapes Go.ChangeAt Go.RowKit
open Orangery (Pl Mv Stp Rc Pr Hb hubE newHb prOf stepE stepH noHb nextE nextH runE runH replayE replayH checkRec recT atI diskE encR)

theorem atj_within (n : Int) (k : Nat) : ∃ m : Nat, atI n ((k : Int) + 1) = m ∧ m ≤ k := by
  have h1 := Int.emod_nonneg n (show ((k : Int) + 1) ≠ 0 by omega)
  have h2 := Int.emod_lt_of_pos n (show (0 : Int) < (k : Int) + 1 by omega)
  refine ⟨(n % ((k : Int) + 1)).toNat, ?_, by omega⟩
  unfold atI
  omega
theorem nsRm (B B' : Nat) (W : World) (x y : Rm) (hx : RootsIn B W x) (hy : RootsIn B' W y) : Calls Tryz.prog 13 #[x.val, y.val] W fun e w' => e = .returned (.bool (sameR x.1 y.1)) ∧ Below W.heap.size W w' := by
  obtain ⟨⟨k, u, f, R, o⟩, a, c⟩ := x
  obtain ⟨⟨k', u', f', R', o'⟩, a', c'⟩ := y
  exact nsame_any W k u f k' u' f' a a' c c' R R' o o' hx.few hx.reads hy.reads
theorem ns_enters : ∀ args w, (callFunc 13 args).run Tryz.prog w = .ok (.enter 13 args) w := enters_of Tryz.func13 (by kernel_rfl) rfl
theorem SlR.c {w : World} {a : Option Addr} {B : Nat} {X : List Rm} (h : SlR w a B X) : SlC w a X := ⟨h.reads, fun x hx => ⟨(h.roots x hx).reads, (h.roots x hx).few⟩⟩
theorem SlC.take {w : World} {a : Option Addr} {X : List Rq} (h : SlC w a X) (k : Nat) : SlC w a (X.take k) := ⟨SlE.take h.reads k, fun x hx => h.roots x (List.mem_of_mem_take hx)⟩
theorem run_take {l : List Rc} (h : runE newHb l = 0) (k : Nat) : runE newHb (l.take k) = 0 := by
  have h2 := (Orangery.runE_app (l.take k) (l.drop k) newHb)
  rw [List.take_append_drop] at h2
  exact (h2.1 h).1
theorem replay_take {l : List Rc} (h : runE newHb l = 0) (hl : l.length ≤ 60) (k : Nat) : replayE (l.take k) = 0 ∧ replayH (l.take k) = runH newHb (l.take k) := by
  have e : replayE (l.take k) = 0 := by rw [replay_small (by simp; omega)]; exact run_take h k
  exact ⟨e, replay_ok e⟩
theorem run_step {l : List Rc} (h : runE newHb l = 0) (k : Nat) (hk : k < l.length) : nextE (runH newHb (l.take k)) l[k] = 0 ∧ nextH (runH newHb (l.take k)) l[k] = runH newHb (l.take (k + 1)) := by
  obtain ⟨h1, h2⟩ := Orangery.run_at h k hk
  exact ⟨h1, by rw [nextH_ok h1, h2]⟩
/-- one record more put on a disk and synced -/
theorem log_step {l : List Rc} (hR : ∀ r ∈ l, checkRec r = 0) (hl : l.length ≤ 60) (k : Nat) (hk : k < l.length) :
    (putAll (encR (l.take k)) [] l[k] = 0 ∧ putS (encR (l.take k)) [] l[k] = encR (l.take k) ∧ putT (encR (l.take k)) [] l[k] = recT l[k] ++ [10]) ∧ (syncE (encR (l.take k)) (recT l[k] ++ [10]) = 0 ∧ syncS (encR (l.take k)) (recT l[k] ++ [10]) = encR (l.take (k + 1))) := by
  have hA : ∀ r ∈ l.take k, checkRec r = 0 := fun r hr => hR r (List.mem_of_mem_take hr)
  have ha : (l.take k).length ≤ 60 := by simp; omega
  have hr := hR l[k] (List.getElem_mem hk)
  obtain ⟨h1, h2, h3⟩ := Orangery.log_right (l.take k) hA ha l[k] hr
  obtain ⟨h4, h5⟩ := Orangery.log_synced (l.take k) hA l[k] hr (by simp; omega)
  have e : l.take (k + 1) = l.take k ++ [l[k]] := List.take_succ_eq_append_getElem hk
  have p : putAll (encR (l.take k)) [] l[k] = 0 := by unfold putAll; rw [if_neg (by simpa using h1)]; exact h2
  refine ⟨⟨p, ?_, ?_⟩, ?_⟩
  · unfold putS; rw [if_neg (by simpa using p)]
  · unfold putT; rw [if_neg (by simpa using p)]; rfl
  · rw [e, ← h4]
    refine sync_ok h3 ?_
    rw [h4]
    exact h5
theorem log_back {l : List Rc} (hR : ∀ r ∈ l, checkRec r = 0) (hl : l.length ≤ 60) : diskE (encR l) [] = 0 ∧ rcvL (encR l) [] = l := by
  have h1 := Orangery.disk_right l hR hl [] (by simp)
  refine ⟨h1, ?_⟩
  unfold rcvL
  rw [if_neg (by simpa using h1)]
  exact (Orangery.disk_again l hR hl).1

set_option maxHeartbeats 16000000 in
set_option maxRecDepth 100000 in
theorem hubParts_any (w : World) (a : Option Addr) (c : Nat) (X : List Rm) (n : Int) (hm : X.length ≤ maxLen) (hc : X.length ≤ c) (hc2 : c ≤ maxLen) (_hna : a = none → c = 0) (hX : SlR w a w.heap.size X) (hv : Vars w) :
    Calls Tryz.prog 3 #[.slice a X.length c, .int .i64 n] w fun e w' => e = .returned (.bool true) ∧ Below w.heap.size w w' := by
  have hm' : X.length ≤ 9223372036854775807 := hm
  have hc' : c ≤ 9223372036854775807 := hc2
  have HV := Lib.hid hv
  have HX := Lib.hid hX
  have HXC := Lib.hid hX.c
  obtain ⟨l, hl⟩ : ∃ l, X.map (·.1) = l := ⟨_, rfl⟩
  have HAT : Hid (∀ k, (hk : k < X.length) → ∃ hp : k < l.length, l[k] = X[k].1) := fun k hk => rec_at hl k hk
  have HLL : Hid (X.length = l.length) := by show _ = _; rw [← hl]; simp
  have HLT : Hid (∀ k, (X.take k).map (·.1) = l.take k) := fun k => by rw [List.map_take, hl]
  have HL := Lib.hid hl
  have HC := Lib.hid (ureplay_any w a c X l hl hm hX.c)
  have HM := Lib.hid hm
  clear hX hl hm hv hc2 _hna
  go_enter Tryz.func3, Tryz.ntmps3
  go_wp2_with fail
  refine HC.out.mono ?_
  rintro e w1 ⟨vs, rfl, hH, hb1⟩
  clear HC
  obtain ⟨a0, n0, c0, a1, n1, c1, a3, n3, c3, rfl⟩ := hH.four
  by_cases hz : replayE l = 0
  case neg =>
    have d1 : (replayE l != 0) = true := by simpa using hz
    clear hz hH
    generalize replayE l = RE at *
    generalize (replayH l).2.1 = RV at *
    have HB1 := Lib.hid hb1
    clear hb1
    go_wp2_with fail
    refine (accepted_any _).mono ?_
    rintro e w2 ⟨rfl, hb2⟩
    have HB2 := Lib.hid (HB1.out.trans (((Go.Joins.below_alloc1 w1 _).trans (hb2.mono (by simp))).mono HB1.out.size))
    clear hb2 HB1
    go_wp2_with fail
    refine (accepted_any _).mono ?_
    rintro e w3 ⟨rfl, hb3⟩
    have HB3 := Lib.hid (HB2.out.trans (hb3.mono HB2.out.size))
    clear hb3 HB2
    go_wp2
    go_ret
    exact ⟨rfl, HB3.out⟩
  have HREP : Hid (runE newHb l = 0 ∧ l.length ≤ 60 ∧ replayH l = runH newHb l) := by
    have hs : ¬ 60 < l.length := by
      intro hs
      rw [(replay_big hs).1] at hz
      omega
    exact ⟨by rw [← replay_small hs]; exact hz, by omega, replay_ok hz⟩
  have HRR := Lib.hid (Orangery.run_right l newHb HREP.out.1)
  rw [hz]
  clear hz
  have hlen60 : X.length ≤ 60 := by have := HREP.out.2.1; have := HLL.out; omega
  generalize hRH : replayH l = RH at *
  have HRH : Hid (RH = runH newHb l) := HREP.out.2.2
  clear hRH
  obtain ⟨W2, hW, hP2, hB2, -⟩ := laid1 w1 [Value.slice a0 n0 c0, .slice a1 n1 c1, .int .i64 RH.2.1, .slice a3 n3 c3] 31
  have hH2 := hH.keep hB2
  have HB2 := Lib.hid (hb1.trans (hB2.mono hb1.size))
  clear hb1 hB2 hH
  go_wp2_with fail
  clear hW
  refine (accepted_any W2).mono ?_
  rintro e w3 ⟨rfl, hb3⟩
  have hP3 := hP2.keep hb3
  have hH3 := hH2.keep hb3
  have HB3 := Lib.hid (HB2.out.trans (hb3.mono HB2.out.size))
  clear hb3 HB2 hP2 hH2
  go_wp2_with fail
  obtain ⟨j, hj, hjl⟩ := atj_within n X.length
  refine (at_any w3 n ((X.length : Int) + 1) (by omega) (by omega)).mono ?_
  rintro e w3 ⟨rfl, rfl⟩
  rw [hj]
  clear hj
  have hjc : j ≤ c := by omega
  obtain ⟨Y, hY⟩ : ∃ Y, X.take j = Y := ⟨_, rfl⟩
  have hYl : Y.length = j := by rw [← hY]; simp; omega
  obtain ⟨NH, hNH⟩ : ∃ NH, runH newHb (l.take j) = NH := ⟨_, rfl⟩
  have HCT : Hid (Calls Tryz.prog 4 #[.slice a j c] w3 (Gives (HuX (w3.heap.size ≤ ·) NH) w3 0)) := by
    have hp := ureplay_any w3 a c Y (l.take j) (by rw [← hY]; exact HLT.out j) (by have := HM.out; omega) (by rw [← hY]; exact (HXC.out.take j).keep HB3.out)
    obtain ⟨e1, e2⟩ := replay_take HREP.out.1 HREP.out.2.1 j
    rw [e1, e2, hYl, hNH] at hp
    exact hp
  have HNH := Lib.hid hNH
  clear hY hYl Y hNH
  go_wp2_with fail
  refine HCT.out.mono ?_
  rintro e w4 ⟨us, rfl, hN4, hb4⟩
  clear HCT
  obtain ⟨e0, m0, d0, e1, m1, d1, e3, m3, d3, rfl⟩ := hN4.four
  have hP4 := hP3.keep hb4
  have hH4 := hH3.low.keep hb4
  have h34 := hb4.size
  have HB4 := Lib.hid (HB3.out.trans (hb4.mono HB3.out.size))
  clear hb4 HB3 hP3 hH3
  obtain ⟨W5, hW, hQ5, hB5, -⟩ := laid1 w4 [Value.slice e0 m0 d0, .slice e1 m1 d1, .int .i64 NH.2.1, .slice e3 m3 d3] 31
  have hP5 := hP4.keep hB5
  have HH5 := Lib.hid (hH4.keep hB5)
  have hN5 := (hN4.low.keep hB5)
  have HB5 := Lib.hid (HB4.out.trans (hB5.mono HB4.out.size))
  have hw1 : w1.heap.size < w4.heap.size := hP4.lt
  have hw0 : w.heap.size ≤ w4.heap.size := HB4.out.size
  have hw34 : w3.heap.size ≤ w4.heap.size := h34
  have hw4 : w4.heap.size < W5.heap.size := hQ5.lt
  clear HB4 hP4 hH4 hN4 hB5
  go_upto_region 8 with fail
  clear hW
  go_cut [43, 44, 45] from 41 to 42 (fun s n z wc => ∃ A : Option Addr, s = .slice A (X.length - j) (c - j) ∧ n = .int .i64 ((X.length - j : Nat) : Int) ∧ z = .int .i64 0 ∧ (∀ k (hk : j + k < X.length) (W' : World), Below w.heap.size w W' → ∃ b o, A = some ⟨b, o, none⟩ ∧ b < W'.heap.size ∧ W'.rangeAt b (o + k * 11) (rqC X[j + k])) ∧ W5 = wc)
  case first =>
    by_cases hX0 : X.length = 0
    · have HX0 := Lib.hid hX0
      clear hX0
      cases a with
      | none =>
        go_wp2
        go_meet
        case rel => exact ⟨_, rfl, rfl, rfl, fun k hk => absurd hk (by have := HX0.out; omega), rfl⟩
      | some A0 =>
        by_cases hcj : c = j
        · go_wp2
          go_meet
          case rel => exact ⟨_, by rw [show c - j = 0 by omega], rfl, rfl, fun k hk => absurd hk (by have := HX0.out; omega), rfl⟩
        · go_wp2
          go_meet
          case rel => exact ⟨_, rfl, rfl, rfl, fun k hk => absurd hk (by have := HX0.out; omega), rfl⟩
    · obtain ⟨b, off, rfl, hbl, hr⟩ := HXC.out.reads.at rqC_len 0 (by omega)
      clear hr
      by_cases hcj : c = j
      · go_wp2
        go_meet
        case rel => exact ⟨_, by rw [show c - j = 0 by omega], rfl, rfl, fun k hk => absurd hk (by omega), rfl⟩
      · go_wp2
        go_meet
        case rel =>
          refine ⟨_, rfl, rfl, rfl, fun k hk W' hb' => ?_, rfl⟩
          obtain ⟨b', o', e', hb2, hr2⟩ := (HXC.out.keep hb').reads.at rqC_len (j + k) hk
          obtain ⟨rfl, rfl⟩ : b = b' ∧ off = o' := by simpa using e'
          exact ⟨b, off + j * 11, rfl, hb2, by rw [show off + j * 11 + k * 11 = off + (j + k) * 11 by omega]; exact hr2⟩
  case rest =>

    obtain ⟨A, rfl, rfl, rfl, HRD, hwc⟩ := hcut
    subst hwc
    have HRDH := Lib.hid HRD
    clear HRD
    go_wp2
    go_loopw [45] (fun i W => ∃ (k : Nat) (vs : List Value), j + k ≤ X.length ∧ i = .int .i64 k ∧ HuX (fun b => b ≠ w4.heap.size) (runH newHb (l.take (j + k))) W vs ∧ Blk W w4.heap.size vs ∧ Below w4.heap.size W5 W) (fun i _ => X.length - j - (intOf i).toNat)
    case atStart => exact ⟨0, _, by omega, rfl, by rw [Nat.add_zero, HNH.out]; exact hN5.imp (fun b hb => by omega), hQ5, Below.refl _ _⟩
    case round =>
      obtain ⟨k, vs, hk, rfl, hHx, hQr, hb⟩ := hrel
      obtain ⟨x0, z0, v0, x1, z1, v1, x3, z3, v3, rfl⟩ := hHx.four
      have hwl : w.heap.size ≤ w4.heap.size := by have := hw0; omega
      have HBr := Lib.hid hb
      have HBw := Lib.hid (HB5.out.trans (hb.mono hwl))
      clear hN5 hQ5 hb
      by_cases hlt : j + k < X.length
      · obtain ⟨hp, hpe⟩ := HAT.out (j + k) hlt
        have hst := run_step HREP.out.1 (j + k) hp
        rw [hpe] at hst
        have HST := Lib.hid hst
        obtain ⟨bx, ox, hAe, hbx, hrx⟩ := HRDH.out k hlt wr HBw.out
        have HRX := Lib.hid ((HXC.out.keep HBw.out).roots _ (List.getElem_mem hlt))
        obtain ⟨g0, g1, g2, g3, g4, g5, g6, g7, g8, g9, g10⟩ := rqC_cells hrx
        clear hrx hpe hst hp HH5 hP5
        subst hAe
        generalize X[j + k] = x at *
        obtain ⟨r, ar, cr⟩ := x
        simp only at g0 g1 g2 g3 g4 g5 g6 g7 g8 g9 g10 HRX HST
        have hlti : (k : Int) < ((X.length - j : Nat) : Int) := by omega
        have hls : w4.heap.size < wr.heap.size := hQr.lt
        have y0 := hQr.at 0 rfl
        have y1 := hQr.at 1 rfl
        have y2 := hQr.at 2 rfl
        have y3 := hQr.at 3 rfl
        have hnw4 : ¬ wr.heap.size = w4.heap.size := by omega
        generalize runH newHb (l.take (j + k)) = H at *
        go_wp2_with fail
        obtain ⟨W6, hW, -, hB6, -⟩ := laid1 wr (rcL r.1 r.2.1 r.2.2.1 (.slice ar r.2.2.2.1.length cr) r.2.2.2.2) 43
        change (wr.alloc (Obj.cells #[Value.int IntKind.i64 r.1, .int .i64 r.2.1, .int .i64 r.2.2.1, .slice ar r.2.2.2.1.length cr, .int .i64 r.2.2.2.2.1, .int .i64 r.2.2.2.2.2.1, .int .i64 r.2.2.2.2.2.2.1.1, .int .i64 r.2.2.2.2.2.2.1.2.1, .int .i64 r.2.2.2.2.2.2.1.2.2, .int .i64 r.2.2.2.2.2.2.2.1, .int .i64 r.2.2.2.2.2.2.2.2] 43)) = W6 at hW
        rw [hW]
        clear hW g0 g1 g2 g3 g4 g5 g6 g7 g8 g9 g10 y0 y1 y2 y3
        refine (unext_any W6 _ H r ar cr (hHx.keep hB6).is HRX.out.2 (HRX.out.1.below hB6)).mono ?_
        rintro e w7 ⟨us, rfl, hU, hb7⟩
        obtain ⟨f0, l0, i0, f1, l1, i1, f3, l3, i3, rfl⟩ := hU.four
        have hb7' := hB6.trans (hb7.mono hB6.size)
        have hQ7 := hQr.keep hb7'
        have hs6 := hB6.size
        rw [HST.out.1]
        have HRES : Hid (HuX (fun b => b ≠ w4.heap.size) (nextH H r) (w7.setCells w4.heap.size 0 [.slice f0 l0 i0, .slice f1 l1 i1, .int .i64 (nextH H r).2.1, .slice f3 l3 i3]) [.slice f0 l0 i0, .slice f1 l1 i1, .int .i64 (nextH H r).2.1, .slice f3 l3 i3] ∧ Blk (w7.setCells w4.heap.size 0 [.slice f0 l0 i0, .slice f1 l1 i1, .int .i64 (nextH H r).2.1, .slice f3 l3 i3]) w4.heap.size [.slice f0 l0 i0, .slice f1 l1 i1, .int .i64 (nextH H r).2.1, .slice f3 l3 i3] ∧ Below w4.heap.size W5 (w7.setCells w4.heap.size 0 [.slice f0 l0 i0, .slice f1 l1 i1, .int .i64 (nextH H r).2.1, .slice f3 l3 i3])) :=
          ⟨((hU.imp (D' := fun b => b ≠ w4.heap.size) (fun b hb => by omega)).sets w4.heap.size (fun b hb => hb) _ 0), hQ7.sets _ rfl, below_sets (HBr.out.trans (hb7'.mono (by omega))) w4.heap.size (Nat.le_refl _) _ 0⟩
        have zf := hQ7.frz
        have z0' := hQ7.at 0 rfl
        have z1' := hQ7.at 1 rfl
        have z2' := hQ7.at 2 rfl
        have z3' := hQ7.at 3 rfl
        clear hQr hHx hB6 hb7 hb7' hU hQ7 HBr
        have HNX := Lib.hid HST.out.2
        clear HST
        generalize nextH H r = H' at *
        go_wp2
        go_roundw
        case rel => exact ⟨k + 1, _, by omega, by go_num, by rw [← Nat.add_assoc, ← HNX.out]; exact HRES.out.1, HRES.out.2.1, HRES.out.2.2⟩
        case measure => simp [intOf]; omega
      · have hkX : j + k = X.length := by omega
        have HNL : Hid (runH newHb (l.take (j + k)) = RH) := by
          show _ = _
          rw [HRH.out, hkX, List.take_of_length_le (by have := HLL.out; omega)]
        rw [HNL.out] at hHx hQr
        have hP9 := hP5.below HBr.out hw1
        have HH9 := Lib.hid (HH5.out.belowB HBr.out (by omega))
        have HN9 := Lib.hid hHx.low
        have hQ9 : Blk wr w4.heap.size [.slice x0 z0 v0, .slice x1 z1 v1, .int .i64 RH.2.1, .slice x3 z3 v3] := hQr
        have hls : w4.heap.size < wr.heap.size := hQr.lt
        have hnlt : ¬ (k : Int) < ((X.length - j : Nat) : Int) := by omega
        clear HNL hP5 HH5 hHx hQr HBr HRDH hk hlt hkX
        rename World => WA
        obtain ⟨WB, hW, hD0, hB0, -⟩ := laid1 WA [Value.slice none 0 0, .slice none 0 0] 47
        have HBB := Lib.hid (HBw.out.trans (hB0.mono HBw.out.size))
        have hPB := hP9.keep hB0
        have hQB := hQ9.keep hB0
        have HHB := Lib.hid (HH9.out.keep hB0)
        have HNB := Lib.hid (HN9.out.keep hB0)
        clear hP9 hQ9 HH9 HN9 hB0 HBw
        go_wp2
        clear hW hnlt
        go_loopw [60] (fun i W => ∃ (k : Nat) (u0 u1 : Option Addr) (d0 d1 : Nat), k ≤ X.length ∧ i = .int .i64 k ∧ Blk W WA.heap.size [.slice u0 (encR (l.take k)).length d0, .slice u1 0 d1] ∧ DkIs W (dkV (.slice u0 (encR (l.take k)).length d0) (.slice u1 0 d1)) (encR (l.take k)) [] ∧ Below WA.heap.size WB W) (fun i _ => X.length - (intOf i).toNat)
        case atStart => exact ⟨0, none, none, 0, 0, Nat.zero_le _, rfl, hD0, dkIs_none _, Below.refl _ _⟩
        case round =>
          obtain ⟨k2, u0, u1, d0, d1, hk2, rfl, hDr, hDk, hb⟩ := hrel
          have HBr := Lib.hid hb
          have hwA : w.heap.size ≤ WA.heap.size := by omega
          have HBw := Lib.hid (HBB.out.trans (hb.mono hwA))
          have HVr := Lib.hid (HV.out.on HBw.out)
          clear hD0 hb
          by_cases hlt : k2 < X.length
          · obtain ⟨hp, hpe⟩ := HAT.out k2 hlt
            have hst := log_step HRR.out HREP.out.2.1 k2 hp
            rw [hpe] at hst
            have HST := Lib.hid hst
            have hXr := HX.out.keep HBw.out
            obtain ⟨bx, ox, hae, hbx, hrx⟩ := hXr.reads.at rqC_len k2 hlt
            have HRX := Lib.hid (hXr.roots _ (List.getElem_mem hlt))
            obtain ⟨g0, g1, g2, g3, g4, g5, g6, g7, g8, g9, g10⟩ := rqC_cells hrx
            clear hrx hXr hpe hst hp hPB hQB
            subst hae
            generalize X[k2] = x at *
            obtain ⟨r, ar, cr⟩ := x
            simp only at g0 g1 g2 g3 g4 g5 g6 g7 g8 g9 g10 HST
            have hlti : (k2 : Int) < (X.length : Int) := by omega
            have hlA : WA.heap.size < wr.heap.size := hDr.lt
            have hnA : ¬ wr.heap.size = WA.heap.size := by omega
            have y0 := hDr.at 0 rfl
            have y1 := hDr.at 1 rfl
            generalize encR (l.take k2) = S at *
            generalize hS' : encR (l.take (k2 + 1)) = S' at *
            have HS' := Lib.hid hS'
            clear hS'
            go_wp2_with fail
            obtain ⟨W6, hW, -, hB6, -⟩ := laid1 wr (rcL r.1 r.2.1 r.2.2.1 (.slice ar r.2.2.2.1.length cr) r.2.2.2.2) 43
            change (wr.alloc (Obj.cells #[Value.int IntKind.i64 r.1, .int .i64 r.2.1, .int .i64 r.2.2.1, .slice ar r.2.2.2.1.length cr, .int .i64 r.2.2.2.2.1, .int .i64 r.2.2.2.2.2.1, .int .i64 r.2.2.2.2.2.2.1.1, .int .i64 r.2.2.2.2.2.2.1.2.1, .int .i64 r.2.2.2.2.2.2.1.2.2, .int .i64 r.2.2.2.2.2.2.2.1, .int .i64 r.2.2.2.2.2.2.2.2] 43)) = W6 at hW
            rw [hW]
            clear hW g0 g1 g2 g3 g4 g5 g6 g7 g8 g9 g10 y0 y1
            have hkp := kput_any W6 _ S [] r.1 r.2.1 r.2.2.1 ar cr r.2.2.2.1 r.2.2.2.2 (hDk.keep hB6) HRX.out.few HRX.out.none ((HRX.out.reads).below hB6) (HVr.out.on hB6)
            have e1 : putAll S [] (r.1, r.2.1, r.2.2.1, r.2.2.2.1, r.2.2.2.2) = 0 := HST.out.1.1
            have e2 : putS S [] (r.1, r.2.1, r.2.2.1, r.2.2.2.1, r.2.2.2.2) = S := HST.out.1.2.1
            have e3 : putT S [] (r.1, r.2.1, r.2.2.1, r.2.2.2.1, r.2.2.2.2) = recT r ++ [10] := HST.out.1.2.2
            rw [e1, e2, e3] at hkp
            clear e1 e2 e3
            have HSY := Lib.hid HST.out.2
            clear HST
            obtain ⟨T, hT⟩ : ∃ T, recT r ++ [10] = T := ⟨_, rfl⟩
            rw [hT] at hkp HSY
            clear hT
            refine hkp.mono ?_
            rintro e w7 ⟨⟨v7, rfl, hN7⟩, hb7⟩
            clear hkp
            have hb7' := hB6.trans (hb7.mono hB6.size)
            have hD7 := hDr.keep hb7'
            have hs6 : WA.heap.size < W6.heap.size := by have := hB6.size; omega
            have hN7' := hN7
            obtain ⟨a7, c7, b7, j7, rfl, -, -, -, -⟩ := hN7'
            have HI7 := Lib.hid (hN7.sets hs6 [.slice a7 S.length c7, .slice b7 T.length j7] 0)
            have hD8 := hD7.sets [.slice a7 S.length c7, .slice b7 T.length j7] rfl
            have HB8 := Lib.hid (below_sets (HBr.out.trans (hb7'.mono (by omega))) WA.heap.size (Nat.le_refl _) [.slice a7 S.length c7, .slice b7 T.length j7] 0)
            have HBw8 := Lib.hid (HBB.out.trans (HB8.out.mono hwA))
            have zf := hD7.frz
            have z0' := hD7.at 0 rfl
            have z1' := hD7.at 1 rfl
            have y0 := hD8.at 0 rfl
            have y1 := hD8.at 1 rfl
            clear hDr hDk hB6 hb7 hb7' hN7 hD7 HBr HVr HBw HRX
            change w7.cell? _ = _ at z0' z1'
            go_upto_region 22 with fail
            clear zf z0' z1'
            have e5 : ((w7.setCell ⟨WA.heap.size, 0, none⟩ (.slice a7 S.length c7)).setCell ⟨WA.heap.size, 1, none⟩ (.slice b7 T.length j7)) = w7.setCells WA.heap.size 0 [.slice a7 S.length c7, .slice b7 T.length j7] := rfl
            rw [e5]
            clear e5
            generalize w7.setCells WA.heap.size 0 [.slice a7 S.length c7, .slice b7 T.length j7] = W8 at *
            go_wp2_with fail
            clear y0 y1
            have hks := ksync_any W8 _ S T HI7.out (HV.out.on HBw8.out)
            rw [HSY.out.1, HSY.out.2] at hks
            refine hks.mono ?_
            rintro e w9 ⟨⟨v9, rfl, hN9⟩, hb9⟩
            clear hks HI7 HSY
            have hlW : WA.heap.size < W8.heap.size := hD8.lt
            have hD9 := hD8.keep hb9
            have hN9' := hN9
            obtain ⟨a9, c9, b9, j9, rfl, -, -, -, -⟩ := hN9'
            have HRES : Hid (Blk (w9.setCells WA.heap.size 0 [.slice a9 S'.length c9, .slice b9 0 j9]) WA.heap.size [.slice a9 S'.length c9, .slice b9 0 j9] ∧ DkIs (w9.setCells WA.heap.size 0 [.slice a9 S'.length c9, .slice b9 0 j9]) (dkV (.slice a9 S'.length c9) (.slice b9 0 j9)) S' [] ∧ Below WA.heap.size WB (w9.setCells WA.heap.size 0 [.slice a9 S'.length c9, .slice b9 0 j9])) :=
              ⟨hD9.sets _ rfl, hN9.sets hlW _ 0, below_sets (HB8.out.trans (hb9.mono (by omega))) WA.heap.size (Nat.le_refl _) _ 0⟩
            have zf := hD9.frz
            have z0' := hD9.at 0 rfl
            have z1' := hD9.at 1 rfl
            clear hD8 HB8 HBw8 hN9 hb9 hD9
            go_wp2
            go_roundw
            case rel => exact ⟨k2 + 1, a9, b9, c9, j9, hlt, by go_num, by rw [HS'.out]; exact HRES.out⟩
            case measure => simp [intOf]; omega
          · have hkX : k2 = X.length := by omega
            have hel : encR (l.take k2) = encR l := by rw [hkX, List.take_of_length_le (by have := HLL.out; omega)]
            rw [hel] at hDr hDk
            have HLB := Lib.hid (log_back HRR.out HREP.out.2.1)
            have hPE := hPB.below HBr.out (by omega)
            have hQE := hQB.below HBr.out (by omega)
            have HHE := Lib.hid (HHB.out.belowB HBr.out (by omega))
            have HNE := Lib.hid (HNB.out.belowB HBr.out (Nat.le_refl _))
            have hnlt : ¬ (k2 : Int) < (X.length : Int) := by omega
            have HDK := Lib.hid hDk
            generalize hEL : encR l = EL at *
            have y0 := hDr.at 0 rfl
            have y1 := hDr.at 1 rfl
            clear hPB hQB HHB HNB hDk hlt hk2 HBr hel hkX
            rename World => WE
            go_wp2_with fail
            clear y0 y1 hnlt
            have hkr := krecover_any WE _ EL [] HDK.out HVr.out
            rw [HLB.out.1, HLB.out.2] at hkr
            refine hkr.mono ?_
            rintro e w8 ⟨⟨v8, lv, Y8, rfl, hN8, hO8, hY8⟩, hb8⟩
            clear hkr
            obtain ⟨a8, c8, b8, j8, rfl, -, -, -, -⟩ := hN8
            obtain ⟨aL, cL, rfl, hSL, -, -⟩ := hO8.val
            have hYl : Y8.length ≤ 1000 := by
              have e1 := congrArg List.length hY8
              rw [List.length_map] at e1
              have := HLL.out
              omega
            have hPF := hPE.keep hb8
            have hQF := hQE.keep hb8
            have HHF := Lib.hid (HHE.out.keep hb8)
            have HNF := Lib.hid (HNE.out.keep hb8)
            have HBF := Lib.hid (HBw.out.trans (hb8.mono HBw.out.size))
            clear hPE hQE HHE HNE hb8 HBw hO8 hDr HDK HVr
            obtain ⟨W9, hW, -, hB9, -⟩ := laid1 w8 [Value.slice a8 (rcvS EL []).length c8, .slice b8 0 j8] 47
            have hPG := hPF.keep hB9
            have hQG := hQF.keep hB9
            have HHG := Lib.hid (HHF.out.keep hB9)
            have HNG := Lib.hid (HNF.out.keep hB9)
            have HBG := Lib.hid (HBF.out.trans (hB9.mono HBF.out.size))
            have HSL := Lib.hid (hSL.keep hB9)
            have HY8 := Lib.hid hY8
            clear hPF hQF HHF HNF HBF hB9 hSL hY8
            have p0 := hPG.at 0 rfl
            have p1 := hPG.at 1 rfl
            have p2 := hPG.at 2 rfl
            have p3 := hPG.at 3 rfl
            have q0 := hQG.at 0 rfl
            have q1 := hQG.at 1 rfl
            have q2 := hQG.at 2 rfl
            have q3 := hQG.at 3 rfl
            go_wp2_with fail
            clear hW
            refine (usame_any W9 _ _ RH RH HNG.out.is HHG.out.is).mono ?_
            rintro e w10 ⟨rfl, hb10⟩
            rw [sameH_refl]
            have HBH := Lib.hid (HBG.out.trans (hb10.mono HBG.out.size))
            have HSM := Lib.hid (HSL.out.keep hb10)
            have HEQ := Lib.hid (eqFuncR_any w10 aL a cL c Y8 X 0 w.heap.size 13 hYl HSM.out (HX.out.keep HBH.out) ns_enters (fun W x y hx hy => nsRm 0 w.heap.size W x y hx hy))
            rw [eqRs_yes (HY8.out.trans HL.out.symm)] at HEQ
            clear p0 p1 p2 p3 q0 q1 q2 q3 hPG hQG HHG HNG HBG HSL hb10 HSM
            go_wp2_with fail
            refine HEQ.out.mono ?_
            rintro e w11 ⟨rfl, hb11⟩
            have HBI := Lib.hid (HBH.out.trans (hb11.mono HBH.out.size))
            clear HEQ hb11 HBH
            go_wp2
            go_ret
            exact ⟨rfl, HBI.out⟩

end Go.Proofs.YthlhnokgcnieeadGreatDoor

/- A tree that came in as an argument: which places it holds. -/
namespace Go.Proofs.YthlhnokgcnieeadGreatDoor
open Go.ChangeShapes Go.WideShapes Go.ChangeAt Go.RowKit
open Orangery (Pl)

theorem cells3_of {w : World} {base : Nat} {a : Addr} {cs : List Value} (h : w.cells? base a 3 = some cs) :
    ∃ x y z, cs = [x, y, z] ∧ w.cell? (a.add 0) = some x ∧ w.cell? (a.add 1) = some y ∧ w.cell? (a.add 2) = some z := by
  unfold World.cells? at h
  split at h
  · simp only [show List.range 3 = [0, 1, 2] from rfl, List.mapM_cons, List.mapM_nil] at h
    cases h0 : w.cell? (a.add 0) with
    | none => simp [h0] at h
    | some x =>
      cases h1 : w.cell? (a.add 1) with
      | none => simp [h0, h1] at h
      | some y =>
        cases h2 : w.cell? (a.add 2) with
        | none => simp [h0, h1, h2] at h
        | some z =>
          simp [h0, h1, h2] at h
          exact ⟨x, y, z, h.symm, rfl, rfl, rfl⟩
  · simp at h

theorem add_at (b off i : Nat) : (⟨b, off, none⟩ : Addr).add i = ⟨b, off + i, none⟩ := by
  unfold Addr.add
  by_cases hz : i = 0 <;> simp [hz]

/-- a slice of places that is read -/
theorem open_places {H : Type} {enc : TypeId × Value → H} {w : World} {base fuel : Nat} {spare : Nat → Bool} {held : Bool} {v : Value} {x : DataW H × List MemPlace}
    (h : DataW.trod enc Tryz.prog w base spare held fuel 24 [v] = some x) : ∃ a c, ∃ l : List Pl, v = .slice a l.length c ∧ l.length ≤ maxLen ∧ SlP w a l := by
  rcases Go.Deep.open_slice Tryz.underlying24 h with ⟨hcs, _⟩ | ⟨a, len, cap, m, n, D, Pq, hcs, _, hle, hm, hmm, _, hel⟩
  · simp at hcs
    subst hcs
    exact ⟨none, 0, [], rfl, by simp, Or.inl rfl⟩
  · simp at hcs
    subst hcs
    have hlm : len ≤ m := by rw [hmm]; split <;> omega
    have hC : Tryz.prog.cellsOf 93 = 3 := by kernel_rfl
    have hI : Tryz.prog.cellsOf 3 = 1 := by kernel_rfl
    have key : ∀ i, i < len → ∃ q : Pl, w.cell? ((a.add (i * 3)).add 0) = some (.int .i64 q.1) ∧ w.cell? ((a.add (i * 3)).add 1) = some (.int .i64 q.2.1) ∧ w.cell? ((a.add (i * 3)).add 2) = some (.int .i64 q.2.2) := by
      intro i hi
      obtain ⟨cs', h1, h2⟩ := hel i (by omega)
      rw [hC] at h1
      obtain ⟨x, y, z, rfl, c0, c1, c2⟩ := cells3_of h1
      obtain ⟨y0, y1, y2, n', _, _, t0, t1, t2⟩ := Go.Deep.trod_struct3 Tryz.underlying93 h2
      simp [hI] at t0 t1 t2
      obtain ⟨q0, e0, _, _⟩ := DataW.trod_int Tryz.underlying3 t0
      obtain ⟨q1, e1, _, _⟩ := DataW.trod_int Tryz.underlying3 t1
      obtain ⟨q2, e2, _, _⟩ := DataW.trod_int Tryz.underlying3 t2
      simp at e0 e1 e2
      subst e0 e1 e2
      exact ⟨(q0, q1, q2), c0, c1, c2⟩
    obtain ⟨f, hf⟩ := Go.Deep.choose_lt key
    refine ⟨some a, cap, (List.range len).map f, by simp, by simp; omega, ?_⟩
    by_cases hz : len = 0
    · exact Or.inl (by simp [hz])
    · right
      have h0 := (hf 0 (by omega)).1
      obtain ⟨b, off, spot⟩ := a
      have hspot : spot = none := by simpa [Addr.add] using World.cell?_spot h0
      subst hspot
      have hb : b < w.heap.size := by
        have := World.block_lt_of_cell? w _ h0
        rw [add_at, add_at] at this
        exact this
      refine ⟨b, off, rfl, hb, fun i hi => ?_⟩
      have hi' : i < len := by simpa using hi
      have := hf i hi'
      rw [add_at, add_at, add_at, add_at] at this
      simpa using this

set_option maxRecDepth 100000 in
/-- a tree that came in -/
theorem open_tree {H : Type} {enc : TypeId × Value → H} {w : World} {r : Reach} {b0 base : Nat} {spare : Nat → Bool} {held : Bool} {v : Value} {d : DataW H} {p : List MemPlace}
    (hv : Value.okWide Tryz.prog w r b0 26 v) (h : DataW.Trod enc Tryz.prog w base spare held 26 v d p) : ∃ a c, ∃ l : List Pl, v = .agg #[.slice a l.length c] ∧ l.length ≤ maxLen ∧ SlP w a l := by
  obtain ⟨cs, rfl, hsz⟩ := okWide_struct Tryz.underlying26 hv
  have hC : Tryz.prog.cellsOf 26 = 1 := by kernel_rfl
  have hD : Tryz.prog.cellsOf 24 = 1 := by kernel_rfl
  rw [hC] at hsz
  obtain ⟨c0, rfl⟩ : ∃ c0, cs = #[c0] := by
    have h1 : cs.toList.length = 1 := by simpa using hsz
    obtain ⟨x, hx⟩ := List.length_eq_one_iff.1 h1
    exact ⟨x, by cases cs; simp_all⟩
  obtain ⟨fuel, hf⟩ := h
  obtain ⟨y0, n, _, _, h0⟩ := trod_struct1 Tryz.underlying26 hf
  simp [Value.cells, hD] at h0
  obtain ⟨a, c, l, rfl, h1, h2⟩ := open_places h0
  exact ⟨a, c, l, rfl, h1, h2⟩
end Go.Proofs.YthlhnokgcnieeadGreatDoor

