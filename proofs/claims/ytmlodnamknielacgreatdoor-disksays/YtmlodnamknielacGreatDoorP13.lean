/- 1 texts of the proof: orangeryref.Recovered. -/
import Derived.Deep.RegionHeld3
import Derived.Deep.DeepCutAuto
import Derived.Test.YtmlodnamknielacGreatDoorP12
import Derived.Test.YtmlodnamknielacGreatDoorP09
import Derived.Test.YtmlodnamknielacGreatDoorP08
/- orangeryref.Recovered. -/
namespace Go.Proofs.YtmlodnamknielacGreatDoor
open Go.ChangeShapes Go.WideShapes Go.ChangeAt Go.RowKit
open Orangery (Mv Rc noRec noOp lnL lnN lnE diskE recovS recovL)

/-- what Recovered leaves -/
def RRcv (B : Nat) (w' : World) (e : Ending) (s t : List UInt8) : Prop :=
  ∃ (v' lv : Value) (X : List Rm), e = .returned (.tuple #[v', lv]) ∧ DkIs w' v' (rcvS s t) [] ∧ OwnR w' B lv 0 X ∧ X.map (·.1) = rcvL s t
set_option maxHeartbeats 8000000 in
set_option maxRecDepth 100000 in
theorem rrecovered_any (w : World) (v : Value) (s t : List UInt8) (h : DkIs w v s t) (hd : diskE s t = 0) (hv : Vars w) :
    Calls Tryz.prog 15 #[v] w fun e w' => RRcv w.heap.size w' e s t ∧ Below w.heap.size w w' := by
  obtain ⟨a, c, a', c', rfl, h1, h2⟩ := h
  have H1 := Lib.hid h1
  have H2 := Lib.hid h2
  have HV := Lib.hid hv
  have hroom : t.length ≤ c' := h2.room
  have hcap : c' ≤ 9223372036854775807 := h2.cap
  have hfit := disk_fits hd
  have HD := Lib.hid (rcv_ok hd)
  clear h1 h2 hv hd
  obtain ⟨W0, hW, hA, hR, hB, -⟩ := laid2 w [.slice a s.length c, .slice a' t.length c'] 24 [.slice none 0 0, .slice none 0 0] 24
  have x0 := hA.at 0 rfl
  have kS := SlB.text (H1.out.keep hB).reads c
  go_enter Tryz.func15, Tryz.ntmps15
  go_wp2_with fail
  clear hW x0 kS
  refine (rlines_any W0 s 60 (by omega) (by omega) (HV.out.on hB)).mono ?_
  rintro e w2 ⟨⟨v2, X, rfl, hO, hX, hF⟩, hb⟩
  have hA2 := hA.keep hb
  have hR2 := hR.keep hb
  have HB2 := Lib.hid (hB.trans (hb.mono hB.size))
  have hz : w.heap.size + 1 < W0.heap.size := hR.lt
  have hz2 : W0.heap.size ≤ w2.heap.size := hb.size
  clear hA hR hb hB
  have hXl : X.length ≤ 60 := by
    have := Orangery.lnL_len 60 s
    rw [← hX] at this
    simpa using this
  rw [← hX] at HD
  rw [List.length_map] at HD
  obtain ⟨aX, cX, rfl, -, hcX, hnX⟩ := hO.val
  have HO := Lib.hid hO
  have HF := Lib.hid hF
  have HNX : Hid (aX = none → cX = 0) := hnX
  have e60 : (60 : Int) - (X.length : Int) = ((60 - X.length : Nat) : Int) := by omega
  clear hO hF hX hnX
  obtain ⟨m, hm⟩ : ∃ m, 60 - X.length = m := ⟨_, rfl⟩
  rw [hm] at HD e60
  have hm60 : m ≤ 60 := by omega
  clear hm
  generalize lnE 60 s = E60 at *
  generalize lnN 60 s = z60 at *
  have x1 := hA2.at 1 rfl
  have kT := SlB.text (H2.out.keep HB2.out).reads c'
  go_wp2_with fail
  clear x1 kT
  refine (rlines_any w2 t m (by omega) hm60 (HV.out.on HB2.out)).mono ?_
  rintro e w3 ⟨⟨v3, Y, rfl, hO3, hY, hF3⟩, hb⟩
  have hA3 := hA2.keep hb
  have hR3 := hR2.keep hb
  have HB3 := Lib.hid (HB2.out.trans (hb.mono HB2.out.size))
  have HO2 := Lib.hid (HO.out.keep hb)
  have hz3 : w2.heap.size ≤ w3.heap.size := hb.size
  clear hA2 hR2 hb HB2 HO
  have hYl : Y.length ≤ 60 := by
    have := Orangery.lnL_len m t
    rw [← hY] at this
    simp at this
    omega
  have hNl := Orangery.lnN_len m t
  rw [← hY] at HD
  obtain ⟨aY, cY, rfl, -, hcY, hnY⟩ := hO3.val
  have HO3 := Lib.hid hO3
  have HF3 := Lib.hid hF3
  have HNY : Hid (aY = none → cY = 0) := hnY
  clear hO3 hF3 hY hnY
  generalize lnE m t = E3 at *
  generalize lnN m t = N at *
  have hNc : N ≤ c' := by omega
  have HTk : Hid ((t.take N).length = N) := by show _ = _; simp; omega
  go_upto_region 3 with fail
  have hbd : Below w3.heap.size w3 w3.drew := (Below.refl _ w3).drew
  have hS0 : Blk w3.drew w.heap.size [.slice a s.length c, .slice a' t.length c'] ∧ Below w.heap.size w w3.drew := ⟨hA3.drew, HB3.out.drew⟩
  have hR0 := hR3.drew
  have HX0 := Lib.hid (HO2.out.keep hbd)
  have HY0 := Lib.hid (HO3.out.keep hbd)
  clear hA3 hR3 HB3 HO2 HO3 hbd
  refine wp_region_held_drew (S := fun w' => Blk w' w.heap.size [.slice a s.length c, .slice a' t.length c'] ∧ Below w.heap.size w w') (by kernel_rfl) hS0 (fun hHeld => ?_)
  generalize w3.drew = V0 at *
  refine take_yes 0 29 (v := ?_) rfl rfl (by kernel_rfl) (by kernel_rfl) (by kernel_rfl) (fun _ _ _ h => h) (by rfl) ?_ hHeld ?_
  rotate_left 1
  · (intro w hSw; go_simp; try with_reducible rfl)
  simp only [Act.put, List.setIfInBounds_toArray, List.set_cons_succ, List.set_cons_zero]
  refine take_yes 1 30 (v := ?_) rfl rfl (by kernel_rfl) (by kernel_rfl) (by kernel_rfl) (fun _ _ _ h => h) (by rfl) ?_ hHeld ?_
  rotate_left 1
  · (intro w hSw; have z0 := hSw.1.at 0 rfl; go_simp; try with_reducible rfl)
  simp only [Act.put, List.setIfInBounds_toArray, List.set_cons_succ, List.set_cons_zero]
  refine take_yes 2 31 (v := ?_) rfl rfl (by kernel_rfl) (by kernel_rfl) (by kernel_rfl) (fun _ _ _ h => h) (by rfl) ?_ hHeld ?_
  rotate_left 1
  · (intro w hSw; go_simp; try with_reducible rfl)
  simp only [Act.put, List.setIfInBounds_toArray, List.set_cons_succ, List.set_cons_zero]
  refine take_yes 3 32 (v := ?_) rfl rfl (by kernel_rfl) (by kernel_rfl) (by kernel_rfl) (fun _ _ _ h => h) (by rfl) ?_ hHeld ?_
  rotate_left 1
  · (intro w hSw; have z1 := hSw.1.at 1 rfl; go_simp; try with_reducible rfl)
  simp only [Act.put, List.setIfInBounds_toArray, List.set_cons_succ, List.set_cons_zero]
  refine take_yes 4 33 (v := ?_) rfl rfl (by kernel_rfl) (by kernel_rfl) (by kernel_rfl) (fun _ _ _ h => h) (by rfl) ?_ hHeld ?_
  rotate_left 1
  · (intro w hSw; go_simp; try with_reducible rfl)
  simp only [Act.put, List.setIfInBounds_toArray, List.set_cons_succ, List.set_cons_zero]
  refine take_yes 5 34 (v := ?_) rfl rfl (by kernel_rfl) (by kernel_rfl) (by kernel_rfl) (fun _ _ _ h => h) (by rfl) ?_ hHeld ?_
  rotate_left 1
  · (intro w hSw; go_simp; try with_reducible rfl)
  simp only [Act.put, List.setIfInBounds_toArray, List.set_cons_succ, List.set_cons_zero]
  refine take_yes 9 38 (v := ?_) rfl rfl (by kernel_rfl) (by kernel_rfl) (by kernel_rfl) (fun _ _ _ h => h) (by rfl) ?_ hHeld ?_
  rotate_left 1
  · (intro w hSw; go_simp; try with_reducible rfl)
  simp only [Act.put, List.setIfInBounds_toArray, List.set_cons_succ, List.set_cons_zero]
  refine take_yes 10 39 (v := ?_) rfl rfl (by kernel_rfl) (by kernel_rfl) (by kernel_rfl) (fun _ _ _ h => h) (by rfl) ?_ hHeld ?_
  rotate_left 1
  · (intro w hSw; go_simp; try with_reducible rfl)
  simp only [Act.put, List.setIfInBounds_toArray, List.set_cons_succ, List.set_cons_zero]
  refine wpAnyH_ready (rs := [6, 11]) (by kernel_rfl) (by simp) ?_
  refine AllReadyH.cons rfl (fun KK hKK => ?_) (AllReadyH.cons rfl (fun KK hKK => ?_) AllReadyH.nil)
  · skip
    go_simp
    obtain ⟨V1, hW, hQn, hbn, -⟩ := laid1 V0 [.slice a s.length c, .slice a' N c'] 22
    rw [hW]
    clear hW
    have hltgB : V0.heap.size < V1.heap.size := hQn.lt
    obtain ⟨gB, hgB⟩ : ∃ g, V0.heap.size = g := ⟨_, rfl⟩
    rw [hgB] at hQn ⊢
    have hS1 : Blk V1 w.heap.size [.slice a s.length c, .slice a' t.length c'] ∧ Below w.heap.size w V1 := ⟨hS0.1.keep hbn, hS0.2.trans (hbn.mono (Below.size hS0.2))⟩
    have hR1 := hR0.keep hbn
    have HX1 := Lib.hid (HX0.out.keep hbn)
    have HY1 := Lib.hid (HY0.out.keep hbn)
    have hzz1 : V0.heap.size ≤ V1.heap.size := hbn.size
    have hQB1 := hQn
    clear hQn hbn
    refine hKK.out _ _ hS1 (fun hHeld => ?_)
    clear hKK KK
    refine wpAnyH_ready (rs := [7, 11]) (by kernel_rfl) (by simp) ?_
    refine AllReadyH.cons rfl (fun KK hKK => ?_) (AllReadyH.cons rfl (fun KK hKK => ?_) AllReadyH.nil)
    · skip
      go_simp
      have qb1 := hQB1.at 1 rfl
      rw [← HTk.out] at qb1
      refine (concatBts_any V1 gB a a' c c' s (t.take N) (by omega) (by rw [HTk.out]; omega) (H1.out).none (H2.out).none (hQB1.at 0 rfl) qb1 (H1.out.keep hS1.2).reads ((H2.out.keep hS1.2).take N).reads).mono ?_
      rintro e V2 ⟨v5, rfl, hO5, hbn⟩
      clear qb1
      obtain ⟨q, hq⟩ : ∃ q, q = s ++ t.take N := ⟨_, rfl⟩
      rw [← hq] at hO5
      have hql : q.length ≤ 60000 := by rw [hq, List.length_append, HTk.out]; omega
      have HQ : Hid (q = s ++ t.take N) := hq
      clear hq
      obtain ⟨a5, c5, rfl, -⟩ := OwnB.bs hO5 (by omega)
      have hob : w.heap.size + 1 < V1.heap.size := hR1.lt
      obtain ⟨bO, hbO⟩ : ∃ g, V1.heap.size = g := ⟨_, rfl⟩
      rw [hbO] at hO5 hob
      have hS2 : Blk V2 w.heap.size [.slice a s.length c, .slice a' t.length c'] ∧ Below w.heap.size w V2 := ⟨hS1.1.keep hbn, hS1.2.trans (hbn.mono (Below.size hS1.2))⟩
      have hR2 := hR1.keep hbn
      have HX2 := Lib.hid (HX1.out.keep hbn)
      have HY2 := Lib.hid (HY1.out.keep hbn)
      have hQB2 := hQB1.keep hbn
      have hzz2 : V1.heap.size ≤ V2.heap.size := hbn.size
      have HOB2 := Lib.hid hO5
      clear hO5 hbn
      go_wp2_with fail
      refine hKK.out _ _ hS2 (fun hHeld => ?_)
      clear hKK KK
      refine take_yes 8 37 (v := ?_) rfl rfl (by kernel_rfl) (by kernel_rfl) (by kernel_rfl) (fun _ _ _ h => h) (by rfl) ?_ hHeld ?_
      rotate_left 1
      · (intro w hSw; go_simp; try with_reducible rfl)
      simp only [Act.put, List.setIfInBounds_toArray, List.set_cons_succ, List.set_cons_zero]
      refine wpAnyH_ready (rs := [11]) (by kernel_rfl) (by simp) ?_
      refine AllReadyH.cons rfl (fun KK hKK => ?_) AllReadyH.nil
      go_simp
      obtain ⟨V3, hW, hQn, hbn, -⟩ := laid1 V2 [.slice aX X.length cX, .slice aY Y.length cY] 37
      rw [hW]
      clear hW
      have hltgR : V2.heap.size < V3.heap.size := hQn.lt
      obtain ⟨gR, hgR⟩ : ∃ g, V2.heap.size = g := ⟨_, rfl⟩
      rw [hgR] at hQn ⊢
      have hS3 : Blk V3 w.heap.size [.slice a s.length c, .slice a' t.length c'] ∧ Below w.heap.size w V3 := ⟨hS2.1.keep hbn, hS2.2.trans (hbn.mono (Below.size hS2.2))⟩
      have hR3 := hR2.keep hbn
      have HX3 := Lib.hid (HX2.out.keep hbn)
      have HY3 := Lib.hid (HY2.out.keep hbn)
      have hQB3 := hQB2.keep hbn
      have HOB3 := Lib.hid (OwnE.keep HOB2.out hbn)
      have hzz3 : V2.heap.size ≤ V3.heap.size := hbn.size
      have hQR3 := hQn
      clear hQn hbn
      refine hKK.out _ _ hS3 (fun hHeld => ?_)
      clear hKK KK
      refine wpAnyH_ready (rs := [12]) (by kernel_rfl) (by simp) ?_
      refine AllReadyH.cons rfl (fun KK hKK => ?_) AllReadyH.nil
      go_simp
      refine (concatRecs_any V3 gR aX aY cX cY X Y (by omega) (by omega) HNX.out HNY.out (hQR3.at 0 rfl) (hQR3.at 1 rfl) HX3.out.own.read HY3.out.own.read).mono ?_
      rintro e V4 ⟨v7, rfl, hO7, hbn⟩
      have hor : w.heap.size + 1 < V3.heap.size := hR3.lt
      obtain ⟨bR, hbR⟩ : ∃ g, V3.heap.size = g := ⟨_, rfl⟩
      rw [hbR] at hO7 hor
      have hS4 : Blk V4 w.heap.size [.slice a s.length c, .slice a' t.length c'] ∧ Below w.heap.size w V4 := ⟨hS3.1.keep hbn, hS3.2.trans (hbn.mono (Below.size hS3.2))⟩
      have hR4 := hR3.keep hbn
      have HX4 := Lib.hid (HX3.out.keep hbn)
      have HY4 := Lib.hid (HY3.out.keep hbn)
      have hQB4 := hQB3.keep hbn
      have hQR4 := hQR3.keep hbn
      have HOB4 := Lib.hid (OwnE.keep HOB3.out hbn)
      have hzz4 : V3.heap.size ≤ V4.heap.size := hbn.size
      have HO7 := Lib.hid hO7
      clear hO7 hbn
      go_wp2_with fail
      refine hKK.out _ _ hS4 (fun hHeld => ?_)
      clear hKK KK
      refine step_store 13 24 (w.heap.size + 1) [.slice a5 q.length c5, .slice none 0 0] (by kernel_rfl) rfl rfl (by rfl) (by rfl) (by rfl) (by rfl) hR4.there sizeDisk ?_ ?_ ?_
      · intro v hv; simp at hv; rcases hv with rfl | rfl <;> rfl
      · exact (show Blk (V4.setCells (w.heap.size + 1) 0 [.slice a5 q.length c5, .slice none 0 0]) w.heap.size [.slice a s.length c, .slice a' t.length c'] ∧ Below w.heap.size w (V4.setCells (w.heap.size + 1) 0 [.slice a5 q.length c5, .slice none 0 0]) from ⟨hS4.1.others (by omega) _ 0, below_sets hS4.2 (w.heap.size + 1) (by omega) _ 0⟩)
      have hHeld := (show Blk (V4.setCells (w.heap.size + 1) 0 [.slice a5 q.length c5, .slice none 0 0]) w.heap.size [.slice a s.length c, .slice a' t.length c'] ∧ Below w.heap.size w (V4.setCells (w.heap.size + 1) 0 [.slice a5 q.length c5, .slice none 0 0]) from ⟨hS4.1.others (by omega) _ 0, below_sets hS4.2 (w.heap.size + 1) (by omega) _ 0⟩)
      refine take_yes 14 3 (v := ?_) rfl rfl (by kernel_rfl) (by kernel_rfl) (by kernel_rfl) (fun _ _ _ h => h) (by rfl) ?_ hHeld ?_
      rotate_left 1
      · (intro w hSw; go_simp; try with_reducible rfl)
      simp only [Act.put, List.setIfInBounds_toArray, List.set_cons_succ, List.set_cons_zero]
      refine wpAnyH_done (by kernel_rfl) ?_ _
      have hRf := hR4.sets [.slice a5 q.length c5, .slice none 0 0] rfl
      go_wp2
      refine ret_cell_tmp Tryz.results15 rfl rfl (hRf.load Tryz.underlying24 rfl sizeDisk) ?_
      have hS := OwnB.bsi (OwnE.others (w.heap.size + 1) (by omega) [.slice a5 q.length c5, .slice none 0 0] 0 _ HOB4.out) (by omega)
      have hL := OwnE.others (w.heap.size + 1) (by omega) [.slice a5 q.length c5, .slice none 0 0] 0 _ HO7.out
      have hL2 := ownR_concat hL (fun x hx => RootsIn.sets _ 0 _ (HX4.out.roots x hx) (fun b off e => by have := HF.out x hx b off e; omega)) (fun x hx => RootsIn.sets _ 0 _ (HY4.out.roots x hx) (fun b off e => by have := HF3.out x hx b off e; omega))
      refine ⟨⟨_, _, X ++ Y, rfl, ?_, ⟨hL2.own.mono (by omega), hL2.roots⟩, by rw [HD.out.2]; simp⟩, below_sets hS4.2 (w.heap.size + 1) (by omega) [.slice a5 q.length c5, .slice none 0 0] 0⟩
      rw [HD.out.1, ← HQ.out]
      exact ⟨a5, c5, none, 0, rfl, hS, bsIs_nil _⟩
    · skip
      go_simp
      obtain ⟨V2, hW, hQn, hbn, -⟩ := laid1 V1 [.slice aX X.length cX, .slice aY Y.length cY] 37
      rw [hW]
      clear hW
      have hltgR : V1.heap.size < V2.heap.size := hQn.lt
      obtain ⟨gR, hgR⟩ : ∃ g, V1.heap.size = g := ⟨_, rfl⟩
      rw [hgR] at hQn ⊢
      have hS2 : Blk V2 w.heap.size [.slice a s.length c, .slice a' t.length c'] ∧ Below w.heap.size w V2 := ⟨hS1.1.keep hbn, hS1.2.trans (hbn.mono (Below.size hS1.2))⟩
      have hR2 := hR1.keep hbn
      have HX2 := Lib.hid (HX1.out.keep hbn)
      have HY2 := Lib.hid (HY1.out.keep hbn)
      have hQB2 := hQB1.keep hbn
      have hzz2 : V1.heap.size ≤ V2.heap.size := hbn.size
      have hQR2 := hQn
      clear hQn hbn
      refine hKK.out _ _ hS2 (fun hHeld => ?_)
      clear hKK KK
      refine wpAnyH_ready (rs := [7]) (by kernel_rfl) (by simp) ?_
      refine AllReadyH.cons rfl (fun KK hKK => ?_) AllReadyH.nil
      go_simp
      have qb1 := hQB2.at 1 rfl
      rw [← HTk.out] at qb1
      refine (concatBts_any V2 gB a a' c c' s (t.take N) (by omega) (by rw [HTk.out]; omega) (H1.out).none (H2.out).none (hQB2.at 0 rfl) qb1 (H1.out.keep hS2.2).reads ((H2.out.keep hS2.2).take N).reads).mono ?_
      rintro e V3 ⟨v5, rfl, hO5, hbn⟩
      clear qb1
      obtain ⟨q, hq⟩ : ∃ q, q = s ++ t.take N := ⟨_, rfl⟩
      rw [← hq] at hO5
      have hql : q.length ≤ 60000 := by rw [hq, List.length_append, HTk.out]; omega
      have HQ : Hid (q = s ++ t.take N) := hq
      clear hq
      obtain ⟨a5, c5, rfl, -⟩ := OwnB.bs hO5 (by omega)
      have hob : w.heap.size + 1 < V2.heap.size := hR2.lt
      obtain ⟨bO, hbO⟩ : ∃ g, V2.heap.size = g := ⟨_, rfl⟩
      rw [hbO] at hO5 hob
      have hS3 : Blk V3 w.heap.size [.slice a s.length c, .slice a' t.length c'] ∧ Below w.heap.size w V3 := ⟨hS2.1.keep hbn, hS2.2.trans (hbn.mono (Below.size hS2.2))⟩
      have hR3 := hR2.keep hbn
      have HX3 := Lib.hid (HX2.out.keep hbn)
      have HY3 := Lib.hid (HY2.out.keep hbn)
      have hQB3 := hQB2.keep hbn
      have hQR3 := hQR2.keep hbn
      have hzz3 : V2.heap.size ≤ V3.heap.size := hbn.size
      have HOB3 := Lib.hid hO5
      clear hO5 hbn
      go_wp2_with fail
      refine hKK.out _ _ hS3 (fun hHeld => ?_)
      clear hKK KK
      refine take_yes 8 37 (v := ?_) rfl rfl (by kernel_rfl) (by kernel_rfl) (by kernel_rfl) (fun _ _ _ h => h) (by rfl) ?_ hHeld ?_
      rotate_left 1
      · (intro w hSw; go_simp; try with_reducible rfl)
      simp only [Act.put, List.setIfInBounds_toArray, List.set_cons_succ, List.set_cons_zero]
      refine wpAnyH_ready (rs := [12]) (by kernel_rfl) (by simp) ?_
      refine AllReadyH.cons rfl (fun KK hKK => ?_) AllReadyH.nil
      go_simp
      refine (concatRecs_any V3 gR aX aY cX cY X Y (by omega) (by omega) HNX.out HNY.out (hQR3.at 0 rfl) (hQR3.at 1 rfl) HX3.out.own.read HY3.out.own.read).mono ?_
      rintro e V4 ⟨v7, rfl, hO7, hbn⟩
      have hor : w.heap.size + 1 < V3.heap.size := hR3.lt
      obtain ⟨bR, hbR⟩ : ∃ g, V3.heap.size = g := ⟨_, rfl⟩
      rw [hbR] at hO7 hor
      have hS4 : Blk V4 w.heap.size [.slice a s.length c, .slice a' t.length c'] ∧ Below w.heap.size w V4 := ⟨hS3.1.keep hbn, hS3.2.trans (hbn.mono (Below.size hS3.2))⟩
      have hR4 := hR3.keep hbn
      have HX4 := Lib.hid (HX3.out.keep hbn)
      have HY4 := Lib.hid (HY3.out.keep hbn)
      have hQB4 := hQB3.keep hbn
      have hQR4 := hQR3.keep hbn
      have HOB4 := Lib.hid (OwnE.keep HOB3.out hbn)
      have hzz4 : V3.heap.size ≤ V4.heap.size := hbn.size
      have HO7 := Lib.hid hO7
      clear hO7 hbn
      go_wp2_with fail
      refine hKK.out _ _ hS4 (fun hHeld => ?_)
      clear hKK KK
      refine step_store 13 24 (w.heap.size + 1) [.slice a5 q.length c5, .slice none 0 0] (by kernel_rfl) rfl rfl (by rfl) (by rfl) (by rfl) (by rfl) hR4.there sizeDisk ?_ ?_ ?_
      · intro v hv; simp at hv; rcases hv with rfl | rfl <;> rfl
      · exact (show Blk (V4.setCells (w.heap.size + 1) 0 [.slice a5 q.length c5, .slice none 0 0]) w.heap.size [.slice a s.length c, .slice a' t.length c'] ∧ Below w.heap.size w (V4.setCells (w.heap.size + 1) 0 [.slice a5 q.length c5, .slice none 0 0]) from ⟨hS4.1.others (by omega) _ 0, below_sets hS4.2 (w.heap.size + 1) (by omega) _ 0⟩)
      have hHeld := (show Blk (V4.setCells (w.heap.size + 1) 0 [.slice a5 q.length c5, .slice none 0 0]) w.heap.size [.slice a s.length c, .slice a' t.length c'] ∧ Below w.heap.size w (V4.setCells (w.heap.size + 1) 0 [.slice a5 q.length c5, .slice none 0 0]) from ⟨hS4.1.others (by omega) _ 0, below_sets hS4.2 (w.heap.size + 1) (by omega) _ 0⟩)
      refine take_yes 14 3 (v := ?_) rfl rfl (by kernel_rfl) (by kernel_rfl) (by kernel_rfl) (fun _ _ _ h => h) (by rfl) ?_ hHeld ?_
      rotate_left 1
      · (intro w hSw; go_simp; try with_reducible rfl)
      simp only [Act.put, List.setIfInBounds_toArray, List.set_cons_succ, List.set_cons_zero]
      refine wpAnyH_done (by kernel_rfl) ?_ _
      have hRf := hR4.sets [.slice a5 q.length c5, .slice none 0 0] rfl
      go_wp2
      refine ret_cell_tmp Tryz.results15 rfl rfl (hRf.load Tryz.underlying24 rfl sizeDisk) ?_
      have hS := OwnB.bsi (OwnE.others (w.heap.size + 1) (by omega) [.slice a5 q.length c5, .slice none 0 0] 0 _ HOB4.out) (by omega)
      have hL := OwnE.others (w.heap.size + 1) (by omega) [.slice a5 q.length c5, .slice none 0 0] 0 _ HO7.out
      have hL2 := ownR_concat hL (fun x hx => RootsIn.sets _ 0 _ (HX4.out.roots x hx) (fun b off e => by have := HF.out x hx b off e; omega)) (fun x hx => RootsIn.sets _ 0 _ (HY4.out.roots x hx) (fun b off e => by have := HF3.out x hx b off e; omega))
      refine ⟨⟨_, _, X ++ Y, rfl, ?_, ⟨hL2.own.mono (by omega), hL2.roots⟩, by rw [HD.out.2]; simp⟩, below_sets hS4.2 (w.heap.size + 1) (by omega) [.slice a5 q.length c5, .slice none 0 0] 0⟩
      rw [HD.out.1, ← HQ.out]
      exact ⟨a5, c5, none, 0, rfl, hS, bsIs_nil _⟩
  · skip
    go_simp
    obtain ⟨V1, hW, hQn, hbn, -⟩ := laid1 V0 [.slice aX X.length cX, .slice aY Y.length cY] 37
    rw [hW]
    clear hW
    have hltgR : V0.heap.size < V1.heap.size := hQn.lt
    obtain ⟨gR, hgR⟩ : ∃ g, V0.heap.size = g := ⟨_, rfl⟩
    rw [hgR] at hQn ⊢
    have hS1 : Blk V1 w.heap.size [.slice a s.length c, .slice a' t.length c'] ∧ Below w.heap.size w V1 := ⟨hS0.1.keep hbn, hS0.2.trans (hbn.mono (Below.size hS0.2))⟩
    have hR1 := hR0.keep hbn
    have HX1 := Lib.hid (HX0.out.keep hbn)
    have HY1 := Lib.hid (HY0.out.keep hbn)
    have hzz1 : V0.heap.size ≤ V1.heap.size := hbn.size
    have hQR1 := hQn
    clear hQn hbn
    refine hKK.out _ _ hS1 (fun hHeld => ?_)
    clear hKK KK
    refine wpAnyH_ready (rs := [6]) (by kernel_rfl) (by simp) ?_
    refine AllReadyH.cons rfl (fun KK hKK => ?_) AllReadyH.nil
    go_simp
    obtain ⟨V2, hW, hQn, hbn, -⟩ := laid1 V1 [.slice a s.length c, .slice a' N c'] 22
    rw [hW]
    clear hW
    have hltgB : V1.heap.size < V2.heap.size := hQn.lt
    obtain ⟨gB, hgB⟩ : ∃ g, V1.heap.size = g := ⟨_, rfl⟩
    rw [hgB] at hQn ⊢
    have hS2 : Blk V2 w.heap.size [.slice a s.length c, .slice a' t.length c'] ∧ Below w.heap.size w V2 := ⟨hS1.1.keep hbn, hS1.2.trans (hbn.mono (Below.size hS1.2))⟩
    have hR2 := hR1.keep hbn
    have HX2 := Lib.hid (HX1.out.keep hbn)
    have HY2 := Lib.hid (HY1.out.keep hbn)
    have hQR2 := hQR1.keep hbn
    have hzz2 : V1.heap.size ≤ V2.heap.size := hbn.size
    have hQB2 := hQn
    clear hQn hbn
    refine hKK.out _ _ hS2 (fun hHeld => ?_)
    clear hKK KK
    refine wpAnyH_ready (rs := [7]) (by kernel_rfl) (by simp) ?_
    refine AllReadyH.cons rfl (fun KK hKK => ?_) AllReadyH.nil
    go_simp
    have qb1 := hQB2.at 1 rfl
    rw [← HTk.out] at qb1
    refine (concatBts_any V2 gB a a' c c' s (t.take N) (by omega) (by rw [HTk.out]; omega) (H1.out).none (H2.out).none (hQB2.at 0 rfl) qb1 (H1.out.keep hS2.2).reads ((H2.out.keep hS2.2).take N).reads).mono ?_
    rintro e V3 ⟨v5, rfl, hO5, hbn⟩
    clear qb1
    obtain ⟨q, hq⟩ : ∃ q, q = s ++ t.take N := ⟨_, rfl⟩
    rw [← hq] at hO5
    have hql : q.length ≤ 60000 := by rw [hq, List.length_append, HTk.out]; omega
    have HQ : Hid (q = s ++ t.take N) := hq
    clear hq
    obtain ⟨a5, c5, rfl, -⟩ := OwnB.bs hO5 (by omega)
    have hob : w.heap.size + 1 < V2.heap.size := hR2.lt
    obtain ⟨bO, hbO⟩ : ∃ g, V2.heap.size = g := ⟨_, rfl⟩
    rw [hbO] at hO5 hob
    have hS3 : Blk V3 w.heap.size [.slice a s.length c, .slice a' t.length c'] ∧ Below w.heap.size w V3 := ⟨hS2.1.keep hbn, hS2.2.trans (hbn.mono (Below.size hS2.2))⟩
    have hR3 := hR2.keep hbn
    have HX3 := Lib.hid (HX2.out.keep hbn)
    have HY3 := Lib.hid (HY2.out.keep hbn)
    have hQB3 := hQB2.keep hbn
    have hQR3 := hQR2.keep hbn
    have hzz3 : V2.heap.size ≤ V3.heap.size := hbn.size
    have HOB3 := Lib.hid hO5
    clear hO5 hbn
    go_wp2_with fail
    refine hKK.out _ _ hS3 (fun hHeld => ?_)
    clear hKK KK
    refine take_yes 8 37 (v := ?_) rfl rfl (by kernel_rfl) (by kernel_rfl) (by kernel_rfl) (fun _ _ _ h => h) (by rfl) ?_ hHeld ?_
    rotate_left 1
    · (intro w hSw; go_simp; try with_reducible rfl)
    simp only [Act.put, List.setIfInBounds_toArray, List.set_cons_succ, List.set_cons_zero]
    refine wpAnyH_ready (rs := [12]) (by kernel_rfl) (by simp) ?_
    refine AllReadyH.cons rfl (fun KK hKK => ?_) AllReadyH.nil
    go_simp
    refine (concatRecs_any V3 gR aX aY cX cY X Y (by omega) (by omega) HNX.out HNY.out (hQR3.at 0 rfl) (hQR3.at 1 rfl) HX3.out.own.read HY3.out.own.read).mono ?_
    rintro e V4 ⟨v7, rfl, hO7, hbn⟩
    have hor : w.heap.size + 1 < V3.heap.size := hR3.lt
    obtain ⟨bR, hbR⟩ : ∃ g, V3.heap.size = g := ⟨_, rfl⟩
    rw [hbR] at hO7 hor
    have hS4 : Blk V4 w.heap.size [.slice a s.length c, .slice a' t.length c'] ∧ Below w.heap.size w V4 := ⟨hS3.1.keep hbn, hS3.2.trans (hbn.mono (Below.size hS3.2))⟩
    have hR4 := hR3.keep hbn
    have HX4 := Lib.hid (HX3.out.keep hbn)
    have HY4 := Lib.hid (HY3.out.keep hbn)
    have hQB4 := hQB3.keep hbn
    have hQR4 := hQR3.keep hbn
    have HOB4 := Lib.hid (OwnE.keep HOB3.out hbn)
    have hzz4 : V3.heap.size ≤ V4.heap.size := hbn.size
    have HO7 := Lib.hid hO7
    clear hO7 hbn
    go_wp2_with fail
    refine hKK.out _ _ hS4 (fun hHeld => ?_)
    clear hKK KK
    refine step_store 13 24 (w.heap.size + 1) [.slice a5 q.length c5, .slice none 0 0] (by kernel_rfl) rfl rfl (by rfl) (by rfl) (by rfl) (by rfl) hR4.there sizeDisk ?_ ?_ ?_
    · intro v hv; simp at hv; rcases hv with rfl | rfl <;> rfl
    · exact (show Blk (V4.setCells (w.heap.size + 1) 0 [.slice a5 q.length c5, .slice none 0 0]) w.heap.size [.slice a s.length c, .slice a' t.length c'] ∧ Below w.heap.size w (V4.setCells (w.heap.size + 1) 0 [.slice a5 q.length c5, .slice none 0 0]) from ⟨hS4.1.others (by omega) _ 0, below_sets hS4.2 (w.heap.size + 1) (by omega) _ 0⟩)
    have hHeld := (show Blk (V4.setCells (w.heap.size + 1) 0 [.slice a5 q.length c5, .slice none 0 0]) w.heap.size [.slice a s.length c, .slice a' t.length c'] ∧ Below w.heap.size w (V4.setCells (w.heap.size + 1) 0 [.slice a5 q.length c5, .slice none 0 0]) from ⟨hS4.1.others (by omega) _ 0, below_sets hS4.2 (w.heap.size + 1) (by omega) _ 0⟩)
    refine take_yes 14 3 (v := ?_) rfl rfl (by kernel_rfl) (by kernel_rfl) (by kernel_rfl) (fun _ _ _ h => h) (by rfl) ?_ hHeld ?_
    rotate_left 1
    · (intro w hSw; go_simp; try with_reducible rfl)
    simp only [Act.put, List.setIfInBounds_toArray, List.set_cons_succ, List.set_cons_zero]
    refine wpAnyH_done (by kernel_rfl) ?_ _
    have hRf := hR4.sets [.slice a5 q.length c5, .slice none 0 0] rfl
    go_wp2
    refine ret_cell_tmp Tryz.results15 rfl rfl (hRf.load Tryz.underlying24 rfl sizeDisk) ?_
    have hS := OwnB.bsi (OwnE.others (w.heap.size + 1) (by omega) [.slice a5 q.length c5, .slice none 0 0] 0 _ HOB4.out) (by omega)
    have hL := OwnE.others (w.heap.size + 1) (by omega) [.slice a5 q.length c5, .slice none 0 0] 0 _ HO7.out
    have hL2 := ownR_concat hL (fun x hx => RootsIn.sets _ 0 _ (HX4.out.roots x hx) (fun b off e => by have := HF.out x hx b off e; omega)) (fun x hx => RootsIn.sets _ 0 _ (HY4.out.roots x hx) (fun b off e => by have := HF3.out x hx b off e; omega))
    refine ⟨⟨_, _, X ++ Y, rfl, ?_, ⟨hL2.own.mono (by omega), hL2.roots⟩, by rw [HD.out.2]; simp⟩, below_sets hS4.2 (w.heap.size + 1) (by omega) [.slice a5 q.length c5, .slice none 0 0] 0⟩
    rw [HD.out.1, ← HQ.out]
    exact ⟨a5, c5, none, 0, rfl, hS, bsIs_nil _⟩
end Go.Proofs.YtmlodnamknielacGreatDoor

