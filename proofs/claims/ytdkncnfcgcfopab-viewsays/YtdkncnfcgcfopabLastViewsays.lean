/- ViewSays returns true for every tree, every list of roots and every two views: any roots and any view are checked, held against another one, and what is seen of any tree is told, as the document says, errors too. No condition. -/
import Derived.Deep.Slices
import Derived.Deep.Strs
import Derived.ChangeOld
import Derived.SizedLaws
import Derived.Test.YtdkncnfcgcfopabP09
import Derived.Test.YtdkncnfcgcfopabP07
import Derived.Test.YtdkncnfcgcfopabP01
import Derived.Test.YtdkncnfcgcfopabP03
import Derived.Test.YtdkncnfcgcfopabP05
/- orangerylaw.ViewSays: the walk. -/
namespace Go.Proofs.Ytdkncnfcgcfopab
open Go.ChangeShapes Go.WideShapes Go.ChangeAt Go.RowKit
open Orangery (Pl rootsOk ofE ofR ofK ofW viewE sameV)

theorem sameV_self (R : List Int) (K V : List Pl) : sameV R R K K V V = true := by simp [sameV]
theorem ofR_len (l : List Pl) (R : List Int) : (ofR l R).length ≤ maxLen := by
  by_cases h : ofE l R = 0
  · rw [(Orangery.of_ok h).1]; have := Orangery.rootsOk_len (Orangery.ofE_zero h).2; unfold maxLen; omega
  · rw [(Orangery.of_bad h).1]; simp
theorem ofK_len (l : List Pl) (R : List Int) : (ofK l R).length ≤ 15 := by
  by_cases h : ofE l R = 0
  · rw [(Orangery.of_ok h).2.1]; exact Nat.le_trans (List.length_filter_le _ _) (Orangery.check_len l (Orangery.ofE_zero h).1)
  · rw [(Orangery.of_bad h).2.1]; simp
theorem ofW_len (l : List Pl) (R : List Int) : (ofW l R).length ≤ 15 := by
  by_cases h : ofE l R = 0
  · rw [(Orangery.of_ok h).2.2]; exact Nat.le_trans (List.length_filter_le _ _) (Orangery.check_len l (Orangery.ofE_zero h).1)
  · rw [(Orangery.of_bad h).2.2]; simp

set_option maxHeartbeats 4000000 in
set_option maxRecDepth 100000 in
theorem viewSays_any (w : World) (a : Option Addr) (c : Nat) (l : List Pl) (a' : Option Addr) (c' : Nat) (R : List Int) (aR aK aV : Option Addr) (cR cK cV : Nat) (R1 : List Int) (K1 V1 : List Pl) (bR bK bV : Option Addr) (dR dK dV : Nat) (R2 : List Int) (K2 V2 : List Pl)
    (hl : l.length ≤ maxLen) (h : SlP w a l) (hR : R.length ≤ maxLen) (h' : SlI w a' R)
    (m1 : R1.length ≤ maxLen ∧ K1.length ≤ maxLen ∧ V1.length ≤ maxLen) (n1 : (aK = none → cK = 0) ∧ (aV = none → cV = 0)) (h1 : SlI w aR R1) (h2 : SlP w aK K1) (h3 : SlP w aV V1)
    (_m2 : R2.length ≤ maxLen ∧ K2.length ≤ maxLen ∧ V2.length ≤ maxLen) (_n2 : (bK = none → dK = 0) ∧ (bV = none → dV = 0)) (h4 : SlI w bR R2) (h5 : SlP w bK K2) (h6 : SlP w bV V2) :
    Calls Try.prog 6 #[.agg #[.slice a l.length c], .slice a' R.length c', viV (.slice aR R1.length cR) (.slice aK K1.length cK) (.slice aV V1.length cV), viV (.slice bR R2.length dR) (.slice bK K2.length dK) (.slice bV V2.length dV)] w
      fun e w' => e = .returned (.bool true) ∧ Below w.heap.size w w' := by
  have HL : Hid (l.length ≤ maxLen) := hl
  have HR : Hid (R.length ≤ maxLen) := hR
  have HM1 : Hid (R1.length ≤ maxLen ∧ K1.length ≤ maxLen ∧ V1.length ≤ maxLen) := m1
  have HN1 : Hid ((aK = none → cK = 0) ∧ (aV = none → cV = 0)) := n1
  have HFR : Hid ((ofR l R).length ≤ maxLen) := ofR_len l R
  have HFK : Hid ((ofK l R).length ≤ maxLen) := by show _ ≤ _; have := ofK_len l R; unfold maxLen; omega
  have HFW : Hid ((ofW l R).length ≤ maxLen) := by show _ ≤ _; have := ofW_len l R; unfold maxLen; omega
  obtain ⟨W0, hW, BT, BV, BU, hb, hS⟩ := laid3 w [Value.slice a l.length c] 26 [Value.slice aR R1.length cR, Value.slice aK K1.length cK, Value.slice aV V1.length cV] 55 [Value.slice bR R2.length dR, Value.slice bK K2.length dK, Value.slice bV V2.length dV] 55
  have HB0 : Hid (Below w.heap.size w W0) := hb
  have PT0 := h.below hb
  have PI0 := h'.below hb
  have PA0 := h1.below hb
  have PB0 := h2.below hb
  have PC0 := h3.below hb
  have PD0 := h4.below hb
  have PE0 := h5.below hb
  have PF0 := h6.below hb
  have BT0 := BT
  have BV0 := BV
  have BU0 := BU
  have t0 := BT0.at 0 rfl
  clear h h' h1 h2 h3 h4 h5 h6 hb hS BT BV BU hl hR m1 n1
  go_enter Try.func6, Try.ntmps6
  go_wp2_with fail
  clear hW t0
  refine (of_any W0 a a' c c' l R HL.out HR.out PT0 PI0).mono ?_
  rintro e w1 ⟨fR, fK, fV, gR, gK, gV, rfl, _, _, q1, q2, q3, hb⟩
  have PT1 := PT0.below hb
  have PI1 := PI0.below hb
  have PA1 := PA0.below hb
  have PB1 := PB0.below hb
  have PC1 := PC0.below hb
  have PD1 := PD0.below hb
  have PE1 := PE0.below hb
  have PF1 := PF0.below hb
  have BT1 := BT0.keep hb
  have BV1 := BV0.keep hb
  have BU1 := BU0.keep hb
  have HB1 : Hid (Below w.heap.size w w1) := HB0.out.trans (hb.mono HB0.out.size)
  clear PT0 PI0 PA0 PB0 PC0 PD0 PE0 PF0 BT0 BV0 BU0 HB0
  have QX11 := q1
  have QX21 := q2
  have QX31 := q3
  clear q1 q2 q3 hb
  obtain ⟨WX, hWX, BX_, hb, hSX⟩ := laid1 w1 [Value.slice fR (ofR l R).length gR, Value.slice fK (ofK l R).length gK, Value.slice fV (ofW l R).length gV] 55
  have PT2 := PT1.below hb
  have PI2 := PI1.below hb
  have PA2 := PA1.below hb
  have PB2 := PB1.below hb
  have PC2 := PC1.below hb
  have PD2 := PD1.below hb
  have PE2 := PE1.below hb
  have PF2 := PF1.below hb
  have BT2 := BT1.keep hb
  have BV2 := BV1.keep hb
  have BU2 := BU1.keep hb
  have QX12 := QX11.below hb
  have QX22 := QX21.below hb
  have QX32 := QX31.below hb
  have HB2 : Hid (Below w.heap.size w WX) := HB1.out.trans (hb.mono HB1.out.size)
  clear PT1 PI1 PA1 PB1 PC1 PD1 PE1 PF1 BT1 BV1 BU1 QX11 QX21 QX31 HB1
  have BX2 := BX_
  clear BX_ hSX hb
  have t0 := BT2.at 0 rfl
  go_wp2_with fail
  clear hWX t0
  refine (rseen_any WX a a' c c' l R HL.out HR.out PT2 PI2).mono ?_
  rintro e w2 ⟨sR, sK, sV, tR, tK, tV, rfl, _, _, q1, q2, q3, hb⟩
  have PT3 := PT2.below hb
  have PI3 := PI2.below hb
  have PA3 := PA2.below hb
  have PB3 := PB2.below hb
  have PC3 := PC2.below hb
  have PD3 := PD2.below hb
  have PE3 := PE2.below hb
  have PF3 := PF2.below hb
  have BT3 := BT2.keep hb
  have BV3 := BV2.keep hb
  have BU3 := BU2.keep hb
  have QX13 := QX12.below hb
  have QX23 := QX22.below hb
  have QX33 := QX32.below hb
  have BX3 := BX2.keep hb
  have HB3 : Hid (Below w.heap.size w w2) := HB2.out.trans (hb.mono HB2.out.size)
  clear PT2 PI2 PA2 PB2 PC2 PD2 PE2 PF2 BT2 BV2 BU2 QX12 QX22 QX32 BX2 HB2
  have QY13 := q1
  have QY23 := q2
  have QY33 := q3
  clear q1 q2 q3 hb
  obtain ⟨WY, hWY, BY_, hb, hSY⟩ := laid1 w2 [Value.slice sR (ofR l R).length tR, Value.slice sK (ofK l R).length tK, Value.slice sV (ofW l R).length tV] 55
  have PT4 := PT3.below hb
  have PI4 := PI3.below hb
  have PA4 := PA3.below hb
  have PB4 := PB3.below hb
  have PC4 := PC3.below hb
  have PD4 := PD3.below hb
  have PE4 := PE3.below hb
  have PF4 := PF3.below hb
  have BT4 := BT3.keep hb
  have BV4 := BV3.keep hb
  have BU4 := BU3.keep hb
  have QX14 := QX13.below hb
  have QX24 := QX23.below hb
  have QX34 := QX33.below hb
  have BX4 := BX3.keep hb
  have QY14 := QY13.below hb
  have QY24 := QY23.below hb
  have QY34 := QY33.below hb
  have HB4 : Hid (Below w.heap.size w WY) := HB3.out.trans (hb.mono HB3.out.size)
  clear PT3 PI3 PA3 PB3 PC3 PD3 PE3 PF3 BT3 BV3 BU3 QX13 QX23 QX33 BX3 QY13 QY23 QY33 HB3
  have BY4 := BY_
  clear BY_ hSY hb
  go_upto_region 3 with fail
  clear hWY
  have HPT : Hid (SlP WY a l) := PT4
  have HPI : Hid (SlI WY a' R) := PI4
  have HPA : Hid (SlI WY aR R1) := PA4
  have HPB : Hid (SlP WY aK K1) := PB4
  have HPC : Hid (SlP WY aV V1) := PC4
  have HPD : Hid (SlI WY bR R2) := PD4
  have HPE : Hid (SlP WY bK K2) := PE4
  have HPF : Hid (SlP WY bV V2) := PF4
  have HBV : Hid (Blk WY (w.heap.size + 1) [Value.slice aR R1.length cR, Value.slice aK K1.length cK, Value.slice aV V1.length cV]) := BV4
  have HBU : Hid (Blk WY (w.heap.size + 1 + 1) [Value.slice bR R2.length dR, Value.slice bK K2.length dK, Value.slice bV V2.length dV]) := BU4
  have HQX1 : Hid (SlI WY fR (ofR l R)) := QX14
  have HQX2 : Hid (SlP WY fK (ofK l R)) := QX24
  have HQX3 : Hid (SlP WY fV (ofW l R)) := QX34
  have HBX : Hid (Blk WY w1.heap.size [Value.slice fR (ofR l R).length gR, Value.slice fK (ofK l R).length gK, Value.slice fV (ofW l R).length gV]) := BX4
  have HQY1 : Hid (SlI WY sR (ofR l R)) := QY14
  have HQY2 : Hid (SlP WY sK (ofK l R)) := QY24
  have HQY3 : Hid (SlP WY sV (ofW l R)) := QY34
  have HBY : Hid (Blk WY w2.heap.size [Value.slice sR (ofR l R).length tR, Value.slice sK (ofK l R).length tK, Value.slice sV (ofW l R).length tV]) := BY4
  clear PT4 PI4 PA4 PB4 PC4 PD4 PE4 PF4 BT4 BV4 BU4 QX14 QX24 QX34 BX4 QY14 QY24 QY34 BY4
  have hS' : Below WY.heap.size WY WY.drew := (Below.refl _ WY).drew
  refine wp_region_held_drew (S := fun w' => Below WY.heap.size WY w') (by kernel_rfl) hS' (fun hHeld => ?_)
  refine wpAnyH_ready (rs := [0]) (by kernel_rfl) (by simp) ?_
  refine AllReadyH.cons rfl (fun K hK => ?_) AllReadyH.nil
  go_simp
  refine (seen_any _).mono ?_
  rintro e wn ⟨rfl, hb⟩
  have hS' : Below WY.heap.size WY wn := Below.trans hS' (hb.mono (Below.size hS'))
  go_wp2_with fail
  refine hK.out _ _ hS' (fun hHeld => ?_)
  clear hK K
  refine take_yes 1 26 (v := ?_) rfl rfl (by kernel_rfl) (by kernel_rfl) (by kernel_rfl) (fun _ _ _ h => h) (by rfl) ?_ hHeld ?_
  rotate_left 1
  · (intro w hSw; go_simp; try with_reducible rfl)
  simp only [Act.put, List.setIfInBounds_toArray, List.set_cons_succ, List.set_cons_zero]
  refine take_yes 2 27 (v := ?_) rfl rfl (by kernel_rfl) (by kernel_rfl) (by kernel_rfl) (fun _ _ _ h => h) (by rfl) ?_ hHeld ?_
  rotate_left 1
  · (intro w hSw; go_simp; try with_reducible rfl)
  simp only [Act.put, List.setIfInBounds_toArray, List.set_cons_succ, List.set_cons_zero]
  refine take_yes 4 29 (v := ?_) rfl rfl (by kernel_rfl) (by kernel_rfl) (by kernel_rfl) (fun _ _ _ h => h) (by rfl) ?_ hHeld ?_
  rotate_left 1
  · (intro w hSw; go_simp; try with_reducible rfl)
  simp only [Act.put, List.setIfInBounds_toArray, List.set_cons_succ, List.set_cons_zero]
  refine wpAnyH_ready (rs := [3]) (by kernel_rfl) (by simp) ?_
  refine AllReadyH.cons rfl (fun K hK => ?_) AllReadyH.nil
  go_simp
  refine (vroots_any _ a' c' R HR.out (HPI.out.below hS')).mono ?_
  rintro e _ ⟨rfl, rfl⟩
  go_wp2_with fail
  refine hK.out _ _ hS' (fun hHeld => ?_)
  clear hK K
  refine wpAnyH_ready (rs := [5]) (by kernel_rfl) (by simp) ?_
  refine AllReadyH.cons rfl (fun K hK => ?_) AllReadyH.nil
  go_simp
  refine (rroots_any _ a' c' R HR.out (HPI.out.below hS')).mono ?_
  rintro e _ ⟨rfl, rfl⟩
  go_wp2_with fail
  refine hK.out _ _ hS' (fun hHeld => ?_)
  clear hK K
  refine take_yes 6 31 (v := ?_) rfl rfl (by kernel_rfl) (by kernel_rfl) (by kernel_rfl) (fun _ _ _ h => h) (by rfl) ?_ hHeld ?_
  rotate_left 1
  · (intro w hSw; go_simp; try with_reducible rfl)
  simp only [Act.put, List.setIfInBounds_toArray, List.set_cons_succ, List.set_cons_zero]
  refine take_yes 7 32 (v := ?_) rfl rfl (by kernel_rfl) (by kernel_rfl) (by kernel_rfl) (fun _ _ _ h => h) (by rfl) ?_ hHeld ?_
  rotate_left 1
  · (intro w hSw; go_simp; try with_reducible rfl)
  simp only [Act.put, List.setIfInBounds_toArray, List.set_cons_succ, List.set_cons_zero]
  refine take_yes 8 33 (v := ?_) rfl rfl (by kernel_rfl) (by kernel_rfl) (by kernel_rfl) (fun _ _ _ h => h) (by rfl) ?_ hHeld ?_
  rotate_left 1
  · (intro w hSw; go_simp; try with_reducible rfl)
  simp only [Act.put, List.setIfInBounds_toArray, List.set_cons_succ, List.set_cons_zero]
  refine take_yes 9 34 (v := ?_) rfl rfl (by kernel_rfl) (by kernel_rfl) (by kernel_rfl) (fun _ _ _ h => h) (by rfl) ?_ hHeld ?_
  rotate_left 1
  · (intro w hSw; go_simp; try with_reducible rfl)
  simp only [Act.put, List.setIfInBounds_toArray, List.set_cons_succ, List.set_cons_zero]
  refine take_yes 10 35 (v := ?_) rfl rfl (by kernel_rfl) (by kernel_rfl) (by kernel_rfl) (fun _ _ _ h => h) (by rfl) ?_ hHeld ?_
  rotate_left 1
  · (intro w hSw; go_simp; try with_reducible rfl)
  simp only [Act.put, List.setIfInBounds_toArray, List.set_cons_succ, List.set_cons_zero]
  refine take_yes 11 36 (v := ?_) rfl rfl (by kernel_rfl) (by kernel_rfl) (by kernel_rfl) (fun _ _ _ h => h) (by rfl) ?_ hHeld ?_
  rotate_left 1
  · (intro w hSw; go_simp; try with_reducible rfl)
  simp only [Act.put, List.setIfInBounds_toArray, List.set_cons_succ, List.set_cons_zero]
  refine take_yes 12 37 (v := ?_) rfl rfl (by kernel_rfl) (by kernel_rfl) (by kernel_rfl) (fun _ _ _ h => h) (by rfl) ?_ hHeld ?_
  rotate_left 1
  · (intro w hSw; go_simp; try with_reducible rfl)
  simp only [Act.put, List.setIfInBounds_toArray, List.set_cons_succ, List.set_cons_zero]
  refine take_yes 13 38 (v := ?_) rfl rfl (by kernel_rfl) (by kernel_rfl) (by kernel_rfl) (fun _ _ _ h => h) (by rfl) ?_ hHeld ?_
  rotate_left 1
  · (intro w hSw; go_simp; try with_reducible rfl)
  simp only [Act.put, List.setIfInBounds_toArray, List.set_cons_succ, List.set_cons_zero]
  refine take_load 14 39 55 w1.heap.size [Value.slice fR (ofR l R).length gR, Value.slice fK (ofK l R).length gK, Value.slice fV (ofW l R).length gV] rfl rfl (by kernel_rfl) (by kernel_rfl) (by kernel_rfl) (fun _ _ _ h => h) (by rfl) (by rfl) (by rfl) (fun w hw => (HBX.out.keep hw).range) Try.underlying55 rfl sizeView hHeld ?_
  simp only [Act.put, List.setIfInBounds_toArray, List.set_cons_succ, List.set_cons_zero]
  refine take_load 15 40 55 w2.heap.size [Value.slice sR (ofR l R).length tR, Value.slice sK (ofK l R).length tK, Value.slice sV (ofW l R).length tV] rfl rfl (by kernel_rfl) (by kernel_rfl) (by kernel_rfl) (fun _ _ _ h => h) (by rfl) (by rfl) (by rfl) (fun w hw => (HBY.out.keep hw).range) Try.underlying55 rfl sizeView hHeld ?_
  simp only [Act.put, List.setIfInBounds_toArray, List.set_cons_succ, List.set_cons_zero]
  refine wpAnyH_ready (rs := [16]) (by kernel_rfl) (by simp) ?_
  refine AllReadyH.cons rfl (fun K hK => ?_) AllReadyH.nil
  go_simp
  refine (rsameV_any _ fR fK fV sR sK sV gR gK gV tR tK tV (ofR l R) (ofR l R) (ofK l R) (ofK l R) (ofW l R) (ofW l R) HFR.out HFK.out HFW.out (HQX1.out.below hS') (HQX2.out.below hS') (HQX3.out.below hS') (HQY1.out.below hS') (HQY2.out.below hS') (HQY3.out.below hS')).mono ?_
  rintro e wn ⟨rfl, hb⟩
  rw [sameV_self]
  have hS' : Below WY.heap.size WY wn := Below.trans hS' (hb.mono (Below.size hS'))
  go_wp2_with fail
  refine hK.out _ _ hS' (fun hHeld => ?_)
  clear hK K
  refine take_yes 17 42 (v := ?_) rfl rfl (by kernel_rfl) (by kernel_rfl) (by kernel_rfl) (fun _ _ _ h => h) (by rfl) ?_ hHeld ?_
  rotate_left 1
  · (intro w hSw; go_simp; try with_reducible rfl)
  simp only [Act.put, List.setIfInBounds_toArray, List.set_cons_succ, List.set_cons_zero]
  refine take_yes 18 43 (v := ?_) rfl rfl (by kernel_rfl) (by kernel_rfl) (by kernel_rfl) (fun _ _ _ h => h) (by rfl) ?_ hHeld ?_
  rotate_left 1
  · (intro w hSw; go_simp; try with_reducible rfl)
  simp only [Act.put, List.setIfInBounds_toArray, List.set_cons_succ, List.set_cons_zero]
  refine take_load 19 44 55 (w.heap.size + 1) [Value.slice aR R1.length cR, Value.slice aK K1.length cK, Value.slice aV V1.length cV] rfl rfl (by kernel_rfl) (by kernel_rfl) (by kernel_rfl) (fun _ _ _ h => h) (by rfl) (by rfl) (by rfl) (fun w hw => (HBV.out.keep hw).range) Try.underlying55 rfl sizeView hHeld ?_
  simp only [Act.put, List.setIfInBounds_toArray, List.set_cons_succ, List.set_cons_zero]
  refine take_load 21 46 55 (w.heap.size + 1) [Value.slice aR R1.length cR, Value.slice aK K1.length cK, Value.slice aV V1.length cV] rfl rfl (by kernel_rfl) (by kernel_rfl) (by kernel_rfl) (fun _ _ _ h => h) (by rfl) (by rfl) (by rfl) (fun w hw => (HBV.out.keep hw).range) Try.underlying55 rfl sizeView hHeld ?_
  simp only [Act.put, List.setIfInBounds_toArray, List.set_cons_succ, List.set_cons_zero]
  refine wpAnyH_ready (rs := [20]) (by kernel_rfl) (by simp) ?_
  refine AllReadyH.cons rfl (fun K hK => ?_) AllReadyH.nil
  go_simp
  refine (vcheck_any _ aR aK aV cR cK cV R1 K1 V1 HM1.out.1 HM1.out.2.1 HM1.out.2.2 HN1.out.2 (HPA.out.below hS') (HPB.out.below hS') (HPC.out.below hS')).mono ?_
  rintro e wn ⟨rfl, hb⟩
  have hS' : Below WY.heap.size WY wn := Below.trans hS' (hb.mono (Below.size hS'))
  go_wp2_with fail
  refine hK.out _ _ hS' (fun hHeld => ?_)
  clear hK K
  refine wpAnyH_ready (rs := [22]) (by kernel_rfl) (by simp) ?_
  refine AllReadyH.cons rfl (fun K hK => ?_) AllReadyH.nil
  go_simp
  refine (rcheckV_any _ aR aK aV cR cK cV R1 K1 V1 HM1.out.1 HM1.out.2.1 HM1.out.2.2 HN1.out.1 HN1.out.2 (HPA.out.below hS') (HPB.out.below hS') (HPC.out.below hS')).mono ?_
  rintro e wn ⟨rfl, hb⟩
  have hS' : Below WY.heap.size WY wn := Below.trans hS' (hb.mono (Below.size hS'))
  go_wp2_with fail
  refine hK.out _ _ hS' (fun hHeld => ?_)
  clear hK K
  refine take_yes 23 48 (v := ?_) rfl rfl (by kernel_rfl) (by kernel_rfl) (by kernel_rfl) (fun _ _ _ h => h) (by rfl) ?_ hHeld ?_
  rotate_left 1
  · (intro w hSw; go_simp; try with_reducible rfl)
  simp only [Act.put, List.setIfInBounds_toArray, List.set_cons_succ, List.set_cons_zero]
  refine take_yes 24 49 (v := ?_) rfl rfl (by kernel_rfl) (by kernel_rfl) (by kernel_rfl) (fun _ _ _ h => h) (by rfl) ?_ hHeld ?_
  rotate_left 1
  · (intro w hSw; go_simp; try with_reducible rfl)
  simp only [Act.put, List.setIfInBounds_toArray, List.set_cons_succ, List.set_cons_zero]
  refine take_yes 25 50 (v := ?_) rfl rfl (by kernel_rfl) (by kernel_rfl) (by kernel_rfl) (fun _ _ _ h => h) (by rfl) ?_ hHeld ?_
  rotate_left 1
  · (intro w hSw; go_simp; try with_reducible rfl)
  simp only [Act.put, List.setIfInBounds_toArray, List.set_cons_succ, List.set_cons_zero]
  refine take_load 26 51 55 (w.heap.size + 1) [Value.slice aR R1.length cR, Value.slice aK K1.length cK, Value.slice aV V1.length cV] rfl rfl (by kernel_rfl) (by kernel_rfl) (by kernel_rfl) (fun _ _ _ h => h) (by rfl) (by rfl) (by rfl) (fun w hw => (HBV.out.keep hw).range) Try.underlying55 rfl sizeView hHeld ?_
  simp only [Act.put, List.setIfInBounds_toArray, List.set_cons_succ, List.set_cons_zero]
  refine take_load 27 52 55 (w.heap.size + 1 + 1) [Value.slice bR R2.length dR, Value.slice bK K2.length dK, Value.slice bV V2.length dV] rfl rfl (by kernel_rfl) (by kernel_rfl) (by kernel_rfl) (fun _ _ _ h => h) (by rfl) (by rfl) (by rfl) (fun w hw => (HBU.out.keep hw).range) Try.underlying55 rfl sizeView hHeld ?_
  simp only [Act.put, List.setIfInBounds_toArray, List.set_cons_succ, List.set_cons_zero]
  refine take_load 29 54 55 (w.heap.size + 1) [Value.slice aR R1.length cR, Value.slice aK K1.length cK, Value.slice aV V1.length cV] rfl rfl (by kernel_rfl) (by kernel_rfl) (by kernel_rfl) (fun _ _ _ h => h) (by rfl) (by rfl) (by rfl) (fun w hw => (HBV.out.keep hw).range) Try.underlying55 rfl sizeView hHeld ?_
  simp only [Act.put, List.setIfInBounds_toArray, List.set_cons_succ, List.set_cons_zero]
  refine take_load 30 55 55 (w.heap.size + 1 + 1) [Value.slice bR R2.length dR, Value.slice bK K2.length dK, Value.slice bV V2.length dV] rfl rfl (by kernel_rfl) (by kernel_rfl) (by kernel_rfl) (fun _ _ _ h => h) (by rfl) (by rfl) (by rfl) (fun w hw => (HBU.out.keep hw).range) Try.underlying55 rfl sizeView hHeld ?_
  simp only [Act.put, List.setIfInBounds_toArray, List.set_cons_succ, List.set_cons_zero]
  refine wpAnyH_ready (rs := [28]) (by kernel_rfl) (by simp) ?_
  refine AllReadyH.cons rfl (fun K hK => ?_) AllReadyH.nil
  go_simp
  refine (vsame_any _ aR aK aV bR bK bV cR cK cV dR dK dV R1 R2 K1 K2 V1 V2 HM1.out.1 HM1.out.2.1 HM1.out.2.2 (HPA.out.below hS') (HPB.out.below hS') (HPC.out.below hS') (HPD.out.below hS') (HPE.out.below hS') (HPF.out.below hS')).mono ?_
  rintro e wn ⟨rfl, hb⟩
  have hS' : Below WY.heap.size WY wn := Below.trans hS' (hb.mono (Below.size hS'))
  go_wp2_with fail
  refine hK.out _ _ hS' (fun hHeld => ?_)
  clear hK K
  refine wpAnyH_ready (rs := [31]) (by kernel_rfl) (by simp) ?_
  refine AllReadyH.cons rfl (fun K hK => ?_) AllReadyH.nil
  go_simp
  refine (rsameV_any _ aR aK aV bR bK bV cR cK cV dR dK dV R1 R2 K1 K2 V1 V2 HM1.out.1 HM1.out.2.1 HM1.out.2.2 (HPA.out.below hS') (HPB.out.below hS') (HPC.out.below hS') (HPD.out.below hS') (HPE.out.below hS') (HPF.out.below hS')).mono ?_
  rintro e wn ⟨rfl, hb⟩
  have hS' : Below WY.heap.size WY wn := Below.trans hS' (hb.mono (Below.size hS'))
  go_wp2_with fail
  refine hK.out _ _ hS' (fun hHeld => ?_)
  clear hK K
  refine take_yes 32 57 (v := ?_) rfl rfl (by kernel_rfl) (by kernel_rfl) (by kernel_rfl) (fun _ _ _ h => h) (by rfl) ?_ hHeld ?_
  rotate_left 1
  · (intro w hSw; go_simp; try with_reducible rfl)
  simp only [Act.put, List.setIfInBounds_toArray, List.set_cons_succ, List.set_cons_zero]
  refine take_yes 33 58 (v := ?_) rfl rfl (by kernel_rfl) (by kernel_rfl) (by kernel_rfl) (fun _ _ _ h => h) (by rfl) ?_ hHeld ?_
  rotate_left 1
  · (intro w hSw; go_simp; try with_reducible rfl)
  simp only [Act.put, List.setIfInBounds_toArray, List.set_cons_succ, List.set_cons_zero]
  refine take_yes 34 8 (v := ?_) rfl rfl (by kernel_rfl) (by kernel_rfl) (by kernel_rfl) (fun _ _ _ h => h) (by rfl) ?_ hHeld ?_
  rotate_left 1
  · (intro w hSw; go_simp; try with_reducible rfl)
  simp only [Act.put, List.setIfInBounds_toArray, List.set_cons_succ, List.set_cons_zero]
  refine wpAnyH_done (by kernel_rfl) ?_ _
  go_wp2
  go_ret
  exact ⟨rfl, HB4.out.trans (hS'.mono HB4.out.size)⟩
end Go.Proofs.Ytdkncnfcgcfopab

/- A tree that came in as an argument: which places it holds. -/
namespace Go.Proofs.Ytdkncnfcgcfopab
open Go.ChangeShapes Go.WideShapes Go.ChangeAt Go.RowKit
open Orangery (Pl)

theorem cells3_of {w : World} {base : Nat} {a : Addr} {cs : List Value} (h : w.cells? base a 3 = some cs) :
    ∃ x y z, cs = [x, y, z] ∧ w.cell? (a.add 0) = some x ∧ w.cell? (a.add 1) = some y ∧ w.cell? (a.add 2) = some z := by
  unfold World.cells? at h
  split at h
  · simp only [show List.range 3 = [0, 1, 2] from rfl, List.mapM_cons, List.mapM_nil] at h
    cases h0 : w.cell? (a.add 0) with
    | none => simp [h0] at h
    | some x =>
      cases h1 : w.cell? (a.add 1) with
      | none => simp [h0, h1] at h
      | some y =>
        cases h2 : w.cell? (a.add 2) with
        | none => simp [h0, h1, h2] at h
        | some z =>
          simp [h0, h1, h2] at h
          exact ⟨x, y, z, h.symm, rfl, rfl, rfl⟩
  · simp at h

theorem add_at (b off i : Nat) : (⟨b, off, none⟩ : Addr).add i = ⟨b, off + i, none⟩ := by
  unfold Addr.add
  by_cases hz : i = 0 <;> simp [hz]

/-- a slice of places that is read -/
theorem open_places {H : Type} {enc : TypeId × Value → H} {w : World} {base fuel : Nat} {spare : Nat → Bool} {held : Bool} {v : Value} {x : DataW H × List MemPlace}
    (h : DataW.trod enc Try.prog w base spare held fuel 24 [v] = some x) : ∃ a c, ∃ l : List Pl, v = .slice a l.length c ∧ l.length ≤ maxLen ∧ SlP w a l := by
  rcases Go.Deep.open_slice Try.underlying24 h with ⟨hcs, _⟩ | ⟨a, len, cap, m, n, D, Pq, hcs, _, hle, hm, hmm, _, hel⟩
  · simp at hcs
    subst hcs
    exact ⟨none, 0, [], rfl, by simp, Or.inl rfl⟩
  · simp at hcs
    subst hcs
    have hlm : len ≤ m := by rw [hmm]; split <;> omega
    have hC : Try.prog.cellsOf 45 = 3 := by kernel_rfl
    have hI : Try.prog.cellsOf 3 = 1 := by kernel_rfl
    have key : ∀ i, i < len → ∃ q : Pl, w.cell? ((a.add (i * 3)).add 0) = some (.int .i64 q.1) ∧ w.cell? ((a.add (i * 3)).add 1) = some (.int .i64 q.2.1) ∧ w.cell? ((a.add (i * 3)).add 2) = some (.int .i64 q.2.2) := by
      intro i hi
      obtain ⟨cs', h1, h2⟩ := hel i (by omega)
      rw [hC] at h1
      obtain ⟨x, y, z, rfl, c0, c1, c2⟩ := cells3_of h1
      obtain ⟨y0, y1, y2, n', _, _, t0, t1, t2⟩ := Go.Deep.trod_struct3 Try.underlying45 h2
      simp [hI] at t0 t1 t2
      obtain ⟨q0, e0, _, _⟩ := DataW.trod_int Try.underlying3 t0
      obtain ⟨q1, e1, _, _⟩ := DataW.trod_int Try.underlying3 t1
      obtain ⟨q2, e2, _, _⟩ := DataW.trod_int Try.underlying3 t2
      simp at e0 e1 e2
      subst e0 e1 e2
      exact ⟨(q0, q1, q2), c0, c1, c2⟩
    obtain ⟨f, hf⟩ := Go.Deep.choose_lt key
    refine ⟨some a, cap, (List.range len).map f, by simp, by simp; omega, ?_⟩
    by_cases hz : len = 0
    · exact Or.inl (by simp [hz])
    · right
      have h0 := (hf 0 (by omega)).1
      obtain ⟨b, off, spot⟩ := a
      have hspot : spot = none := by simpa [Addr.add] using World.cell?_spot h0
      subst hspot
      have hb : b < w.heap.size := by
        have := World.block_lt_of_cell? w _ h0
        rw [add_at, add_at] at this
        exact this
      refine ⟨b, off, rfl, hb, fun i hi => ?_⟩
      have hi' : i < len := by simpa using hi
      have := hf i hi'
      rw [add_at, add_at, add_at, add_at] at this
      simpa using this

set_option maxRecDepth 100000 in
/-- a tree that came in -/
theorem open_tree {H : Type} {enc : TypeId × Value → H} {w : World} {r : Reach} {b0 base : Nat} {spare : Nat → Bool} {held : Bool} {v : Value} {d : DataW H} {p : List MemPlace}
    (hv : Value.okWide Try.prog w r b0 26 v) (h : DataW.Trod enc Try.prog w base spare held 26 v d p) : ∃ a c, ∃ l : List Pl, v = .agg #[.slice a l.length c] ∧ l.length ≤ maxLen ∧ SlP w a l := by
  obtain ⟨cs, rfl, hsz⟩ := okWide_struct Try.underlying26 hv
  have hC : Try.prog.cellsOf 26 = 1 := by kernel_rfl
  have hD : Try.prog.cellsOf 24 = 1 := by kernel_rfl
  rw [hC] at hsz
  obtain ⟨c0, rfl⟩ : ∃ c0, cs = #[c0] := by
    have h1 : cs.toList.length = 1 := by simpa using hsz
    obtain ⟨x, hx⟩ := List.length_eq_one_iff.1 h1
    exact ⟨x, by cases cs; simp_all⟩
  obtain ⟨fuel, hf⟩ := h
  obtain ⟨y0, n, _, _, h0⟩ := trod_struct1 Try.underlying26 hf
  simp [Value.cells, hD] at h0
  obtain ⟨a, c, l, rfl, h1, h2⟩ := open_places h0
  exact ⟨a, c, l, rfl, h1, h2⟩
end Go.Proofs.Ytdkncnfcgcfopab

/- Operations and steps that came in as arguments. -/
namespace Go.Proofs.Ytdkncnfcgcfopab
open Go.ChangeShapes Go.WideShapes Go.ChangeAt Go.RowKit
open Orangery (Pl Mv Stp)

theorem list7 {cs : List Value} (h : cs.length = 7) : ∃ a b c d e f g, cs = [a, b, c, d, e, f, g] := by
  match cs, h with
  | [a, b, c, d, e, f, g], _ => exact ⟨a, b, c, d, e, f, g, rfl⟩
theorem list11 {cs : List Value} (h : cs.length = 11) : ∃ a b c d e f g i j k l, cs = [a, b, c, d, e, f, g, i, j, k, l] := by
  match cs, h with
  | [a, b, c, d, e, f, g, i, j, k, l], _ => exact ⟨a, b, c, d, e, f, g, i, j, k, l, rfl⟩

set_option maxRecDepth 100000 in
theorem open_opC {H : Type} {enc : TypeId × Value → H} {w : World} {base fuel : Nat} {spare : Nat → Bool} {held : Bool} {cs : List Value} {x : DataW H × List MemPlace}
    (h : DataW.trod enc Try.prog w base spare held fuel 38 cs = some x) : ∃ o : Mv, cs = opC o := by
  obtain ⟨xs, n, _, _, hl, hlen, hf⟩ := DataW.trod_struct Try.underlying38 h
  have hC : Try.prog.cellsOf 38 = 7 := by kernel_rfl
  have hI : Try.prog.cellsOf 3 = 1 := by kernel_rfl
  have hT : Try.prog.cellsOf 36 = 2 := by kernel_rfl
  rw [hC] at hl
  obtain ⟨c0, c1, c2, c3, c4, c5, c6, rfl⟩ := list7 hl
  have hx : xs.length = 6 := hlen
  have g0 := hf 0 _ rfl
  have g1 := hf 1 _ rfl
  have g2 := hf 2 _ rfl
  have g3 := hf 3 _ rfl
  have g4 := hf 4 _ rfl
  have g5 := hf 5 _ rfl
  simp [hI, hT] at g0 g1 g2 g3 g4 g5
  rw [List.getElem?_eq_getElem (by omega)] at g0 g1 g2 g3 g4 g5
  obtain ⟨o3, e3, _, _⟩ := DataW.trod_int Try.underlying3 g1
  obtain ⟨o4, e4, _, _⟩ := DataW.trod_int Try.underlying3 g2
  obtain ⟨o5, e5, _, _⟩ := DataW.trod_int Try.underlying3 g3
  obtain ⟨o6, e6, _, _⟩ := DataW.trod_int Try.underlying3 g4
  obtain ⟨o7, e7, _, _⟩ := DataW.trod_int Try.underlying3 g5
  obtain ⟨y0, y1, n', _, _, t0, t1⟩ := trod_struct2 Try.underlying36 g0
  simp [hI] at t0 t1
  obtain ⟨o1, e1, _, _⟩ := DataW.trod_int Try.underlying3 t0
  obtain ⟨o2, e2, _, _⟩ := DataW.trod_int Try.underlying3 t1
  simp at e1 e2 e3 e4 e5 e6 e7
  subst e1 e2 e3 e4 e5 e6 e7
  exact ⟨(o1, o2, (o3, o4, o5), o6, o7), rfl⟩

set_option maxRecDepth 100000 in
/-- an operation that came in -/
theorem open_op {H : Type} {enc : TypeId × Value → H} {w : World} {r : Reach} {b0 base : Nat} {spare : Nat → Bool} {held : Bool} {v : Value} {d : DataW H} {p : List MemPlace}
    (hv : Value.okWide Try.prog w r b0 38 v) (h : DataW.Trod enc Try.prog w base spare held 38 v d p) : ∃ o : Mv, v = opV o := by
  obtain ⟨cs, rfl, hsz⟩ := okWide_struct Try.underlying38 hv
  obtain ⟨fuel, hf⟩ := h
  obtain ⟨o, ho⟩ := open_opC hf
  refine ⟨o, ?_⟩
  have : cs = (opC o).toArray := by rw [← ho]; simp [Value.cells]
  rw [this]
  rfl

set_option maxRecDepth 100000 in
theorem open_stC {H : Type} {enc : TypeId × Value → H} {w : World} {base fuel : Nat} {spare : Nat → Bool} {held : Bool} {cs : List Value} {x : DataW H × List MemPlace}
    (h : DataW.trod enc Try.prog w base spare held fuel 47 cs = some x) : ∃ s : Stp, cs = stC s := by
  obtain ⟨y0, y1, y2, n, _, hl, t0, t1, t2⟩ := Go.Deep.trod_struct3 Try.underlying47 h
  have hC : Try.prog.cellsOf 47 = 11 := by kernel_rfl
  have hO : Try.prog.cellsOf 38 = 7 := by kernel_rfl
  have hB : Try.prog.cellsOf 4 = 1 := by kernel_rfl
  have hP : Try.prog.cellsOf 45 = 3 := by kernel_rfl
  have hI : Try.prog.cellsOf 3 = 1 := by kernel_rfl
  rw [hC] at hl
  obtain ⟨c0, c1, c2, c3, c4, c5, c6, c7, c8, c9, c10, rfl⟩ := list11 hl
  simp [hO, hB, hP] at t0 t1 t2
  obtain ⟨o, ho⟩ := open_opC t0
  obtain ⟨b, hb, _⟩ := DataW.trod_bool Try.underlying4 t1
  obtain ⟨z0, z1, z2, n', _, _, q0, q1, q2⟩ := Go.Deep.trod_struct3 Try.underlying45 t2
  simp [hI] at q0 q1 q2
  obtain ⟨p1, e1, _, _⟩ := DataW.trod_int Try.underlying3 q0
  obtain ⟨p2, e2, _, _⟩ := DataW.trod_int Try.underlying3 q1
  obtain ⟨p3, e3, _, _⟩ := DataW.trod_int Try.underlying3 q2
  simp at e1 e2 e3 hb
  subst e1 e2 e3 hb
  simp [opC] at ho
  obtain ⟨rfl, rfl, rfl, rfl, rfl, rfl, rfl⟩ := ho
  exact ⟨(o, b, (p1, p2, p3)), rfl⟩

set_option maxRecDepth 100000 in
/-- a step that came in -/
theorem open_step {H : Type} {enc : TypeId × Value → H} {w : World} {r : Reach} {b0 base : Nat} {spare : Nat → Bool} {held : Bool} {v : Value} {d : DataW H} {p : List MemPlace}
    (hv : Value.okWide Try.prog w r b0 47 v) (h : DataW.Trod enc Try.prog w base spare held 47 v d p) : ∃ s : Stp, v = stV s := by
  obtain ⟨cs, rfl, hsz⟩ := okWide_struct Try.underlying47 hv
  obtain ⟨fuel, hf⟩ := h
  obtain ⟨o, ho⟩ := open_stC hf
  refine ⟨o, ?_⟩
  have : cs = (stC o).toArray := by rw [← ho]; simp [Value.cells]
  rw [this]
  rfl
end Go.Proofs.Ytdkncnfcgcfopab

/- Slices of operations and histories that came in as arguments, and what they weigh. -/
namespace Go.Proofs.Ytdkncnfcgcfopab
open Go.ChangeShapes Go.WideShapes Go.ChangeAt Go.RowKit
open Orangery (Pl Mv Stp)

/-- a slice of such elements that came in, with what it weighs -/
theorem open_slW {α : Type} [Inhabited α] {enc : α → List Value} {k : Nat} {H : Type} {en : TypeId × Value → H} {w : World} {base fuel : Nat} {spare : Nat → Bool} {held : Bool} {v : Value} {x : DataW H × List MemPlace} {t e : TypeId}
    (hk : ∀ x, (enc x).length = k) (hpos : 0 < k) (ht : Try.prog.underlying t = some (.slice e)) (hC : Try.prog.cellsOf e = k)
    (hel : ∀ (n : Nat) (cs : List Value) (y : DataW H × List MemPlace), DataW.trod en Try.prog w base spare held n e cs = some y → ∃ z : α, cs = enc z)
    (h : DataW.trod en Try.prog w base spare held fuel t [v] = some x) : ∃ a c, ∃ l : List α, v = .slice a l.length c ∧ l.length ≤ maxLen ∧ l.length ≤ c ∧ (c ≤ maxLen ∧ (a = none → c = 0)) ∧ SlE enc w a l ∧ (l = [] ∨ ∃ m, l.length ≤ m ∧ m * Try.prog.bytesOf e ∈ x.1.weights Try.prog t) := by
  rcases Go.Deep.open_slice ht h with ⟨hcs, _⟩ | ⟨a, len, cap, m, n, D, Pq, hcs, _, hle, hm, hmm, hxx, hx⟩
  · simp at hcs
    subst hcs
    exact ⟨none, 0, [], rfl, by simp, by simp, ⟨by simp, fun _ => rfl⟩, Or.inl rfl, Or.inl rfl⟩
  · simp at hcs
    subst hcs
    have hlm : len ≤ m := by rw [hmm]; split <;> omega
    have key : ∀ i, i < len → ∃ z : α, ∀ (j : Nat) (v : Value), (enc z)[j]? = some v → w.cell? ((a.add (i * k)).add j) = some v := by
      intro i hi
      obtain ⟨cs', h1, h2⟩ := hx i (by omega)
      rw [hC] at h1
      obtain ⟨z, rfl⟩ := hel _ _ _ h2
      exact ⟨z, (cells_range h1).2⟩
    obtain ⟨f, hf⟩ := Go.Deep.choose_lt key
    refine ⟨some a, cap, (List.range len).map f, by simp, by simp; omega, by simp; omega, ⟨hm, fun e => by simp at e⟩, ?_, Or.inr ⟨m, by simpa using hlm, ?_⟩⟩
    · by_cases hz : len = 0
      · exact Or.inl (by simp [hz])
      · right
        obtain ⟨u, hu⟩ : ∃ u, (enc (f 0))[0]? = some u := ⟨_, List.getElem?_eq_getElem (by rw [hk]; exact hpos)⟩
        have h0 := hf 0 (by omega) 0 u hu
        obtain ⟨b, off, spot⟩ := a
        have hspot : spot = none := by simpa [Addr.add] using World.cell?_spot h0
        subst hspot
        have hb : b < w.heap.size := by
          have := World.block_lt_of_cell? w _ h0
          rw [Addr.add_mid, Addr.add_mid] at this
          exact this
        refine ⟨b, off, rfl, hb, fun j v hv => ?_⟩
        have hj : j < len * k := by
          have := (List.getElem?_eq_some_iff.1 hv).1
          rw [flatE_len hk] at this
          simpa using this
        have hi : j / k < len := (Nat.div_lt_iff_lt_mul hpos).2 hj
        have hc : j % k < k := Nat.mod_lt _ hpos
        have e1 : j / k * k + j % k = j := by rw [Nat.mul_comm]; exact Nat.div_add_mod j k
        have e2 := flatE_get hk ((List.range len).map f) (j / k) (by simpa using hi) (j % k) hc
        rw [e1, hv] at e2
        have e3 := hf (j / k) hi (j % k) v (by simpa using e2.symm)
        rw [Addr.add_mid, Addr.add_mid] at e3
        rw [show off + j = off + j / k * k + j % k by omega]
        exact e3
    · subst hxx
      simp only [DataW.weights, ht]
      have e : ((List.range len).map D).length + ((List.range (m - len)).map fun j => D (len + j)).length = m := by simp; omega
      rw [e]
      exact List.mem_cons_self

set_option maxRecDepth 100000 in
/-- operations that came in -/
theorem open_ops {H : Type} {enc : TypeId × Value → H} {w : World} {r : Reach} {b0 base : Nat} {spare : Nat → Bool} {held : Bool} {v : Value} {d : DataW H} {p : List MemPlace}
    (hv : Value.okWide Try.prog w r b0 22 v) (h : DataW.Trod enc Try.prog w base spare held 22 v d p) : ∃ a c, ∃ l : List Mv, v = .slice a l.length c ∧ l.length ≤ maxLen ∧ l.length ≤ c ∧ SlE opC w a l := by
  obtain ⟨a', n', c', rfl⟩ := okWide_slice Try.underlying22 hv
  obtain ⟨fuel, hf⟩ := h
  obtain ⟨a, c, l, e, h1, h2, _, h3, _⟩ := open_slW opC_len (by omega) Try.underlying22 (by kernel_rfl) (fun n cs y hy => open_opC hy) hf
  exact ⟨a, c, l, e, h1, h2, h3⟩

set_option maxRecDepth 100000 in
/-- operations that came in, and the room behind them -/
theorem open_opsN {H : Type} {enc : TypeId × Value → H} {w : World} {r : Reach} {b0 base : Nat} {spare : Nat → Bool} {held : Bool} {v : Value} {d : DataW H} {p : List MemPlace}
    (hv : Value.okWide Try.prog w r b0 22 v) (h : DataW.Trod enc Try.prog w base spare held 22 v d p) : ∃ a c, ∃ l : List Mv, v = .slice a l.length c ∧ l.length ≤ maxLen ∧ l.length ≤ c ∧ c ≤ maxLen ∧ (a = none → c = 0) ∧ SlE opC w a l := by
  obtain ⟨a', n', c', rfl⟩ := okWide_slice Try.underlying22 hv
  obtain ⟨fuel, hf⟩ := h
  obtain ⟨a, c, l, e, h1, h2, ⟨h4, h5⟩, h3, _⟩ := open_slW opC_len (by omega) Try.underlying22 (by kernel_rfl) (fun n cs y hy => open_opC hy) hf
  exact ⟨a, c, l, e, h1, h2, h4, h5, h3⟩

set_option maxRecDepth 100000 in
/-- a history that came in -/
theorem open_hist {H : Type} {enc : TypeId × Value → H} {w : World} {r : Reach} {b0 base : Nat} {spare : Nat → Bool} {held : Bool} {v : Value} {d : DataW H} {p : List MemPlace}
    (hv : Value.okWide Try.prog w r b0 28 v) (h : DataW.Trod enc Try.prog w base spare held 28 v d p) :
    ∃ aL aT cL cT, ∃ (L : List Stp) (T : List Pl), v = hiV (.slice aL L.length cL) (.slice aT T.length cT) ∧ T.length ≤ maxLen ∧ SlE stC w aL L ∧ SlP w aT T ∧ (L = [] ∨ ∃ m, L.length ≤ m ∧ m * 88 ∈ d.weights Try.prog 28) := by
  obtain ⟨cs, rfl, hsz⟩ := okWide_struct Try.underlying28 hv
  have hC : Try.prog.cellsOf 28 = 2 := by kernel_rfl
  have hD : Try.prog.cellsOf 23 = 1 := by kernel_rfl
  have hE : Try.prog.cellsOf 26 = 1 := by kernel_rfl
  have hF : Try.prog.cellsOf 24 = 1 := by kernel_rfl
  have hby : Try.prog.bytesOf 47 = 88 := by kernel_rfl
  rw [hC] at hsz
  obtain ⟨c0, c1, rfl⟩ : ∃ c0 c1, cs = #[c0, c1] := by
    have h1 : cs.toList.length = 2 := by simpa using hsz
    cases cs with
    | mk l =>
      match l, h1 with
      | [x, y], _ => exact ⟨x, y, rfl⟩
  obtain ⟨fuel, hf⟩ := h
  obtain ⟨y0, y1, n, hd, _, h0, h1⟩ := trod_struct2 Try.underlying28 hf
  simp [Value.cells, hD, hE] at h0 h1
  obtain ⟨aL, cL, L, rfl, _, _, _, hL, hw⟩ := open_slW stC_len (by omega) Try.underlying23 (by kernel_rfl) (fun n cs y hy => open_stC hy) h0
  obtain ⟨z0, n', _, _, h2⟩ := trod_struct1 Try.underlying26 h1
  simp [hF] at h2
  obtain ⟨aT, cT, T, rfl, hT1, hT2⟩ := open_places h2
  refine ⟨aL, aT, cL, cT, L, T, rfl, hT1, hL, hT2, ?_⟩
  rcases hw with hw | ⟨m, hm, hw⟩
  · exact Or.inl hw
  · right
    refine ⟨m, hm, ?_⟩
    have e : d = .agg [y0.1, y1.1] := congrArg Prod.fst hd
    rw [e]
    rw [hby] at hw
    simp only [DataW.weights, Try.underlying28]
    exact DataW.weights_mem_each (j := 0) rfl rfl _ hw

theorem sized_hist {H : Type} {ts : List TypeId} {ds : List (DataW H)} (h : (DataW.weightsEach Try.prog ts ds).all (· ≤ reachBytes) = true) {j : Nat} {d : DataW H} (ht : ts[j]? = some 28) (hd : ds[j]? = some d) {L : List Stp}
    (hw : L = [] ∨ ∃ m, L.length ≤ m ∧ m * 88 ∈ d.weights Try.prog 28) : L.length * 88 ≤ 140737488351232 := by
  rcases hw with rfl | ⟨m, hm, hw⟩
  · simp
  · have := List.all_eq_true.1 h _ (DataW.weights_mem_each ht hd _ hw)
    have h2 : m * 88 ≤ reachBytes := by simpa using this
    unfold reachBytes at h2
    omega
end Go.Proofs.Ytdkncnfcgcfopab

/- Ints, places with the room behind them, and views that came in as arguments. -/
namespace Go.Proofs.Ytdkncnfcgcfopab
open Go.ChangeShapes Go.WideShapes Go.ChangeAt Go.RowKit
open Orangery (Pl)

def intC (x : Int) : List Value := [.int .i64 x]
theorem intC_len (x : Int) : (intC x).length = 1 := rfl

theorem sli_of {w : World} {a : Option Addr} {l : List Int} (h : SlE intC w a l) : SlI w a l := by
  rcases h with h | ⟨b, off, ha, hlt, hp⟩
  · exact Or.inl h
  · refine Or.inr ⟨b, off, ha, hlt, fun i hi => ?_⟩
    have := elemE intC_len hp i hi 0 (.int .i64 l[i]) rfl
    rw [Nat.mul_one, Nat.add_zero] at this
    exact this
theorem slp_of {w : World} {a : Option Addr} {l : List Pl} (h : SlE encPl w a l) : SlP w a l := by
  rcases h with h | ⟨b, off, ha, hlt, hp⟩
  · exact Or.inl h
  · refine Or.inr ⟨b, off, ha, hlt, fun i hi => ?_⟩
    have hr := elemE encPl_len hp i hi
    exact ⟨hr 0 _ rfl, hr 1 _ rfl, hr 2 _ rfl⟩

theorem open_intC {H : Type} {enc : TypeId × Value → H} {w : World} {base fuel : Nat} {spare : Nat → Bool} {held : Bool} {cs : List Value} {x : DataW H × List MemPlace}
    (h : DataW.trod enc Try.prog w base spare held fuel 3 cs = some x) : ∃ z : Int, cs = intC z := by
  obtain ⟨q, e, _, _⟩ := DataW.trod_int Try.underlying3 h
  exact ⟨q, e⟩
set_option maxRecDepth 100000 in
theorem open_plC {H : Type} {enc : TypeId × Value → H} {w : World} {base fuel : Nat} {spare : Nat → Bool} {held : Bool} {cs : List Value} {x : DataW H × List MemPlace}
    (h : DataW.trod enc Try.prog w base spare held fuel 45 cs = some x) : ∃ z : Pl, cs = encPl z := by
  obtain ⟨y0, y1, y2, n', _, hl, t0, t1, t2⟩ := Go.Deep.trod_struct3 Try.underlying45 h
  have hC : Try.prog.cellsOf 45 = 3 := by kernel_rfl
  have hI : Try.prog.cellsOf 3 = 1 := by kernel_rfl
  rw [hC] at hl
  obtain ⟨c0, c1, c2, rfl⟩ : ∃ c0 c1 c2, cs = [c0, c1, c2] := by
    match cs, hl with
    | [x, y, z], _ => exact ⟨x, y, z, rfl⟩
  simp [hI] at t0 t1 t2
  obtain ⟨q0, e0, _, _⟩ := DataW.trod_int Try.underlying3 t0
  obtain ⟨q1, e1, _, _⟩ := DataW.trod_int Try.underlying3 t1
  obtain ⟨q2, e2, _, _⟩ := DataW.trod_int Try.underlying3 t2
  simp at e0 e1 e2
  subst e0 e1 e2
  exact ⟨(q0, q1, q2), rfl⟩

set_option maxRecDepth 100000 in
/-- ints that came in -/
theorem open_ints {H : Type} {enc : TypeId × Value → H} {w : World} {r : Reach} {b0 base : Nat} {spare : Nat → Bool} {held : Bool} {v : Value} {d : DataW H} {p : List MemPlace}
    (hv : Value.okWide Try.prog w r b0 53 v) (h : DataW.Trod enc Try.prog w base spare held 53 v d p) : ∃ a c, ∃ l : List Int, v = .slice a l.length c ∧ l.length ≤ maxLen ∧ (l.length ≤ c ∧ c ≤ maxLen) ∧ SlI w a l := by
  obtain ⟨a', n', c', rfl⟩ := okWide_slice Try.underlying53 hv
  obtain ⟨fuel, hf⟩ := h
  obtain ⟨a, c, l, e, h1, h2, ⟨h4, _⟩, h3, _⟩ := open_slW intC_len (by omega) Try.underlying53 (by kernel_rfl) (fun n cs y hy => open_intC hy) hf
  exact ⟨a, c, l, e, h1, ⟨h2, h4⟩, sli_of h3⟩

set_option maxRecDepth 100000 in
theorem open_view {H : Type} {enc : TypeId × Value → H} {w : World} {r : Reach} {b0 base : Nat} {spare : Nat → Bool} {held : Bool} {v : Value} {d : DataW H} {p : List MemPlace}
    (hv : Value.okWide Try.prog w r b0 55 v) (h : DataW.Trod enc Try.prog w base spare held 55 v d p) :
    ∃ aR aK aW cR cK cW, ∃ (R : List Int) (K W : List Pl), v = .agg #[.slice aR R.length cR, .slice aK K.length cK, .slice aW W.length cW] ∧ (R.length ≤ maxLen ∧ K.length ≤ maxLen ∧ W.length ≤ maxLen) ∧ ((aK = none → cK = 0) ∧ (aW = none → cW = 0)) ∧ SlI w aR R ∧ SlP w aK K ∧ SlP w aW W := by
  obtain ⟨cs, rfl, hsz⟩ := okWide_struct Try.underlying55 hv
  have hC : Try.prog.cellsOf 55 = 3 := by kernel_rfl
  have hD : Try.prog.cellsOf 53 = 1 := by kernel_rfl
  have hF : Try.prog.cellsOf 24 = 1 := by kernel_rfl
  rw [hC] at hsz
  obtain ⟨c0, c1, c2, rfl⟩ : ∃ c0 c1 c2, cs = #[c0, c1, c2] := by
    have h1 : cs.toList.length = 3 := by simpa using hsz
    cases cs with
    | mk l =>
      match l, h1 with
      | [x, y, z], _ => exact ⟨x, y, z, rfl⟩
  obtain ⟨fuel, hf⟩ := h
  obtain ⟨y0, y1, y2, n, _, _, h0, h1, h2⟩ := Go.Deep.trod_struct3 Try.underlying55 hf
  simp [Value.cells, hD, hF] at h0 h1 h2
  obtain ⟨aR, cR, R, rfl, m0, _, _, hR, _⟩ := open_slW intC_len (by omega) Try.underlying53 (by kernel_rfl) (fun n cs y hy => open_intC hy) h0
  obtain ⟨aK, cK, K, rfl, m1, _, ⟨_, n1⟩, hK, _⟩ := open_slW encPl_len (by omega) Try.underlying24 (by kernel_rfl) (fun n cs y hy => open_plC hy) h1
  obtain ⟨aW, cW, W, rfl, m2, _, ⟨_, n2⟩, hW, _⟩ := open_slW encPl_len (by omega) Try.underlying24 (by kernel_rfl) (fun n cs y hy => open_plC hy) h2
  exact ⟨aR, aK, aW, cR, cK, cW, R, K, W, rfl, ⟨m0, m1, m2⟩, ⟨n1, n2⟩, sli_of hR, slp_of hK, slp_of hW⟩
end Go.Proofs.Ytdkncnfcgcfopab

/- ViewSays returns true for every tree, every list of roots and every two views: any roots and any view are checked, held against another one, and what is seen of any tree is told, as the document says, errors too. No condition. -/
namespace Go.Proofs.Ytdkncnfcgcfopab.viewSays
open Go.ChangeShapes Go.WideShapes Go.ChangeAt Go.RowKit
set_option linter.unusedVariables false

theorem own : ownKnob Try.prog.godebug = none := by kernel_rfl
theorem laidOut : laidOutB Try.prog = true := by kernel_rfl

set_option maxRecDepth 100000 in
theorem lifted (os : Os) (started : os.Started) (H : Type) (enc : TypeId × Value → H) :
    ReturnsInHanded {} Try.checked os 6 .any (Rows.viewSaysSpec.pre6 enc Try.prog Try.f6 Rows.viewSaysRow.domain false) (Rows.viewSaysSpec.post enc Try.prog Try.f6 false true false false) := by
  refine returnsInHanded_of_change (C := Try.checked) own started (by kernel_rfl) Try.func6
    (ChangeSpec.witness6 (enc := enc) (C := Try.checked) false ⟨#[], #[.agg #[.slice none 0 0], .slice none 0 0, .agg #[.slice none 0 0, .slice none 0 0, .slice none 0 0], .agg #[.slice none 0 0, .slice none 0 0, .slice none 0 0]], []⟩ 8 (by kernel_rfl) (by kernel_rfl) (by kernel_rfl) (by kernel_rfl)) ?_
  intro W base args ds gs before hval0 hW hcnd _
  have hval : ∀ (j : Nat) t v, Try.f6.params[j]? = some t → args[j]? = some v → Value.okWide Try.prog W .any base t v := hval0
  have hW' := hW
  obtain ⟨p, q, hA0, hV, rfl, hfz, hnd⟩ := hW
  have hA : DataW.TrodAll enc Try.prog W 0 (fun _ => true) true Try.f6.params.toList args.toList ds p := hA0
  rw [Try.params6] at hA hval
  obtain ⟨v0, vs0, d0, ds0, p0, q0, hargs, rfl, rfl, h0, r0⟩ := trodAll_cons hA
  obtain ⟨v1, vs1, d1, ds1, p1, q1, rfl, rfl, rfl, h1, r1⟩ := trodAll_cons r0
  obtain ⟨v2, vs2, d2, ds2, p2, q2, rfl, rfl, rfl, h2, r2⟩ := trodAll_cons r1
  obtain ⟨v3, vs3, d3, ds3, p3, q3, rfl, rfl, rfl, h3, r3⟩ := trodAll_cons r2
  obtain ⟨rfl, rfl, rfl⟩ := trodAll_nil r3
  obtain rfl : args = #[v0, v1, v2, v3] := by cases args; simp_all
  obtain ⟨rfl, rfl⟩ := trodVars_none hV
  have k0 := h0
  have lt0 : ∀ x ∈ p0, x.block < W.heap.size := by obtain ⟨m, hm⟩ := k0; exact DataW.trod_lt m _ _ _ hm
  obtain ⟨a0, c0, l0, rfl, m0, P0⟩ := open_tree (hval 0 26 v0 rfl rfl) h0
  have k1 := h1
  have lt1 : ∀ x ∈ p1, x.block < W.heap.size := by obtain ⟨m, hm⟩ := k1; exact DataW.trod_lt m _ _ _ hm
  obtain ⟨a1, c1, l1, rfl, m1, b1, P1⟩ := open_ints (hval 1 53 v1 rfl rfl) h1
  have k2 := h2
  have lt2 : ∀ x ∈ p2, x.block < W.heap.size := by obtain ⟨m, hm⟩ := k2; exact DataW.trod_lt m _ _ _ hm
  obtain ⟨aR2, aK2, aW2, cR2, cK2, cW2, R2, K2, W2, rfl, m2, n2, PR2, PK2, PW2⟩ := open_view (hval 2 55 v2 rfl rfl) h2
  have k3 := h3
  have lt3 : ∀ x ∈ p3, x.block < W.heap.size := by obtain ⟨m, hm⟩ := k3; exact DataW.trod_lt m _ _ _ hm
  obtain ⟨aR3, aK3, aW3, cR3, cK3, cW3, R3, K3, W3, rfl, m3, n3, PR3, PK3, PW3⟩ := open_view (hval 3 55 v3 rfl rfl) h3
  clear hA0 hval0
  refine (viewSays_any W a0 c0 l0 a1 c1 l1 aR2 aK2 aW2 cR2 cK2 cW2 R2 K2 W2 aR3 aK3 aW3 cR3 cK3 cW3 R3 K3 W3 m0 P0 m1 P1 m2 n2 PR2 PK2 PW2 m3 n3 PR3 PK3 PW3).mono fun e W' ⟨he, bel⟩ => ?_
  subst he
  exact ⟨_, rfl, _, _, _, [], _, [], hW', trodAll_mk1 (shut_bool Try.underlying4 _), (trodAll_cons_mk (Below.trod laidOut (by kernel_rfl) (of_decide_eq_true (by kernel_rfl)) k0 bel lt0) (trodAll_cons_mk (Below.trod laidOut (by kernel_rfl) (of_decide_eq_true (by kernel_rfl)) k1 bel lt1) (trodAll_cons_mk (Below.trod laidOut (by kernel_rfl) (of_decide_eq_true (by kernel_rfl)) k2 bel lt2) (trodAll_cons_mk (Below.trod laidOut (by kernel_rfl) (of_decide_eq_true (by kernel_rfl)) k3 bel lt3) trodAll_mk0)))), rfl, bel.frame _, fun h => by cases h⟩

theorem over : Rows.viewSaysRow.holds Try.pinned (OpenSpec.ofChange Rows.viewSaysSpec) :=
  OpenClaim.holds_of_wide 6 Try.f6 rfl rfl rfl rfl rfl rfl rfl ⟨rfl, rfl, rfl, rfl, rfl⟩ rfl rfl rfl rfl rfl (by kernel_rfl) Try.func6 (by kernel_rfl)
    (of_decide_eq_true (by kernel_rfl)) (by unfold Func.isWrapper; first | (rw [if_pos (by decide +kernel)]; kernel_rfl) | (rw [if_neg (by decide +kernel)]; exact ⟨rfl, rfl⟩))
    (fun os started H enc _ => lifted os started H enc)

/-- The statement. -/
theorem proved : Rows.ViewSaysSaid :=
  over
#print axioms proved
end Go.Proofs.Ytdkncnfcgcfopab.viewSays

