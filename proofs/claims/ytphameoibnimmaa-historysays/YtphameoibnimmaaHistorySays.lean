/- orangerylaw.HistorySays: the walk. -/
import Derived.Test.YtphameoibnimmaaRInsert
import Derived.Test.YtphameoibnimmaaFolded
namespace Go.Proofs.Ytphameoibnimmaa
open Go.ChangeShapes Go.WideShapes Go.ChangeAt Go.RowKit
open Orangery (Pl Mv Stp checkOp foldE foldL foldT histE insE insL insT sameB)

theorem sameB_self (l : List Stp) (t : List Pl) : sameB l l t t = true := (Orangery.sameB_iff l l t t).2 ⟨rfl, rfl⟩
theorem insL_len (l : List Stp) (t : List Pl) (o : Mv) : (insL l t o).length ≤ 30 := by
  unfold insL
  split
  · simp
  · exact foldL_len _
theorem insT_len (l : List Stp) (t : List Pl) (o : Mv) : (insT l t o).length ≤ 15 := by
  unfold insT
  split
  · simp
  · exact foldT_len _

set_option linter.unusedSimpArgs false in
set_option maxHeartbeats 4000000 in
set_option maxRecDepth 100000 in
theorem historySays_any (w : World) (a : Option Addr) (c : Nat) (l : List Mv) (aL aT : Option Addr) (cL cT : Nat) (L : List Stp) (T : List Pl) (o : Mv) (aM aU : Option Addr) (cM cU : Nat) (M : List Stp) (U : List Pl)
    (hl : l.length ≤ maxLen) (hc : l.length ≤ c) (h : SlE opC w a l) (hL : L.length * 88 ≤ 140737488351232) (hT : T.length ≤ maxLen) (h1 : SlE stC w aL L) (h2 : SlP w aT T) (h3 : SlE stC w aM M) (h4 : SlP w aU U) :
    Calls Try.prog 8 #[.slice a l.length c, hiV (.slice aL L.length cL) (.slice aT T.length cT), opV o, hiV (.slice aM M.length cM) (.slice aU U.length cU)] w
      fun e w' => e = .returned (.bool true) ∧ Below w.heap.size w w' := by
  have hL2 : L.length ≤ maxLen := by unfold maxLen; omega
  have HLL : Hid (L.length * 88 ≤ 140737488351232) := hL
  have HLM : Hid (L.length ≤ maxLen) := hL2
  have HTM : Hid (T.length ≤ maxLen) := hT
  have HFL : Hid (∀ m : List Mv, (foldL m).length ≤ maxLen) := fun m => by have := foldL_len m; unfold maxLen; omega
  have HFT : Hid (∀ m : List Mv, (foldT m).length ≤ maxLen) := fun m => by have := foldT_len m; unfold maxLen; omega
  have HIL : Hid ((insL L T o).length ≤ maxLen) := by show _ ≤ _; have := insL_len L T o; unfold maxLen; omega
  have HIT : Hid ((insT L T o).length ≤ maxLen) := by show _ ≤ _; have := insT_len L T o; unfold maxLen; omega
  obtain ⟨W0, hW, BH, BO, BG, hb, hS⟩ := laid3 w [Value.slice aL L.length cL, Value.slice aT T.length cT] 62 [Value.int IntKind.i64 o.1, Value.int IntKind.i64 o.2.1, Value.int IntKind.i64 o.2.2.1.1, Value.int IntKind.i64 o.2.2.1.2.1, Value.int IntKind.i64 o.2.2.1.2.2, Value.int IntKind.i64 o.2.2.2.1, Value.int IntKind.i64 o.2.2.2.2] 49 [Value.slice aM M.length cM, Value.slice aU U.length cU] 62
  have HB0 : Hid (Below w.heap.size w W0) := hb
  have PA0 := h.below hb
  have PL0 := h1.below hb
  have PT0 := h2.below hb
  have PM0 := h3.below hb
  have PU0 := h4.below hb
  have BH0 := BH
  have BO0 := BO
  have BG0 := BG
  clear h h1 h2 h3 h4 hb hS BH BO BG hL hT hL2
  go_enter Try.func8, Try.ntmps8
  go_wp2_with fail
  clear hW
  refine (fold_any W0 a c l hl hc PA0).mono ?_
  rintro e w1 ⟨vL, vT, rfl, hL, hT, hb⟩
  obtain ⟨aFL, cFL, rfl, q1, _⟩ := hL.val
  obtain ⟨aFT, cFT, rfl⟩ := hT.val
  have q2 := hT.read
  clear hL hT
  have PA1 := PA0.below hb
  have PL1 := PL0.below hb
  have PT1 := PT0.below hb
  have PM1 := PM0.below hb
  have PU1 := PU0.below hb
  have BH1 := BH0.keep hb
  have BO1 := BO0.keep hb
  have BG1 := BG0.keep hb
  have HB1 : Hid (Below w.heap.size w w1) := HB0.out.trans (hb.mono HB0.out.size)
  clear PA0 PL0 PT0 PM0 PU0 BH0 BO0 BG0 HB0
  have QFL1 := q1
  have QFT1 := q2
  clear q1 q2 hb
  obtain ⟨WF, hWF, BF_, hb, hSF⟩ := laid1 w1 [Value.slice aFL (foldL l).length cFL, Value.slice aFT (foldT l).length cFT] 62
  have PA2 := PA1.below hb
  have PL2 := PL1.below hb
  have PT2 := PT1.below hb
  have PM2 := PM1.below hb
  have PU2 := PU1.below hb
  have BH2 := BH1.keep hb
  have BO2 := BO1.keep hb
  have BG2 := BG1.keep hb
  have QFL2 := QFL1.below hb
  have QFT2 := QFT1.below hb
  have HB2 : Hid (Below w.heap.size w WF) := HB1.out.trans (hb.mono HB1.out.size)
  clear PA1 PL1 PT1 PM1 PU1 BH1 BO1 BG1 QFL1 QFT1 HB1
  have BF2 := BF_
  clear BF_ hSF
  clear hb
  have m0 := BO2.at 0 rfl
  have m1 := BO2.at 1 rfl
  have m2 := BO2.at 2 rfl
  have m3 := BO2.at 3 rfl
  have m4 := BO2.at 4 rfl
  have m5 := BO2.at 5 rfl
  have m6 := BO2.at 6 rfl
  have x0 := BH2.at 0 rfl
  have x1 := BH2.at 1 rfl
  go_wp2_with fail
  clear hWF
  refine (insert_any WF aL aT cL cT L T o HLL.out HTM.out PL2 PT2).mono ?_
  clear m0 m1 m2 m3 m4 m5 m6 x0 x1
  rintro e w2 ⟨vL, vT, rfl, hL, hT, hb⟩
  obtain ⟨aIL, cIL, rfl, q1, _⟩ := hL.val
  obtain ⟨aIT, cIT, rfl⟩ := hT.val
  have q2 := hT.read
  clear hL hT
  have PA3 := PA2.below hb
  have PL3 := PL2.below hb
  have PT3 := PT2.below hb
  have PM3 := PM2.below hb
  have PU3 := PU2.below hb
  have BH3 := BH2.keep hb
  have BO3 := BO2.keep hb
  have BG3 := BG2.keep hb
  have QFL3 := QFL2.below hb
  have QFT3 := QFT2.below hb
  have BF3 := BF2.keep hb
  have HB3 : Hid (Below w.heap.size w w2) := HB2.out.trans (hb.mono HB2.out.size)
  clear PA2 PL2 PT2 PM2 PU2 BH2 BO2 BG2 QFL2 QFT2 BF2 HB2
  have QIL3 := q1
  have QIT3 := q2
  clear q1 q2 hb
  obtain ⟨WI, hWI, BI_, hb, hSI⟩ := laid1 w2 [Value.slice aIL (insL L T o).length cIL, Value.slice aIT (insT L T o).length cIT] 62
  have PA4 := PA3.below hb
  have PL4 := PL3.below hb
  have PT4 := PT3.below hb
  have PM4 := PM3.below hb
  have PU4 := PU3.below hb
  have BH4 := BH3.keep hb
  have BO4 := BO3.keep hb
  have BG4 := BG3.keep hb
  have QFL4 := QFL3.below hb
  have QFT4 := QFT3.below hb
  have BF4 := BF3.keep hb
  have QIL4 := QIL3.below hb
  have QIT4 := QIT3.below hb
  have HB4 : Hid (Below w.heap.size w WI) := HB3.out.trans (hb.mono HB3.out.size)
  clear PA3 PL3 PT3 PM3 PU3 BH3 BO3 BG3 QFL3 QFT3 BF3 QIL3 QIT3 HB3
  have BI4 := BI_
  clear BI_ hSI
  clear hb
  go_wp2_with fail
  clear hWI
  refine (rfold_any WI a c l hl PA4).mono ?_
  rintro e w3 ⟨vL, aRT, cRT, rfl, hL, hT, hb⟩
  obtain ⟨aRL, cRL, rfl, q1, _⟩ := hL.val
  have q2 := hT.slp
  clear hL hT
  have PA5 := PA4.below hb
  have PL5 := PL4.below hb
  have PT5 := PT4.below hb
  have PM5 := PM4.below hb
  have PU5 := PU4.below hb
  have BH5 := BH4.keep hb
  have BO5 := BO4.keep hb
  have BG5 := BG4.keep hb
  have QFL5 := QFL4.below hb
  have QFT5 := QFT4.below hb
  have BF5 := BF4.keep hb
  have QIL5 := QIL4.below hb
  have QIT5 := QIT4.below hb
  have BI5 := BI4.keep hb
  have HB5 : Hid (Below w.heap.size w w3) := HB4.out.trans (hb.mono HB4.out.size)
  clear PA4 PL4 PT4 PM4 PU4 BH4 BO4 BG4 QFL4 QFT4 BF4 QIL4 QIT4 BI4 HB4
  have QRL5 := q1
  have QRT5 := q2
  clear q1 q2 hb
  obtain ⟨WR, hWR, BR_, hb, hSR⟩ := laid1 w3 [Value.slice aRL (foldL l).length cRL, Value.slice aRT (foldT l).length cRT] 62
  have PA6 := PA5.below hb
  have PL6 := PL5.below hb
  have PT6 := PT5.below hb
  have PM6 := PM5.below hb
  have PU6 := PU5.below hb
  have BH6 := BH5.keep hb
  have BO6 := BO5.keep hb
  have BG6 := BG5.keep hb
  have QFL6 := QFL5.below hb
  have QFT6 := QFT5.below hb
  have BF6 := BF5.keep hb
  have QIL6 := QIL5.below hb
  have QIT6 := QIT5.below hb
  have BI6 := BI5.keep hb
  have QRL6 := QRL5.below hb
  have QRT6 := QRT5.below hb
  have HB6 : Hid (Below w.heap.size w WR) := HB5.out.trans (hb.mono HB5.out.size)
  clear PA5 PL5 PT5 PM5 PU5 BH5 BO5 BG5 QFL5 QFT5 BF5 QIL5 QIT5 BI5 QRL5 QRT5 HB5
  have BR6 := BR_
  clear BR_ hSR
  clear hb
  have m0 := BO6.at 0 rfl
  have m1 := BO6.at 1 rfl
  have m2 := BO6.at 2 rfl
  have m3 := BO6.at 3 rfl
  have m4 := BO6.at 4 rfl
  have m5 := BO6.at 5 rfl
  have m6 := BO6.at 6 rfl
  have x0 := BH6.at 0 rfl
  have x1 := BH6.at 1 rfl
  go_wp2_with fail
  clear hWR
  refine (rinsert_any WR aL aT cL cT L T o HLL.out PL6 PT6).mono ?_
  clear m0 m1 m2 m3 m4 m5 m6 x0 x1
  rintro e w4 ⟨vL, aST, cST, rfl, hL, hT, hb⟩
  obtain ⟨aSL, cSL, rfl, q1, _⟩ := hL.val
  have q2 := hT.slp
  clear hL hT
  have PA7 := PA6.below hb
  have PL7 := PL6.below hb
  have PT7 := PT6.below hb
  have PM7 := PM6.below hb
  have PU7 := PU6.below hb
  have BH7 := BH6.keep hb
  have BO7 := BO6.keep hb
  have BG7 := BG6.keep hb
  have QFL7 := QFL6.below hb
  have QFT7 := QFT6.below hb
  have BF7 := BF6.keep hb
  have QIL7 := QIL6.below hb
  have QIT7 := QIT6.below hb
  have BI7 := BI6.keep hb
  have QRL7 := QRL6.below hb
  have QRT7 := QRT6.below hb
  have BR7 := BR6.keep hb
  have HB7 : Hid (Below w.heap.size w w4) := HB6.out.trans (hb.mono HB6.out.size)
  clear PA6 PL6 PT6 PM6 PU6 BH6 BO6 BG6 QFL6 QFT6 BF6 QIL6 QIT6 BI6 QRL6 QRT6 BR6 HB6
  have QSL7 := q1
  have QST7 := q2
  clear q1 q2 hb
  obtain ⟨WS, hWS, BS_, hb, hSS⟩ := laid1 w4 [Value.slice aSL (insL L T o).length cSL, Value.slice aST (insT L T o).length cST] 62
  have PA8 := PA7.below hb
  have PL8 := PL7.below hb
  have PT8 := PT7.below hb
  have PM8 := PM7.below hb
  have PU8 := PU7.below hb
  have BH8 := BH7.keep hb
  have BO8 := BO7.keep hb
  have BG8 := BG7.keep hb
  have QFL8 := QFL7.below hb
  have QFT8 := QFT7.below hb
  have BF8 := BF7.keep hb
  have QIL8 := QIL7.below hb
  have QIT8 := QIT7.below hb
  have BI8 := BI7.keep hb
  have QRL8 := QRL7.below hb
  have QRT8 := QRT7.below hb
  have BR8 := BR7.keep hb
  have QSL8 := QSL7.below hb
  have QST8 := QST7.below hb
  have HB8 : Hid (Below w.heap.size w WS) := HB7.out.trans (hb.mono HB7.out.size)
  clear PA7 PL7 PT7 PM7 PU7 BH7 BO7 BG7 QFL7 QFT7 BF7 QIL7 QIT7 BI7 QRL7 QRT7 BR7 QSL7 QST7 HB7
  have BS8 := BS_
  clear BS_ hSS
  clear hb
  go_upto_region 5 with fail
  clear hWS
  have HPA : Hid (SlE opC WS a l) := PA8
  have HPL : Hid (SlE stC WS aL L) := PL8
  have HPT : Hid (SlP WS aT T) := PT8
  have HPM : Hid (SlE stC WS aM M) := PM8
  have HPU : Hid (SlP WS aU U) := PU8
  have HBH : Hid (Blk WS w.heap.size [Value.slice aL L.length cL, Value.slice aT T.length cT]) := BH8
  have HBG : Hid (Blk WS (w.heap.size + 1 + 1) [Value.slice aM M.length cM, Value.slice aU U.length cU]) := BG8
  have HQFL : Hid (SlE stC WS aFL (foldL l)) := QFL8
  have HQFT : Hid (SlP WS aFT (foldT l)) := QFT8
  have HBF : Hid (Blk WS w1.heap.size [Value.slice aFL (foldL l).length cFL, Value.slice aFT (foldT l).length cFT]) := BF8
  have HQIL : Hid (SlE stC WS aIL (insL L T o)) := QIL8
  have HQIT : Hid (SlP WS aIT (insT L T o)) := QIT8
  have HBI : Hid (Blk WS w2.heap.size [Value.slice aIL (insL L T o).length cIL, Value.slice aIT (insT L T o).length cIT]) := BI8
  have HQRL : Hid (SlE stC WS aRL (foldL l)) := QRL8
  have HQRT : Hid (SlP WS aRT (foldT l)) := QRT8
  have HBR : Hid (Blk WS w3.heap.size [Value.slice aRL (foldL l).length cRL, Value.slice aRT (foldT l).length cRT]) := BR8
  have HQSL : Hid (SlE stC WS aSL (insL L T o)) := QSL8
  have HQST : Hid (SlP WS aST (insT L T o)) := QST8
  have HBS : Hid (Blk WS w4.heap.size [Value.slice aSL (insL L T o).length cSL, Value.slice aST (insT L T o).length cST]) := BS8
  clear PA8 PL8 PT8 PM8 PU8 BH8 BO8 BG8 QFL8 QFT8 BF8 QIL8 QIT8 BI8 QRL8 QRT8 BR8 QSL8 QST8 BS8
  have hS' : Below WS.heap.size WS WS.drew := (Below.refl _ WS).drew
  refine wp_region_held_drew (S := fun w' => Below WS.heap.size WS w') (by kernel_rfl) hS' (fun hHeld => ?_)
  refine wpAnyH_ready (rs := [0]) (by kernel_rfl) (by simp) ?_
  refine AllReadyH.cons rfl (fun K hK => ?_) AllReadyH.nil
  go_simp
  refine (folded_any _).mono ?_
  rintro e wn ⟨rfl, hb⟩
  have hS' : Below WS.heap.size WS wn := Below.trans hS' (hb.mono (Below.size hS'))
  go_wp2_with fail
  refine hK.out _ _ hS' (fun hHeld => ?_)
  clear hK K
  refine take_yes 1 40 (v := ?_) rfl rfl (by kernel_rfl) (by kernel_rfl) (by kernel_rfl) (fun _ _ _ h => h) (by rfl) ?_ hHeld ?_
  rotate_left 1
  · (intro w hSw; go_simp; try with_reducible rfl)
  simp only [Act.put, List.setIfInBounds_toArray, List.set_cons_succ, List.set_cons_zero]
  refine take_load 2 41 62 w.heap.size [Value.slice aL L.length cL, Value.slice aT T.length cT] rfl rfl (by kernel_rfl) (by kernel_rfl) (by kernel_rfl) (fun _ _ _ h => h) (by rfl) (by rfl) (by rfl) (fun w hw => (HBH.out.keep hw).range) Try.underlying62 rfl sizeHist hHeld ?_
  simp only [Act.put, List.setIfInBounds_toArray, List.set_cons_succ, List.set_cons_zero]
  refine take_load 4 43 62 w.heap.size [Value.slice aL L.length cL, Value.slice aT T.length cT] rfl rfl (by kernel_rfl) (by kernel_rfl) (by kernel_rfl) (fun _ _ _ h => h) (by rfl) (by rfl) (by rfl) (fun w hw => (HBH.out.keep hw).range) Try.underlying62 rfl sizeHist hHeld ?_
  simp only [Act.put, List.setIfInBounds_toArray, List.set_cons_succ, List.set_cons_zero]
  refine wpAnyH_ready (rs := [3]) (by kernel_rfl) (by simp) ?_
  refine AllReadyH.cons rfl (fun K hK => ?_) AllReadyH.nil
  go_simp
  refine (hcheck_any _ aL aT cL cT L T HLL.out HTM.out (HPL.out.below hS') (HPT.out.below hS')).mono ?_
  rintro e wn ⟨rfl, hb⟩
  have hS' : Below WS.heap.size WS wn := Below.trans hS' (hb.mono (Below.size hS'))
  go_wp2_with fail
  refine hK.out _ _ hS' (fun hHeld => ?_)
  clear hK K
  refine wpAnyH_ready (rs := [5]) (by kernel_rfl) (by simp) ?_
  refine AllReadyH.cons rfl (fun K hK => ?_) AllReadyH.nil
  go_simp
  refine (rcheck_any _ aL aT cL cT L T HLL.out (HPL.out.below hS') (HPT.out.below hS')).mono ?_
  rintro e wn ⟨rfl, hb⟩
  have hS' : Below WS.heap.size WS wn := Below.trans hS' (hb.mono (Below.size hS'))
  go_wp2_with fail
  refine hK.out _ _ hS' (fun hHeld => ?_)
  clear hK K
  refine take_yes 6 45 (v := ?_) rfl rfl (by kernel_rfl) (by kernel_rfl) (by kernel_rfl) (fun _ _ _ h => h) (by rfl) ?_ hHeld ?_
  rotate_left 1
  · (intro w hSw; go_simp; try with_reducible rfl)
  simp only [Act.put, List.setIfInBounds_toArray, List.set_cons_succ, List.set_cons_zero]
  refine take_yes 7 46 (v := ?_) rfl rfl (by kernel_rfl) (by kernel_rfl) (by kernel_rfl) (fun _ _ _ h => h) (by rfl) ?_ hHeld ?_
  rotate_left 1
  · (intro w hSw; go_simp; try with_reducible rfl)
  simp only [Act.put, List.setIfInBounds_toArray, List.set_cons_succ, List.set_cons_zero]
  refine take_yes 8 47 (v := ?_) rfl rfl (by kernel_rfl) (by kernel_rfl) (by kernel_rfl) (fun _ _ _ h => h) (by rfl) ?_ hHeld ?_
  rotate_left 1
  · (intro w hSw; go_simp; try with_reducible rfl)
  simp only [Act.put, List.setIfInBounds_toArray, List.set_cons_succ, List.set_cons_zero]
  refine take_load 9 48 62 w.heap.size [Value.slice aL L.length cL, Value.slice aT T.length cT] rfl rfl (by kernel_rfl) (by kernel_rfl) (by kernel_rfl) (fun _ _ _ h => h) (by rfl) (by rfl) (by rfl) (fun w hw => (HBH.out.keep hw).range) Try.underlying62 rfl sizeHist hHeld ?_
  simp only [Act.put, List.setIfInBounds_toArray, List.set_cons_succ, List.set_cons_zero]
  refine take_load 10 49 62 (w.heap.size + 1 + 1) [Value.slice aM M.length cM, Value.slice aU U.length cU] rfl rfl (by kernel_rfl) (by kernel_rfl) (by kernel_rfl) (fun _ _ _ h => h) (by rfl) (by rfl) (by rfl) (fun w hw => (HBG.out.keep hw).range) Try.underlying62 rfl sizeHist hHeld ?_
  simp only [Act.put, List.setIfInBounds_toArray, List.set_cons_succ, List.set_cons_zero]
  refine take_load 12 51 62 w.heap.size [Value.slice aL L.length cL, Value.slice aT T.length cT] rfl rfl (by kernel_rfl) (by kernel_rfl) (by kernel_rfl) (fun _ _ _ h => h) (by rfl) (by rfl) (by rfl) (fun w hw => (HBH.out.keep hw).range) Try.underlying62 rfl sizeHist hHeld ?_
  simp only [Act.put, List.setIfInBounds_toArray, List.set_cons_succ, List.set_cons_zero]
  refine take_load 13 52 62 (w.heap.size + 1 + 1) [Value.slice aM M.length cM, Value.slice aU U.length cU] rfl rfl (by kernel_rfl) (by kernel_rfl) (by kernel_rfl) (fun _ _ _ h => h) (by rfl) (by rfl) (by rfl) (fun w hw => (HBG.out.keep hw).range) Try.underlying62 rfl sizeHist hHeld ?_
  simp only [Act.put, List.setIfInBounds_toArray, List.set_cons_succ, List.set_cons_zero]
  refine wpAnyH_ready (rs := [11]) (by kernel_rfl) (by simp) ?_
  refine AllReadyH.cons rfl (fun K hK => ?_) AllReadyH.nil
  go_simp
  refine (same_any _ aL aM aT aU cL cM cT cU L M T U HLM.out HTM.out (HPL.out.below hS') (HPM.out.below hS') (HPT.out.below hS') (HPU.out.below hS')).mono ?_
  rintro e wn ⟨rfl, hb⟩
  have hS' : Below WS.heap.size WS wn := Below.trans hS' (hb.mono (Below.size hS'))
  go_wp2_with fail
  refine hK.out _ _ hS' (fun hHeld => ?_)
  clear hK K
  refine wpAnyH_ready (rs := [14]) (by kernel_rfl) (by simp) ?_
  refine AllReadyH.cons rfl (fun K hK => ?_) AllReadyH.nil
  go_simp
  refine (rsame_any _ aL aM aT aU cL cM cT cU L M T U HLM.out HTM.out (HPL.out.below hS') (HPM.out.below hS') (HPT.out.below hS') (HPU.out.below hS')).mono ?_
  rintro e wn ⟨rfl, hb⟩
  have hS' : Below WS.heap.size WS wn := Below.trans hS' (hb.mono (Below.size hS'))
  go_wp2_with fail
  refine hK.out _ _ hS' (fun hHeld => ?_)
  clear hK K
  refine take_yes 15 54 (v := ?_) rfl rfl (by kernel_rfl) (by kernel_rfl) (by kernel_rfl) (fun _ _ _ h => h) (by rfl) ?_ hHeld ?_
  rotate_left 1
  · (intro w hSw; go_simp; try with_reducible rfl)
  simp only [Act.put, List.setIfInBounds_toArray, List.set_cons_succ, List.set_cons_zero]
  refine take_yes 16 55 (v := ?_) rfl rfl (by kernel_rfl) (by kernel_rfl) (by kernel_rfl) (fun _ _ _ h => h) (by rfl) ?_ hHeld ?_
  rotate_left 1
  · (intro w hSw; go_simp; try with_reducible rfl)
  simp only [Act.put, List.setIfInBounds_toArray, List.set_cons_succ, List.set_cons_zero]
  refine take_yes 17 56 (v := ?_) rfl rfl (by kernel_rfl) (by kernel_rfl) (by kernel_rfl) (fun _ _ _ h => h) (by rfl) ?_ hHeld ?_
  rotate_left 1
  · (intro w hSw; go_simp; try with_reducible rfl)
  simp only [Act.put, List.setIfInBounds_toArray, List.set_cons_succ, List.set_cons_zero]
  refine take_yes 18 57 (v := ?_) rfl rfl (by kernel_rfl) (by kernel_rfl) (by kernel_rfl) (fun _ _ _ h => h) (by rfl) ?_ hHeld ?_
  rotate_left 1
  · (intro w hSw; go_simp; try with_reducible rfl)
  simp only [Act.put, List.setIfInBounds_toArray, List.set_cons_succ, List.set_cons_zero]
  refine take_yes 19 58 (v := ?_) rfl rfl (by kernel_rfl) (by kernel_rfl) (by kernel_rfl) (fun _ _ _ h => h) (by rfl) ?_ hHeld ?_
  rotate_left 1
  · (intro w hSw; go_simp; try with_reducible rfl)
  simp only [Act.put, List.setIfInBounds_toArray, List.set_cons_succ, List.set_cons_zero]
  refine take_yes 20 59 (v := ?_) rfl rfl (by kernel_rfl) (by kernel_rfl) (by kernel_rfl) (fun _ _ _ h => h) (by rfl) ?_ hHeld ?_
  rotate_left 1
  · (intro w hSw; go_simp; try with_reducible rfl)
  simp only [Act.put, List.setIfInBounds_toArray, List.set_cons_succ, List.set_cons_zero]
  refine take_yes 21 60 (v := ?_) rfl rfl (by kernel_rfl) (by kernel_rfl) (by kernel_rfl) (fun _ _ _ h => h) (by rfl) ?_ hHeld ?_
  rotate_left 1
  · (intro w hSw; go_simp; try with_reducible rfl)
  simp only [Act.put, List.setIfInBounds_toArray, List.set_cons_succ, List.set_cons_zero]
  refine take_yes 22 61 (v := ?_) rfl rfl (by kernel_rfl) (by kernel_rfl) (by kernel_rfl) (fun _ _ _ h => h) (by rfl) ?_ hHeld ?_
  rotate_left 1
  · (intro w hSw; go_simp; try with_reducible rfl)
  simp only [Act.put, List.setIfInBounds_toArray, List.set_cons_succ, List.set_cons_zero]
  refine take_load 23 62 62 w1.heap.size [Value.slice aFL (foldL l).length cFL, Value.slice aFT (foldT l).length cFT] rfl rfl (by kernel_rfl) (by kernel_rfl) (by kernel_rfl) (fun _ _ _ h => h) (by rfl) (by rfl) (by rfl) (fun w hw => (HBF.out.keep hw).range) Try.underlying62 rfl sizeHist hHeld ?_
  simp only [Act.put, List.setIfInBounds_toArray, List.set_cons_succ, List.set_cons_zero]
  refine take_load 24 63 62 w3.heap.size [Value.slice aRL (foldL l).length cRL, Value.slice aRT (foldT l).length cRT] rfl rfl (by kernel_rfl) (by kernel_rfl) (by kernel_rfl) (fun _ _ _ h => h) (by rfl) (by rfl) (by rfl) (fun w hw => (HBR.out.keep hw).range) Try.underlying62 rfl sizeHist hHeld ?_
  simp only [Act.put, List.setIfInBounds_toArray, List.set_cons_succ, List.set_cons_zero]
  refine wpAnyH_ready (rs := [25]) (by kernel_rfl) (by simp) ?_
  refine AllReadyH.cons rfl (fun K hK => ?_) AllReadyH.nil
  go_simp
  refine (rsame_any _ aFL aRL aFT aRT cFL cRL cFT cRT (foldL l) (foldL l) (foldT l) (foldT l) (HFL.out l) (HFT.out l) (HQFL.out.below hS') (HQRL.out.below hS') (HQFT.out.below hS') (HQRT.out.below hS')).mono ?_
  rintro e wn ⟨rfl, hb⟩
  rw [sameB_self]
  have hS' : Below WS.heap.size WS wn := Below.trans hS' (hb.mono (Below.size hS'))
  go_wp2_with fail
  refine hK.out _ _ hS' (fun hHeld => ?_)
  clear hK K
  refine take_yes 26 65 (v := ?_) rfl rfl (by kernel_rfl) (by kernel_rfl) (by kernel_rfl) (fun _ _ _ h => h) (by rfl) ?_ hHeld ?_
  rotate_left 1
  · (intro w hSw; go_simp; try with_reducible rfl)
  simp only [Act.put, List.setIfInBounds_toArray, List.set_cons_succ, List.set_cons_zero]
  refine take_yes 27 66 (v := ?_) rfl rfl (by kernel_rfl) (by kernel_rfl) (by kernel_rfl) (fun _ _ _ h => h) (by rfl) ?_ hHeld ?_
  rotate_left 1
  · (intro w hSw; go_simp; try with_reducible rfl)
  simp only [Act.put, List.setIfInBounds_toArray, List.set_cons_succ, List.set_cons_zero]
  refine take_yes 28 67 (v := ?_) rfl rfl (by kernel_rfl) (by kernel_rfl) (by kernel_rfl) (fun _ _ _ h => h) (by rfl) ?_ hHeld ?_
  rotate_left 1
  · (intro w hSw; go_simp; try with_reducible rfl)
  simp only [Act.put, List.setIfInBounds_toArray, List.set_cons_succ, List.set_cons_zero]
  refine take_yes 29 68 (v := ?_) rfl rfl (by kernel_rfl) (by kernel_rfl) (by kernel_rfl) (fun _ _ _ h => h) (by rfl) ?_ hHeld ?_
  rotate_left 1
  · (intro w hSw; go_simp; try with_reducible rfl)
  simp only [Act.put, List.setIfInBounds_toArray, List.set_cons_succ, List.set_cons_zero]
  refine take_yes 30 69 (v := ?_) rfl rfl (by kernel_rfl) (by kernel_rfl) (by kernel_rfl) (fun _ _ _ h => h) (by rfl) ?_ hHeld ?_
  rotate_left 1
  · (intro w hSw; go_simp; try with_reducible rfl)
  simp only [Act.put, List.setIfInBounds_toArray, List.set_cons_succ, List.set_cons_zero]
  refine take_yes 31 70 (v := ?_) rfl rfl (by kernel_rfl) (by kernel_rfl) (by kernel_rfl) (fun _ _ _ h => h) (by rfl) ?_ hHeld ?_
  rotate_left 1
  · (intro w hSw; go_simp; try with_reducible rfl)
  simp only [Act.put, List.setIfInBounds_toArray, List.set_cons_succ, List.set_cons_zero]
  refine take_yes 32 71 (v := ?_) rfl rfl (by kernel_rfl) (by kernel_rfl) (by kernel_rfl) (fun _ _ _ h => h) (by rfl) ?_ hHeld ?_
  rotate_left 1
  · (intro w hSw; go_simp; try with_reducible rfl)
  simp only [Act.put, List.setIfInBounds_toArray, List.set_cons_succ, List.set_cons_zero]
  refine take_load 33 72 62 w2.heap.size [Value.slice aIL (insL L T o).length cIL, Value.slice aIT (insT L T o).length cIT] rfl rfl (by kernel_rfl) (by kernel_rfl) (by kernel_rfl) (fun _ _ _ h => h) (by rfl) (by rfl) (by rfl) (fun w hw => (HBI.out.keep hw).range) Try.underlying62 rfl sizeHist hHeld ?_
  simp only [Act.put, List.setIfInBounds_toArray, List.set_cons_succ, List.set_cons_zero]
  refine take_load 34 73 62 w4.heap.size [Value.slice aSL (insL L T o).length cSL, Value.slice aST (insT L T o).length cST] rfl rfl (by kernel_rfl) (by kernel_rfl) (by kernel_rfl) (fun _ _ _ h => h) (by rfl) (by rfl) (by rfl) (fun w hw => (HBS.out.keep hw).range) Try.underlying62 rfl sizeHist hHeld ?_
  simp only [Act.put, List.setIfInBounds_toArray, List.set_cons_succ, List.set_cons_zero]
  refine wpAnyH_ready (rs := [35]) (by kernel_rfl) (by simp) ?_
  refine AllReadyH.cons rfl (fun K hK => ?_) AllReadyH.nil
  go_simp
  refine (rsame_any _ aIL aSL aIT aST cIL cSL cIT cST (insL L T o) (insL L T o) (insT L T o) (insT L T o) HIL.out HIT.out (HQIL.out.below hS') (HQSL.out.below hS') (HQIT.out.below hS') (HQST.out.below hS')).mono ?_
  rintro e wn ⟨rfl, hb⟩
  rw [sameB_self]
  have hS' : Below WS.heap.size WS wn := Below.trans hS' (hb.mono (Below.size hS'))
  go_wp2_with fail
  refine hK.out _ _ hS' (fun hHeld => ?_)
  clear hK K
  refine take_yes 36 75 (v := ?_) rfl rfl (by kernel_rfl) (by kernel_rfl) (by kernel_rfl) (fun _ _ _ h => h) (by rfl) ?_ hHeld ?_
  rotate_left 1
  · (intro w hSw; go_simp; try with_reducible rfl)
  simp only [Act.put, List.setIfInBounds_toArray, List.set_cons_succ, List.set_cons_zero]
  refine take_yes 37 8 (v := ?_) rfl rfl (by kernel_rfl) (by kernel_rfl) (by kernel_rfl) (fun _ _ _ h => h) (by rfl) ?_ hHeld ?_
  rotate_left 1
  · (intro w hSw; go_simp; try with_reducible rfl)
  simp only [Act.put, List.setIfInBounds_toArray, List.set_cons_succ, List.set_cons_zero]
  refine wpAnyH_done (by kernel_rfl) ?_ _
  go_wp2
  go_ret
  exact ⟨rfl, HB8.out.trans (hS'.mono HB8.out.size)⟩

theorem historySays_any0 (w : World) (a : Option Addr) (c : Nat) (l : List Mv) (aL aT : Option Addr) (cL cT : Nat) (L : List Stp) (T : List Pl) (o : Mv) (aM aU : Option Addr) (cM cU : Nat) (M : List Stp) (U : List Pl)
    (hl : l.length ≤ maxLen) (hc : l.length ≤ c) (h : SlE opC w a l) (hL : L.length * 88 ≤ 140737488351232) (hT : T.length ≤ maxLen) (h1 : SlE stC w aL L) (h2 : SlP w aT T) (_ : M.length * 88 ≤ 140737488351232) (_ : U.length ≤ maxLen) (h3 : SlE stC w aM M) (h4 : SlP w aU U) :
    Calls Try.prog 8 #[.slice a l.length c, hiV (.slice aL L.length cL) (.slice aT T.length cT), opV o, hiV (.slice aM M.length cM) (.slice aU U.length cU)] w
      fun e w' => e = .returned (.bool true) ∧ Below w.heap.size w w' :=
  historySays_any w a c l aL aT cL cT L T o aM aU cM cU M U hl hc h hL hT h1 h2 h3 h4
end Go.Proofs.Ytphameoibnimmaa
