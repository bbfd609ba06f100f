/- 1 texts of the proof: orangerylaw.filed: a closed fact on disks. -/
import Derived.Test.YtmlodnamknielacDoorP09
/- orangerylaw.filed: a closed fact on disks. -/
namespace Go.Proofs.YtmlodnamknielacDoor
open Go.ChangeShapes Go.WideShapes Go.ChangeAt Go.RowKit
open Orangery (Mv Rc noOp recT checkRec glue diskE lnL lnN lnE encR)

theorem itoa_one (d : Nat) (h : d < 10) : Lib.itoa (d : Int) = [UInt8.ofNat (48 + d)] := by
  unfold Lib.itoa
  rw [if_neg (by omega), show ((d : Int)).toNat = d by omega]
  exact Lib.decDigits_one h
def fileA : List UInt8 := [108, 105, 102, 101, 32, 49, 32, 50, 10]
def fileB : List UInt8 := [108, 105, 102, 101, 32, 49, 32, 51, 10]
def fileC : List UInt8 := [108, 105, 102, 101]
theorem chk2 : checkRec (2, 1, 2, [], noOp) = 0 := by decide
theorem chk3 : checkRec (2, 1, 3, [], noOp) = 0 := by decide
theorem rec2 : recT (2, 1, 2, [], noOp) ++ [10] = fileA := by
  have e : recT (2, 1, 2, [], noOp) = glue (Orangery.wLife :: [Lib.itoa (1 : Nat), Lib.itoa (2 : Nat)]) := rfl
  rw [e, itoa_one 1 (by omega), itoa_one 2 (by omega), Orangery.glue_flat]
  decide
theorem rec3 : recT (2, 1, 3, [], noOp) ++ [10] = fileB := by
  have e : recT (2, 1, 3, [], noOp) = glue (Orangery.wLife :: [Lib.itoa (1 : Nat), Lib.itoa (3 : Nat)]) := rfl
  rw [e, itoa_one 1 (by omega), itoa_one 3 (by omega), Orangery.glue_flat]
  decide
theorem encA : encR [(2, 1, 2, [], noOp)] = fileA := by
  rw [← rec2]
  simp [encR, Orangery.recLine]
theorem goodA : ∀ r ∈ [((2, 1, 2, [], noOp) : Rc)], checkRec r = 0 := by
  intro r hr
  simp at hr
  rw [hr]
  exact chk2
theorem diskNo (t : List UInt8) (h : t.length ≤ 40000) : diskE [] t = 0 := Orangery.disk_right [] (fun r hr => by simp at hr) (by simp) t h
theorem diskA (t : List UInt8) (h : t.length ≤ 40000) : diskE fileA t = 0 := by
  rw [← encA]
  exact Orangery.disk_right _ goodA (by simp) t h
theorem file1 : putAll [] [] (2, 1, 2, [], noOp) = 0 ∧ putS [] [] (2, 1, 2, [], noOp) = [] ∧ putT [] [] (2, 1, 2, [], noOp) = fileA := by
  have h := put_ok (s := []) (t := []) (diskNo [] (by simp)) chk2 (by rw [rec2]; decide)
  rw [rec2] at h
  exact h
theorem file2 : syncE [] fileA = 0 ∧ syncS [] fileA = fileA := sync_ok (diskNo fileA (by decide)) (diskA [] (by simp))
theorem file3 : putAll fileA [] (2, 1, 3, [], noOp) = 0 ∧ putS fileA [] (2, 1, 3, [], noOp) = fileA ∧ putT fileA [] (2, 1, 3, [], noOp) = fileB := by
  have h := put_ok (s := fileA) (t := []) (diskA [] (by simp)) chk3 (by rw [rec3]; decide)
  rw [rec3] at h
  exact h
theorem file4 : crashE fileA fileB 4 = 0 ∧ crashS fileA fileB 4 = fileA ∧ crashT fileA fileB 4 = fileC := crash_ok (diskA fileB (by decide)) (by decide)
theorem file5 : diskE fileA fileC = 0 ∧ rcvS fileA fileC = fileA ∧ rcvL fileA fileC = [(2, 1, 2, [], noOp)] := by
  have h := rcv_ok (diskA fileC (by decide))
  have h1 := Orangery.ln_enc [(2, 1, 2, [], noOp)] goodA 60 [] (by simp) (Or.inl rfl)
  rw [List.append_nil, encA] at h1
  have h2 := Orangery.ln_torn (m := 60 - [((2, 1, 2, [], noOp) : Rc)].length) (s := fileC) (by decide) (Orangery.lineOf_none fileC (by decide))
  rw [h1.1, h2.1, h2.2.1] at h
  exact ⟨diskA fileC (by decide), by simpa using h.1, by simpa using h.2⟩

set_option maxHeartbeats 4000000 in
set_option maxRecDepth 100000 in
theorem filed_any (w : World) (hv : Vars w) : Calls Tryd.prog 14 #[] w fun e w' => e = .returned (.bool true) ∧ Below w.heap.size w w' := by
  have HV := Lib.hid hv
  clear hv
  go_enter Tryd.func14, Tryd.ntmps14
  go_wp2_with fail
  have hp := kput_any w _ [] [] 2 1 2 none 0 [] noOp (dkIs_none w) (by simp) (fun _ => rfl) SlI.nil HV.out
  rw [file1.1, file1.2.1, file1.2.2] at hp
  refine hp.mono ?_
  rintro e w1 ⟨⟨v1, rfl, ⟨a1, c1, b1, d1, rfl, hs1, ht1, -, -⟩⟩, hb⟩
  clear hp
  go_wp2_with fail
  obtain ⟨W1, hW, hX1, hB1, -⟩ := laid1 w1 [.slice a1 0 c1, .slice b1 fileA.length d1] 41
  rw [hW]
  clear hW
  have hD1 : DkIs W1 (dkV (.slice a1 0 c1) (.slice b1 fileA.length d1)) [] fileA := ⟨a1, c1, b1, d1, rfl, hs1.keep hB1, ht1.keep hB1⟩
  have HB1 := Lib.hid (hb.trans (hB1.mono hb.size))
  have hg : w.heap.size ≤ w1.heap.size := hb.size
  have hg1 : w1.heap.size < W1.heap.size := hX1.lt
  generalize w1.heap.size = g at *
  clear hs1 ht1 hB1 hb
  have hp := ksync_any W1 _ [] fileA hD1 (HV.out.on HB1.out)
  rw [file2.1, file2.2] at hp
  refine hp.mono ?_
  rintro e w2 ⟨⟨v2, rfl, hN⟩, hb⟩
  clear hp hD1
  have hN' := hN
  obtain ⟨a2, c2, b2, d2, rfl, -⟩ := hN'
  have hD2 := hN.sets hg1 [.slice a2 fileA.length c2, .slice b2 0 d2] 0
  have hX := hX1.keep hb
  have hX2 := hX.sets [.slice a2 fileA.length c2, .slice b2 0 d2] rfl
  have HB2 := Lib.hid (below_sets (HB1.out.trans (hb.mono HB1.out.size)) g hg [.slice a2 fileA.length c2, .slice b2 0 d2] 0)
  have rf := hX.frz
  have r0 := hX.at 0 rfl
  have r1 := hX.at 1 rfl
  clear hN hX1 HB1 hb hg1
  go_wp2_with fail
  clear rf r0 r1 hX
  rw [two_cells]
  generalize w2.setCells g 0 [.slice a2 fileA.length c2, .slice b2 0 d2] = W2 at *
  have hp := kput_any W2 _ fileA [] 2 1 3 none 0 [] noOp hD2 (by simp) (fun _ => rfl) SlI.nil (HV.out.on HB2.out)
  rw [file3.1, file3.2.1, file3.2.2] at hp
  have hg2 : g < W2.heap.size := hX2.lt
  refine hp.mono ?_
  rintro e w3 ⟨⟨v3, rfl, hN⟩, hb⟩
  clear hp hD2
  have hN' := hN
  obtain ⟨a3, c3, b3, d3, rfl, -⟩ := hN'
  have hD3 := hN.sets hg2 [.slice a3 fileA.length c3, .slice b3 fileB.length d3] 0
  have hX := hX2.keep hb
  have hX3 := hX.sets [.slice a3 fileA.length c3, .slice b3 fileB.length d3] rfl
  have HB3 := Lib.hid (below_sets (HB2.out.trans (hb.mono HB2.out.size)) g hg [.slice a3 fileA.length c3, .slice b3 fileB.length d3] 0)
  have rf := hX.frz
  have r0 := hX.at 0 rfl
  have r1 := hX.at 1 rfl
  clear hN hX2 HB2 hb hg2
  go_wp2_with fail
  clear rf r0 r1 hX
  rw [two_cells]
  generalize w3.setCells g 0 [.slice a3 fileA.length c3, .slice b3 fileB.length d3] = W3 at *
  have hp := kcrash_any W3 _ fileA fileB 4 hD3 (HV.out.on HB3.out)
  rw [file4.1, file4.2.1, file4.2.2] at hp
  have hg3 : g < W3.heap.size := hX3.lt
  refine hp.mono ?_
  rintro e w4 ⟨⟨v4, rfl, hN⟩, hb⟩
  clear hp hD3
  have hN' := hN
  obtain ⟨a4, c4, b4, d4, rfl, -⟩ := hN'
  have hD4 := hN.sets hg3 [.slice a4 fileA.length c4, .slice b4 fileC.length d4] 0
  have hX := hX3.keep hb
  have hX4 := hX.sets [.slice a4 fileA.length c4, .slice b4 fileC.length d4] rfl
  have HB4 := Lib.hid (below_sets (HB3.out.trans (hb.mono HB3.out.size)) g hg [.slice a4 fileA.length c4, .slice b4 fileC.length d4] 0)
  have rf := hX.frz
  have r0 := hX.at 0 rfl
  have r1 := hX.at 1 rfl
  clear hN hX3 HB3 hb hg3
  go_wp2_with fail
  clear rf r0 r1 hX
  rw [two_cells]
  generalize w4.setCells g 0 [.slice a4 fileA.length c4, .slice b4 fileC.length d4] = W4 at *
  have hp := krecover_any W4 _ fileA fileC hD4 (HV.out.on HB4.out)
  rw [file5.1, file5.2.1, file5.2.2] at hp
  have hg4 : g < W4.heap.size := hX4.lt
  refine hp.mono ?_
  rintro e w5 ⟨⟨v5, lv, X, rfl, hN, hO, hXm⟩, hb⟩
  clear hp hD4
  have hN' := hN
  obtain ⟨a5, c5, b5, d5, rfl, -⟩ := hN'
  have hD5 := hN.sets hg4 [.slice a5 fileA.length c5, .slice b5 0 d5] 0
  have hX := hX4.keep hb
  have hX5 := hX.sets [.slice a5 fileA.length c5, .slice b5 0 d5] rfl
  have HB5 := Lib.hid (below_sets (HB4.out.trans (hb.mono HB4.out.size)) g hg [.slice a5 fileA.length c5, .slice b5 0 d5] 0)
  have hO5 := OwnE.others g hg4 [.slice a5 fileA.length c5, .slice b5 0 d5] 0 _ hO.own
  have rf := hX.frz
  have r0 := hX.at 0 rfl
  have r1 := hX.at 1 rfl
  have hXl : X.length = 1 := by have := congrArg List.length hXm; simpa using this
  match X, hXl with
  | [x], _ =>
  obtain ⟨aL, cL, rfl, hSL, -⟩ := OwnE.val hO5
  obtain ⟨bl, ol, rfl, hbl, hr⟩ := hSL.at rcC_len 0 (by simp)
  have hlife := (rc_cells hr).2.2.1
  have hx1 : x.1.2.2.1 = 2 := by
    have : x.1 = (2, 1, 2, [], noOp) := by simpa using hXm
    rw [this]
  simp only [List.getElem_cons_zero, hx1] at hlife
  obtain ⟨a6, c6, b6, d6, e6, hs6, ht6⟩ := hD5
  obtain ⟨⟨rfl, rfl⟩, -⟩ : (a5 = a6 ∧ c5 = c6) ∧ _ := by simpa using e6
  have kT := SlB.text hs6.reads c5
  have dq : (fileA == [108, 105, 102, 101, 32, 49, 32, 50, 10]) = true := by decide
  clear hN hX4 HB4 hb hg4 hO hO5 hSL hr hXm hs6 ht6 e6
  go_upto_region 6 with fail
  rw [two_cells]
  clear rf r0 r1 hX
  generalize w5.setCells g 0 [.slice a5 fileA.length c5, .slice b5 0 d5] = W5 at *
  have r0 := hX5.at 0 rfl
  have r1 := hX5.at 1 rfl
  go_wp2
  go_ret
  exact ⟨rfl, HB5.out⟩
end Go.Proofs.YtmlodnamknielacDoor

