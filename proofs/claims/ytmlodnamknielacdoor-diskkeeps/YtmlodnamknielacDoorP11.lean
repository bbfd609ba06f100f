/- 3 texts of the proof: orangerylaw.DiskKeeps's closure: records put on a disk, one after another. orangerylaw.at: a number brought within bounds. What is kept of a disk: plain facts, and note.Same on records in memory. -/
import Derived.Test.YtmlodnamknielacDoorP09
import Derived.Test.YtmlodnamknielacDoorP03
import Derived.Test.YtmlodnamknielacDoorP02
import Derived.Test.YtmlodnamknielacDoorP10
/- orangerylaw.DiskKeeps's closure: records put on a disk, one after another. -/
namespace Go.Proofs.YtmlodnamknielacDoor
open Go.ChangeShapes Go.WideShapes Go.ChangeAt Go.RowKit
open Orangery (Mv Rc noRec noOp diskE encR okL checkRec recT)

/-- all that was there but block g stays -/
def Only (g : Nat) (w w' : World) : Prop := w.grownBy w' (some g)
theorem Only.refl (g : Nat) (w : World) : Only g w w := ⟨rfl, rfl, rfl, Nat.le_refl _, fun _ _ _ => rfl⟩
theorem Only.size {g : Nat} {w w' : World} (h : Only g w w') : w.heap.size ≤ w'.heap.size := World.grownBy.size h
theorem Only.then {g : Nat} {w w1 w2 : World} (h : Only g w w1) (k : Below w.heap.size w1 w2) : Only g w w2 :=
  ⟨k.os.trans h.os, k.tape.trans h.tape, k.output.trans h.output, Nat.le_trans h.size k.size, fun i hi hne => (k.block i hi).trans (h.block i hi hne)⟩
theorem Only.drew {g : Nat} {w w1 : World} (h : Only g w w1) : Only g w w1.drew := h.then ((Below.refl _ w1).drew)
theorem Only.sets {g : Nat} {w : World} : ∀ (us : List Value) (o : Nat) (w1 : World), Only g w w1 → Only g w (w1.setCells g o us)
  | [], _, _, h => h
  | u :: us, o, w1, h => Only.sets us (o + 1) (w1.setCell ⟨g, o, none⟩ u) ⟨h.os, h.tape, h.output, by simpa using h.size, fun i hi hne => (heap_setCell_other w1 ⟨g, o, none⟩ i u (fun e => hne (by rw [e]))).trans (h.block i hi hne)⟩
theorem Only.below {g : Nat} {w w1 : World} (h : Only g w w1) (hg : g ≤ w.heap.size) : Below g w w1 :=
  ⟨h.os, h.tape, h.output, h.size, fun i hi => h.block i (by omega) (by simp; omega)⟩
theorem Only.trans {g : Nat} {w w1 w2 : World} (h : Only g w w1) (k : Only g w1 w2) : Only g w w2 :=
  ⟨k.os.trans h.os, k.tape.trans h.tape, k.output.trans h.output, Nat.le_trans h.size k.size, fun i hi hne => (k.block i (Nat.lt_of_lt_of_le hi h.size) hne).trans (h.block i hi hne)⟩
/-- Put on a right disk -/
theorem put_on (A B : List Rc) (r : Rc) (hA : ∀ r ∈ A, checkRec r = 0) (hB : ∀ r ∈ B, checkRec r = 0) (ha : A.length ≤ 20) (hb : B.length ≤ 20) :
    putAll (encR A) (encR B) r = checkRec r ∧ (checkRec r = 0 → putS (encR A) (encR B) r = encR A ∧ putT (encR A) (encR B) r = encR (B ++ [r])) := by
  have h2 := Orangery.encR_len B hB
  have hd := Orangery.disk_right A hA (by omega) (encR B) (by omega)
  have e : putAll (encR A) (encR B) r = checkRec r := by
    unfold putAll
    rw [if_neg (by simpa using hd)]
    exact Orangery.put_right A B hA hB ha hb r
  refine ⟨e, fun hr => ?_⟩
  unfold putS putT
  rw [e, if_neg (by simpa using hr), if_neg (by simpa using hr), Orangery.enc_put]
  exact ⟨rfl, rfl⟩
theorem DkNew.keep {B : Nat} {w w' : World} {v : Value} {s t : List UInt8} (h : DkNew B w v s t) (hb : Below w.heap.size w w') : DkNew B w' v s t := by
  obtain ⟨a, c, a', c', e, h1, h2, f1, f2⟩ := h
  exact ⟨a, c, a', c', e, h1.keep hb, h2.keep hb, f1, f2⟩
theorem BsIs.grown {B : Nat} {w w' : World} {a : Option Addr} {c : Nat} {l : List UInt8} {row : Option Nat} (h : BsIs w a c l) (hf : From B a) (hg : w.grownBy w' row) (hne : ∀ g, row = some g → g < B) : BsIs w' a c l := by
  refine ⟨?_, h.none, h.room, h.cap, h.few⟩
  rcases h.reads with h0 | ⟨b, off, e, hlt, hr⟩
  · exact Or.inl h0
  · refine Or.inr ⟨b, off, e, Nat.lt_of_lt_of_le hlt hg.size, fun j v hv => ?_⟩
    have hbl := hg.block b hlt (fun eb => by have := hf b off e; have := hne b eb.symm; omega)
    rw [World.cell?_of_block (w := w) (w' := w') (a := ⟨b, off + j, Option.none⟩) hbl]
    exact hr j v hv
theorem DkNew.grown {B : Nat} {w w' : World} {v : Value} {s t : List UInt8} {row : Option Nat} (h : DkNew B w v s t) (hg : w.grownBy w' row) (hne : ∀ g, row = some g → g < B) : DkNew B w' v s t := by
  obtain ⟨a, c, a', c', e, h1, h2, f1, f2⟩ := h
  exact ⟨a, c, a', c', e, h1.grown f1 hg hne, h2.grown f2 hg hne, f1, f2⟩
/-- what the closure leaves -/
def KPut (w0 w w' : World) (g : Nat) (e : Ending) (A B : List Rc) : Prop :=
  ∃ (v : Value) (Y : List Rm) (a1 : Option Addr) (c1 : Nat) (b1 : Option Addr) (d1 : Nat), e = .returned v ∧ (OwnE rcC 11 28 w' w.heap.size v Y ∧ ∀ y ∈ Y, RootsIn w0.heap.size w0 y) ∧ Y.map (·.1) = B ∧
    Blk w' g [.slice a1 (encR A).length c1, .slice b1 (encR B).length d1] ∧ DkIs w' (dkV (.slice a1 (encR A).length c1) (.slice b1 (encR B).length d1)) (encR A) (encR B)
theorem ownR_grewB {w w' : World} {base B : Nat} {v v' : Value} {X : List Rm} {x : Rm} (h : OwnR w base v B X) (hx : RootsIn B w x) (hB : B ≤ base) (ho : w'.ownsRow base 28 11 v' (X.length + 1) (X.flatMap rcC ++ rcC x)) (hg : w.grownBy w' v.ownBlock) : OwnR w' base v' B (X ++ [x]) := by
  refine ⟨?_, ?_⟩
  · show World.ownsRow _ _ _ _ _ _ _
    simpa using ho
  · intro y hy
    rcases List.mem_append.1 hy with hy | hy
    · exact (h.roots y hy).grown h.own hB hg
    · simp at hy
      subst hy
      exact hx.grown h.own hB hg

set_option maxHeartbeats 8000000 in
set_option maxRecDepth 100000 in
theorem kputs_any (w0 w : World) (g : Nat) (a : Option Addr) (c : Nat) (X : List Rm) (A : List Rc) (a0 : Option Addr) (c0 : Nat) (b0 : Option Addr) (d0 : Nat) (hA : ∀ r ∈ A, checkRec r = 0) (ha : A.length ≤ 20) (hl : X.length ≤ maxLen) (hc : X.length ≤ c) (hc2 : c ≤ maxLen)
    (hx : SlR w0 a w0.heap.size X) (hb0 : Below w0.heap.size w0 w) (hg : w0.heap.size ≤ g) (hQ : Blk w g [.slice a0 (encR A).length c0, .slice b0 0 d0]) (hD : DkIs w (dkV (.slice a0 (encR A).length c0) (.slice b0 0 d0)) (encR A) []) (hv : Vars w0) :
    Calls Tryd.prog 15 #[.slice a X.length c, .pointer (some ⟨g, 0, none⟩)] w
      fun e w' => KPut w0 w w' g e A (okL ((X.map (·.1)).take 20)) ∧ Only g w w' := by
  obtain ⟨i0, hi, hz0, hz1, hz2⟩ := info_parts infoRec
  have hc3 : c ≤ 9223372036854775807 := hc2
  have hl3 : X.length ≤ 9223372036854775807 := hl
  have HV := Lib.hid hv
  have HX := Lib.hid hx
  have HB0 := Lib.hid hb0
  have HQ := Lib.hid hQ
  have HD := Lib.hid hD
  have HAA := Lib.hid hA
  have HMAX : Hid (X.length ≤ maxLen) := hl
  have hgw : g < w.heap.size := hQ.lt
  obtain ⟨M, hM⟩ : ∃ M, min X.length 20 = M := ⟨_, rfl⟩
  have hM1 : M ≤ X.length := by omega
  have hM2 : M ≤ 20 := by omega
  have hMc : M ≤ c := by omega
  have HTK : Hid ((X.map (·.1)).take 20 = (X.map (·.1)).take M) := by
    show _ = _
    rw [← hM]
    rcases Nat.le_total X.length 20 with h | h
    · rw [Nat.min_eq_left h, List.take_of_length_le (by simpa using h), List.take_of_length_le (by simp)]
    · rw [Nat.min_eq_right h]
  have eM : min (X.length : Int) 20 = (M : Int) := by omega
  clear hv hx hb0 hQ hD hA hl hc2 hM
  go_enter Tryd.func15, Tryd.ntmps15
  go_wp2
  go_loopw [4, 15] (fun ov iv W => ∃ (j : Nat) (Y : List Rm) (a1 : Option Addr) (c1 : Nat) (b1 : Option Addr) (d1 : Nat), j ≤ M ∧ iv = .int .i64 j ∧ (OwnE rcC 11 28 W w.heap.size ov Y ∧ ∀ y ∈ Y, RootsIn w0.heap.size w0 y) ∧ Y.map (·.1) = okL ((X.map (·.1)).take j) ∧ Blk W g [.slice a1 (encR A).length c1, .slice b1 (encR (okL ((X.map (·.1)).take j))).length d1] ∧ DkIs W (dkV (.slice a1 (encR A).length c1) (.slice b1 (encR (okL ((X.map (·.1)).take j))).length d1)) (encR A) (encR (okL ((X.map (·.1)).take j))) ∧ Only g w W ∧ w.heap.size ≤ W.heap.size) (fun _ iv _ => M - (intOf iv).toNat)
  case atStart => exact ⟨0, [], a0, c0, b0, d0, Nat.zero_le _, rfl, ⟨OwnE.nil _ _, fun y hy => by simp at hy⟩, rfl, HQ.out, HD.out, Only.refl _ _, Nat.le_refl _⟩
  case round =>
    clear HQ HD
    obtain ⟨j, Y, a1, c1, b1, d1, hj, rfl, ⟨hO, hYR⟩, hY, hQ, hD, hb, hsz⟩ := hrel
    obtain ⟨aY, cY, rfl, -, hcY⟩ := OwnE.val hO
    have HYR := Lib.hid hYR
    have HBW := Lib.hid (HB0.out.trans ((hb.below (by omega)).mono hg))
    have HXr := Lib.hid (HX.out.keep HBW.out)
    have HVr := Lib.hid (HV.out.on HBW.out)
    have HO := Lib.hid hO
    have HB := Lib.hid hb
    have hgr : g < wr.heap.size := hQ.lt
    have HYE : Hid (Y.map (·.1) = okL ((X.map (·.1)).take j)) := hY
    have hYl : Y.length ≤ 20 := by
      have e1 := congrArg List.length hY
      rw [List.length_map] at e1
      have e2 := Orangery.okL_len ((X.map (·.1)).take j)
      rw [List.length_take] at e2
      omega
    have HBok := Lib.hid (Orangery.okL_all ((X.map (·.1)).take j))
    have HBl : Hid ((okL ((X.map (·.1)).take j)).length ≤ 20) := by
      show _ ≤ _
      rw [← hY, List.length_map]
      exact hYl
    clear hO hb hcY hY hYR
    by_cases hlt : j < M
    case neg =>
      have ej : j = M := by omega
      have HQ := Lib.hid hQ
      have HD := Lib.hid hD
      clear hQ hD
      have e2 : okL ((X.map (·.1)).take j) = okL ((X.map (·.1)).take 20) := by rw [HTK.out, ej]
      rw [e2] at HQ HD HYE
      clear e2 HBok HBl
      go_wp2
      go_ret
      exact ⟨⟨_, Y, a1, c1, b1, d1, rfl, ⟨HO.out, HYR.out⟩, HYE.out, HQ.out, HD.out⟩, HB.out⟩
    have hltX : j < X.length := by omega
    obtain ⟨bx, ox, rfl, hbx, hrx⟩ := HXr.out.reads.at rcC_len j hltX
    have HRX := Lib.hid (HX.out.roots _ (List.getElem_mem hltX))
    have hjm : j < (X.map (·.1)).length := by simpa using hltX
    have HYes : Hid (checkRec X[j].1 = 0 → okL ((X.map (·.1)).take (j + 1)) = okL ((X.map (·.1)).take j) ++ [X[j].1]) := by
      intro h
      have := Orangery.okL_yes (X.map (·.1)) j hjm (by simpa using h)
      simpa using this
    have HNo : Hid (checkRec X[j].1 ≠ 0 → okL ((X.map (·.1)).take (j + 1)) = okL ((X.map (·.1)).take j)) := by
      intro h
      exact Orangery.okL_no (X.map (·.1)) j hjm (by simpa using h)
    obtain ⟨g0, g1, g2, g3, g4, g5, g6, g7, g8, g9, g10⟩ := rc_cells hrx
    clear hrx hjm
    generalize X[j] = x at *
    obtain ⟨⟨k, u, f, R, o⟩, a3, c3⟩ := x
    simp only at g0 g1 g2 g3 g4 g5 g6 g7 g8 g9 g10
    generalize okL ((X.map (·.1)).take j) = B at *
    have HPO := Lib.hid (put_on A B (k, u, f, R, o) HAA.out HBok.out ha HBl.out)
    have HEB : Hid (∀ L, L = B → encR L = encR B) := fun L e => by rw [e]
    obtain ⟨EA, hEA⟩ : ∃ EA, encR A = EA := ⟨_, rfl⟩
    obtain ⟨EB, hEB⟩ : ∃ EB, encR B = EB := ⟨_, rfl⟩
    have HEA : Hid (encR A = EA) := hEA
    have HEBe : Hid (encR B = EB) := hEB
    rw [hEA, hEB] at hQ hD
    clear hEA hEB HEB
    have x0 := hQ.at 0 rfl
    have x1 := hQ.at 1 rfl
    have HRW : Hid (RootsIn w0.heap.size wr ((k, u, f, R, o), a3, c3)) := HRX.out.keep HBW.out
    rw [HEA.out, HEBe.out] at HPO
    go_wp2_with fail
    obtain ⟨W1, hW, h61, hB1, -⟩ := laid1 wr [Value.int IntKind.i64 k, .int .i64 u, .int .i64 f, .slice a3 R.length c3, .int .i64 o.1, .int .i64 o.2.1, .int .i64 o.2.2.1.1, .int .i64 o.2.2.1.2.1, .int .i64 o.2.2.1.2.2, .int .i64 o.2.2.2.1, .int .i64 o.2.2.2.2] 28
    rw [hW]
    clear hW g0 g1 g2 g3 g4 g5 g6 g7 g8 g9 g10 x0 x1
    have hQ1 := hQ.keep hB1
    have hD1 := hD.keep hB1
    have HB1 : Hid (Only g w W1) := HB.out.then (hB1.mono (by have := HB.out.size; omega))
    have HO1 := Lib.hid (OwnE.keep HO.out hB1)
    have hw1 : wr.heap.size < W1.heap.size := h61.lt
    have hRW := HRW.out.keep hB1
    have hp := kput_any W1 _ EA EB k u f a3 c3 R o hD1 hRW.few hRW.none hRW.reads (HVr.out.on hB1)
    rw [HPO.out.1] at hp
    refine hp.mono ?_
    rintro e w2 ⟨⟨v2, rfl, hN⟩, hb2⟩
    clear hp hRW
    have hQ2 := hQ1.keep hb2
    have hD2 := hD1.keep hb2
    have h62 := h61.keep hb2
    have HB2 : Hid (Only g w w2) := HB1.out.then (hb2.mono (by have := HB1.out.size; omega))
    have HO2 := Lib.hid (OwnE.keep HO1.out hb2)
    have hw2 : W1.heap.size ≤ w2.heap.size := hb2.size
    obtain ⟨S2, hS2⟩ : ∃ z, putS EA EB (k, u, f, R, o) = z := ⟨_, rfl⟩
    obtain ⟨T2, hT2⟩ : ∃ z, putT EA EB (k, u, f, R, o) = z := ⟨_, rfl⟩
    rw [hS2, hT2] at hN HPO
    have HN2 := Lib.hid hN
    have hN' := hN
    obtain ⟨a2, c2, b2, d2, rfl, -⟩ := hN'
    have hb3 := Go.Joins.below_alloc1 w2 (Obj.cells [.slice a2 S2.length c2, .slice b2 T2.length d2].toArray 41)
    have hQ3 := hQ2.keep hb3
    have hD3 := hD2.keep hb3
    have h63 := h62.keep hb3
    have h73 := Blk.new w2 [.slice a2 S2.length c2, .slice b2 T2.length d2] 41
    have HB3 : Hid (Only g w (w2.alloc (Obj.cells [.slice a2 S2.length c2, .slice b2 T2.length d2].toArray 41))) := HB2.out.then (hb3.mono (by have := HB2.out.size; omega))
    have HO3 := Lib.hid (OwnE.keep HO2.out hb3)
    have HN3 := Lib.hid (HN2.out.keep hb3)
    have hw3 : w2.heap.size < (w2.alloc (Obj.cells [.slice a2 S2.length c2, .slice b2 T2.length d2].toArray 41)).heap.size := h73.lt
    have hb13 : Hid (W1.heap.size ≤ (w2.alloc (Obj.cells [.slice a2 S2.length c2, .slice b2 T2.length d2].toArray 41)).heap.size) := Nat.le_trans hw2 (Nat.le_of_lt hw3)
    clear hQ hQ1 hQ2 hD hD1 hD2 h61 h62 HB HB1 HB2 HO1 HO2 HN2 hb2 hb3 hB1 hN hS2 hT2 HRW
    by_cases hc : checkRec (k, u, f, R, o) = 0
    case neg =>
      have HE := Lib.hid (HNo.out hc)
      have d9 : (checkRec (k, u, f, R, o) == 0) = false := by simpa using hc
      generalize checkRec (k, u, f, R, o) = E at *
      clear hc
      have HQ3 := Lib.hid hQ3
      have HD3 := Lib.hid hD3
      clear hQ3 hD3 h63 h73
      go_wp2
      go_roundw
      case rel =>
        refine ⟨j + 1, Y, a1, c1, b1, d1, hlt, by go_num, ⟨HO3.out, HYR.out⟩, HYE.out.trans HE.out.symm, ?_, ?_, HB3.out, by omega⟩
        · rw [HE.out, HEA.out, HEBe.out]; exact HQ3.out
        · rw [HE.out, HEA.out, HEBe.out]; exact HD3.out
      case measure => simp [intOf]; omega
    have HE := Lib.hid (HYes.out hc)
    have HP2 := Lib.hid (HPO.out.2 hc)
    rw [hc]
    clear hc HYes HNo
    go_upto_region 7 with fail
    obtain ⟨g7, hg7⟩ : ∃ z, w2.heap.size = z := ⟨_, rfl⟩
    obtain ⟨g6, hg6⟩ : ∃ z, wr.heap.size = z := ⟨_, rfl⟩
    generalize w2.alloc (Obj.cells [.slice a2 S2.length c2, .slice b2 T2.length d2].toArray 41) = V3 at *
    rw [hg7] at h73 ⊢
    rw [hg6] at h63 ⊢
    have hgg7 : W1.heap.size ≤ g7 := by omega
    have hgg6 : g < g6 ∧ g6 < W1.heap.size := by omega
    clear hg7
    have hO3 := HO3.out
    have hgb : ∀ b, (Value.slice aY Y.length cY).ownBlock = some b → w.heap.size ≤ b ∧ b < g6 := fun b hb => by
      have := HO.out.row.lt b hb
      omega
    clear hg6
    have hS0 : Blk V3.drew g7 [.slice a2 S2.length c2, .slice b2 T2.length d2] ∧ Blk V3.drew g6 [Value.int IntKind.i64 k, .int .i64 u, .int .i64 f, .slice a3 R.length c3, .int .i64 o.1, .int .i64 o.2.1, .int .i64 o.2.2.1.1, .int .i64 o.2.2.1.2.1, .int .i64 o.2.2.1.2.2, .int .i64 o.2.2.2.1, .int .i64 o.2.2.2.2] := ⟨h73.drew, h63.drew⟩
    have HQ0 : Hid (Blk V3.drew g [.slice a1 EA.length c1, .slice b1 EB.length d1]) := hQ3.drew
    have HO0 : Hid (OwnE rcC 11 28 V3.drew w.heap.size (.slice aY Y.length cY) Y) := HO3.out.drew
    have HN0 : Hid (DkNew W1.heap.size V3.drew (dkV (.slice a2 S2.length c2) (.slice b2 T2.length d2)) S2 T2) := HN3.out.keep ((Below.refl _ V3).drew)
    have HB0' : Hid (Only g w V3.drew) := HB3.out.drew
    have hzV : w.heap.size ≤ V3.drew.heap.size := by show _ ≤ V3.heap.size; have := HB3.out.size; omega
    clear h73 h63 hQ3 hD3 HO3 HN3 HB3 hO3 hw3
    refine wp_region_held_drew (S := fun w' => Blk w' g7 [.slice a2 S2.length c2, .slice b2 T2.length d2] ∧ Blk w' g6 [Value.int IntKind.i64 k, .int .i64 u, .int .i64 f, .slice a3 R.length c3, .int .i64 o.1, .int .i64 o.2.1, .int .i64 o.2.2.1.1, .int .i64 o.2.2.1.2.1, .int .i64 o.2.2.1.2.2, .int .i64 o.2.2.2.1, .int .i64 o.2.2.2.2]) (by kernel_rfl) hS0 (fun hHeld => ?_)
    generalize V3.drew = V0 at *
    refine take_load 0 27 41 g7 [.slice a2 S2.length c2, .slice b2 T2.length d2] rfl rfl (by kernel_rfl) (by kernel_rfl) (by kernel_rfl) (fun _ _ _ h => h) (by rfl) (by rfl) (by rfl) (fun w hw => hw.1.range) Tryd.underlying41 rfl sizeDisk hHeld ?_
    simp only [Act.put, List.setIfInBounds_toArray, List.set_cons_succ, List.set_cons_zero]
    refine take_yes 1 28 (v := ?_) rfl rfl (by kernel_rfl) (by kernel_rfl) (by kernel_rfl) (fun _ _ _ h => h) (by rfl) ?_ hHeld ?_
    rotate_left 1
    · (intro w hSw; go_simp; try with_reducible rfl)
    simp only [Act.put, List.setIfInBounds_toArray, List.set_cons_succ, List.set_cons_zero]
    refine take_load 2 29 28 g6 [Value.int IntKind.i64 k, .int .i64 u, .int .i64 f, .slice a3 R.length c3, .int .i64 o.1, .int .i64 o.2.1, .int .i64 o.2.2.1.1, .int .i64 o.2.2.1.2.1, .int .i64 o.2.2.1.2.2, .int .i64 o.2.2.2.1, .int .i64 o.2.2.2.2] rfl rfl (by kernel_rfl) (by kernel_rfl) (by kernel_rfl) (fun _ _ _ h => h) (by rfl) (by rfl) (by rfl) (fun w hw => hw.2.range) Tryd.underlying28 rfl sizeRec hHeld ?_
    simp only [Act.put, List.setIfInBounds_toArray, List.set_cons_succ, List.set_cons_zero]
    refine wpAnyH_ready (rs := [3]) (by kernel_rfl) (by simp) ?_
    refine AllReadyH.cons rfl (fun K hK => ?_) AllReadyH.nil
    go_simp
    obtain ⟨V4, hW, hNw, hB4, -⟩ := laid1 V0 [Value.int IntKind.i64 k, .int .i64 u, .int .i64 f, .slice a3 R.length c3, .int .i64 o.1, .int .i64 o.2.1, .int .i64 o.2.2.1.1, .int .i64 o.2.2.1.2.1, .int .i64 o.2.2.1.2.2, .int .i64 o.2.2.2.1, .int .i64 o.2.2.2.2] 28
    rw [hW]
    clear hW
    have hS4 : Blk V4 g7 [.slice a2 S2.length c2, .slice b2 T2.length d2] ∧ Blk V4 g6 [Value.int IntKind.i64 k, .int .i64 u, .int .i64 f, .slice a3 R.length c3, .int .i64 o.1, .int .i64 o.2.1, .int .i64 o.2.2.1.1, .int .i64 o.2.2.1.2.1, .int .i64 o.2.2.1.2.2, .int .i64 o.2.2.2.1, .int .i64 o.2.2.2.2] := ⟨hS0.1.keep hB4, hS0.2.keep hB4⟩
    have hQ4 := HQ0.out.keep hB4
    have hown4 : V4.ownsRow w.heap.size 28 11 (.slice aY Y.length cY) Y.length (Y.flatMap rcC) := HO0.out.keep hB4
    have HN4 := Lib.hid (HN0.out.keep hB4)
    have HB4 : Hid (Only g w V4) := HB0'.out.then (hB4.mono (by omega))
    have hz4 : w.heap.size ≤ V4.heap.size := Nat.le_trans hzV hB4.size
    obtain ⟨gN, hgN⟩ : ∃ z, V0.heap.size = z := ⟨_, rfl⟩
    rw [hgN] at hNw ⊢
    refine hK.out _ _ hS4 (fun hHeld => ?_)
    clear hK K hS0 HQ0 HO0 HN0 HB0' hB4 hgN
    refine step_append 4 31 38 (by kernel_rfl) rfl rfl (by rfl) (by rfl) w.heap.size 28 i0 _ 11 104 Tryd.underlying38 hi hz0 hz1 hz2 rfl (by decide) _ Y.length (Y.flatMap rcC) (by rfl) hown4 ⟨gN, 0, none⟩ 1 1 [Value.int IntKind.i64 k, .int .i64 u, .int .i64 f, .slice a3 R.length c3, .int .i64 o.1, .int .i64 o.2.1, .int .i64 o.2.2.1.1, .int .i64 o.2.2.1.2.1, .int .i64 o.2.2.1.2.2, .int .i64 o.2.2.2.1, .int .i64 o.2.2.2.2] (by rfl) rfl ?n1 ?n2 ?n3 ?n4 ?n5 (fun v5 w5 hown5 hgrow => ?_)
    case n1 => intro i u hj; first | exact hNw.at i hj | (rw [Addr.add_mid, Nat.zero_add]; exact hNw.at i hj)
    case n2 => exact rcC_one ((k, u, f, R, o), a3, c3)
    case n3 => unfold maxLen; omega
    case n4 => omega
    case n5 => exact hz4
    have hb5 := below_grown hown4 hz4 hgrow
    have hg67 : g6 ≠ g := by intro e; have := hS4.2.lt; omega
    have hS5 : Blk w5 g7 [.slice a2 S2.length c2, .slice b2 T2.length d2] ∧ Blk w5 g6 [Value.int IntKind.i64 k, .int .i64 u, .int .i64 f, .slice a3 R.length c3, .int .i64 o.1, .int .i64 o.2.1, .int .i64 o.2.2.1.1, .int .i64 o.2.2.1.2.1, .int .i64 o.2.2.1.2.2, .int .i64 o.2.2.2.1, .int .i64 o.2.2.2.2] := ⟨hS4.1.grown hgrow (by intro e; have := hgb _ e.symm; omega), hS4.2.grown hgrow (by intro e; have := hgb _ e.symm; omega)⟩
    refine ⟨hS5, ?_⟩
    have hHeld := hS5
    have hQ5 := hQ4.grown hgrow (by intro e; have := hgb _ e.symm; omega)
    have HN5 := Lib.hid (HN4.out.grown hgrow (fun b hb => by have := hgb b hb; omega))
    have HB5 : Hid (Only g w w5) := HB4.out.then hb5
    have HO5 : Hid (OwnE rcC 11 28 w5 w.heap.size v5 (Y ++ [((k, u, f, R, o), a3, c3)])) := by
      show World.ownsRow _ _ _ _ _ _ _
      simpa [rcC] using hown5
    have hz5 : w.heap.size ≤ w5.heap.size := Nat.le_trans hz4 hb5.size
    clear hQ4 hown4 hown5 HN4 HB4 hS4 hNw hgrow hb5 hz4 hzV
    simp only [Act.put, List.setIfInBounds_toArray, List.set_cons_succ, List.set_cons_zero]
    refine step_store 5 41 g [.slice a2 S2.length c2, .slice b2 T2.length d2] (by kernel_rfl) rfl rfl (by rfl) (by rfl) (by rfl) (by rfl) hQ5.there sizeDisk ?_ ?_ ?_
    · intro v hv; simp at hv; rcases hv with rfl | rfl <;> rfl
    · exact (show Blk (w5.setCells g 0 [.slice a2 S2.length c2, .slice b2 T2.length d2]) g7 [.slice a2 S2.length c2, .slice b2 T2.length d2] ∧ Blk (w5.setCells g 0 [.slice a2 S2.length c2, .slice b2 T2.length d2]) g6 [Value.int IntKind.i64 k, .int .i64 u, .int .i64 f, .slice a3 R.length c3, .int .i64 o.1, .int .i64 o.2.1, .int .i64 o.2.2.1.1, .int .i64 o.2.2.1.2.1, .int .i64 o.2.2.1.2.2, .int .i64 o.2.2.2.1, .int .i64 o.2.2.2.2] from ⟨hS5.1.others (by omega) _ 0, hS5.2.others (by omega) _ 0⟩)
    have hHeld := (show Blk (w5.setCells g 0 [.slice a2 S2.length c2, .slice b2 T2.length d2]) g7 [.slice a2 S2.length c2, .slice b2 T2.length d2] ∧ Blk (w5.setCells g 0 [.slice a2 S2.length c2, .slice b2 T2.length d2]) g6 [Value.int IntKind.i64 k, .int .i64 u, .int .i64 f, .slice a3 R.length c3, .int .i64 o.1, .int .i64 o.2.1, .int .i64 o.2.2.1.1, .int .i64 o.2.2.1.2.1, .int .i64 o.2.2.1.2.2, .int .i64 o.2.2.2.1, .int .i64 o.2.2.2.2] from ⟨hS5.1.others (by omega) _ 0, hS5.2.others (by omega) _ 0⟩)
    refine take_yes 6 4 (v := ?_) rfl rfl (by kernel_rfl) (by kernel_rfl) (by kernel_rfl) (fun _ _ _ h => h) (by rfl) ?_ hHeld ?_
    rotate_left 1
    · (intro w hSw; go_simp; try with_reducible rfl)
    simp only [Act.put, List.setIfInBounds_toArray, List.set_cons_succ, List.set_cons_zero]
    refine wpAnyH_done (by kernel_rfl) ?_ _
    have HQ6 := Lib.hid (hQ5.sets [.slice a2 S2.length c2, .slice b2 T2.length d2] rfl)
    have HD6 := Lib.hid (HN5.out.sets (g := g) (by omega) [.slice a2 S2.length c2, .slice b2 T2.length d2] 0)
    have HB6 := Lib.hid (Only.sets [.slice a2 S2.length c2, .slice b2 T2.length d2] 0 _ HB5.out)
    have HO6 := Lib.hid (OwnE.others g hgw [.slice a2 S2.length c2, .slice b2 T2.length d2] 0 _ HO5.out)
    have hz6 : w.heap.size ≤ (w5.setCells g 0 [.slice a2 S2.length c2, .slice b2 T2.length d2]).heap.size := by rw [Go.Sort.size_setCells]; exact hz5
    clear hQ5 HN5 HB5 HO5 hS5 hHeld
    generalize w5.setCells g 0 [.slice a2 S2.length c2, .slice b2 T2.length d2] = W6 at *
    go_wp2
    go_roundw
    case rel =>
      refine ⟨j + 1, Y ++ [((k, u, f, R, o), a3, c3)], a2, c2, b2, d2, hlt, by go_num, ⟨HO6.out, ?_⟩, ?_, ?_, ?_, HB6.out, hz6⟩
      · intro y hy
        rcases List.mem_append.1 hy with hy | hy
        · exact HYR.out y hy
        · simp at hy
          subst hy
          exact HRX.out
      · rw [HE.out, List.map_append, HYE.out]; rfl
      · rw [HE.out, HEA.out, ← HP2.out.2, ← HP2.out.1]; exact HQ6.out
      · rw [HE.out, HEA.out, ← HP2.out.2, ← HP2.out.1]; exact HD6.out
    case measure => simp [intOf]; omega
end Go.Proofs.YtmlodnamknielacDoor

/- orangerylaw.at: a number brought within bounds. -/
namespace Go.Proofs.YtmlodnamknielacDoor
open Go.ChangeShapes Go.WideShapes Go.ChangeAt Go.RowKit
open Orangery (atI)

set_option maxHeartbeats 400000 in
theorem at_any (w : World) (k n : Int) (hn : 0 < n) (hn2 : n ≤ 4611686018427387904) :
    Calls Tryd.prog 19 #[.int .i64 k, .int .i64 n] w fun e w' => e = .returned (.int .i64 (atI k n)) ∧ w' = w := by
  obtain ⟨⟨h1, h2⟩, hat⟩ := Orangery.tmod_at k n hn
  have HA : Hid (atI k n = if k.tmod n < 0 then k.tmod n + n else k.tmod n) := hat
  have hnz : (n == 0) = false := by simp; omega
  clear hat
  by_cases hneg : k.tmod n < 0
  · go_enter Tryd.func19, Tryd.ntmps19
    go_wp2
    go_ret
    exact ⟨ret_int (by rw [HA.out, if_pos hneg]), rfl⟩
  · go_enter Tryd.func19, Tryd.ntmps19
    go_wp2
    go_ret
    exact ⟨ret_int (by rw [HA.out, if_neg (by omega)]), rfl⟩

end Go.Proofs.YtmlodnamknielacDoor

/- What is kept of a disk: plain facts, and note.Same on records in memory. -/
namespace Go.Proofs.YtmlodnamknielacDoor
open Go.ChangeShapes Go.WideShapes Go.ChangeAt Go.RowKit
open Orangery (Mv Rc noRec noOp diskE encR okL checkRec recT)

theorem ownE_cap {α : Type} {enc : α → List Value} {k : Nat} {e : TypeId} {w : World} {base n c : Nat} {a : Option Addr} {l : List α} (h : OwnE enc k e w base (.slice a n c) l) : a = none → c = 0 := by
  intro ha
  subst ha
  rcases h.2 with ⟨e2, _⟩ | ⟨g, cap', cur, e2, _⟩
  · simp at e2; exact e2.2
  · simp at e2
theorem ownE_max {α : Type} {enc : α → List Value} {k : Nat} {e : TypeId} {w : World} {base n c : Nat} {a : Option Addr} {l : List α} (h : OwnE enc k e w base (.slice a n c) l) : c ≤ 9223372036854775807 := by
  rcases h.2 with ⟨e2, _⟩ | ⟨g, cap', cur, e2, _, _, _, hm, _⟩
  · simp at e2; rw [e2.2.2]; omega
  · obtain ⟨_, _, rfl⟩ : a = _ ∧ n = _ ∧ c = cap' := by simpa using e2
    exact hm
theorem enc_small (A : List Rc) (hA : ∀ r ∈ A, checkRec r = 0) (ha : A.length ≤ 40) : (encR A).length ≤ 7080 := by
  have := Orangery.encR_len A hA
  omega
theorem keeps1 (A : List Rc) (hA : ∀ r ∈ A, checkRec r = 0) (ha : A.length ≤ 20) : syncE (encR []) (encR A) = 0 ∧ syncS (encR []) (encR A) = encR A := by
  have h1 := enc_small A hA (by omega)
  exact sync_ok (s := []) (diskNo (encR A) (by omega)) (Orangery.disk_right A hA (by omega) [] (by simp))
theorem keeps2 (A B : List Rc) (hA : ∀ r ∈ A, checkRec r = 0) (hB : ∀ r ∈ B, checkRec r = 0) (ha : A.length ≤ 20) (hb : B.length ≤ 20) (m : Nat) (hm : m ≤ (encR B).length) :
    crashE (encR A) (encR B) m = 0 ∧ crashS (encR A) (encR B) m = encR A ∧ crashT (encR A) (encR B) m = (encR B).take m := by
  have h1 := enc_small B hB (by omega)
  have h := crash_ok (s := encR A) (t := encR B) (n := (m : Int)) (Orangery.disk_right A hA (by omega) (encR B) (by omega)) (by omega)
  rw [Int.toNat_natCast] at h
  exact h
theorem keeps3 (A B : List Rc) (hA : ∀ r ∈ A, checkRec r = 0) (hB : ∀ r ∈ B, checkRec r = 0) (ha : A.length ≤ 20) (hb : B.length ≤ 20) (m : Nat) :
    ∃ j, j ≤ B.length ∧ diskE (encR A) ((encR B).take m) = 0 ∧ rcvS (encR A) ((encR B).take m) = encR (A ++ B.take j) ∧ rcvL (encR A) ((encR B).take m) = A ++ B.take j := by
  have h1 := enc_small B hB (by omega)
  obtain ⟨j, hj, e1, e2⟩ := Orangery.disk_keeps A B hA hB ha hb m
  have hd := Orangery.disk_right A hA (by omega) ((encR B).take m) (by simp; omega)
  refine ⟨j, hj, hd, ?_, ?_⟩
  · unfold rcvS
    rw [if_neg (by simpa using hd), e2]
  · unfold rcvL
    rw [if_neg (by simpa using hd), e1]
theorem keeps4 (L : List Rc) (hL : ∀ r ∈ L, checkRec r = 0) (hl : L.length ≤ 40) : diskE (encR L) [] = 0 ∧ rcvS (encR L) [] = encR L ∧ rcvL (encR L) [] = L := by
  obtain ⟨e1, e2, _⟩ := Orangery.disk_again L hL (by omega)
  have hd := Orangery.disk_right L hL (by omega) [] (by simp)
  refine ⟨hd, ?_, ?_⟩
  · unfold rcvS
    rw [if_neg (by simpa using hd), e2]
  · unfold rcvL
    rw [if_neg (by simpa using hd), e1]
theorem keep_ok (A B : List Rc) (hA : ∀ r ∈ A, checkRec r = 0) (hB : ∀ r ∈ B, checkRec r = 0) (j : Nat) : ∀ r ∈ A ++ B.take j, checkRec r = 0 := by
  intro r hr
  rcases List.mem_append.1 hr with h | h
  · exact hA r h
  · exact hB r (List.mem_of_mem_take h)
theorem keep_take (A B : List Rc) (j : Nat) (hj : j ≤ B.length) : (A ++ B).take (A ++ B.take j).length = A ++ B.take j := by
  rw [List.length_append, List.length_take, Nat.min_eq_left hj, List.take_length_add_append]
theorem nsameRm (B B' : Nat) (W : World) (x y : Rm) (hx : RootsIn B W x) (hy : RootsIn B' W y) : Calls Tryd.prog 11 #[x.val, y.val] W fun e w' => e = .returned (.bool (sameR x.1 y.1)) ∧ Below W.heap.size W w' := by
  obtain ⟨⟨k, u, f, R, o⟩, a, c⟩ := x
  obtain ⟨⟨k', u', f', R', o'⟩, a', c'⟩ := y
  exact nsame_any W k u f k' u' f' a a' c c' R R' o o' hx.few hx.reads hy.reads
theorem nsame_enters : ∀ args w, (callFunc 11 args).run Tryd.prog w = .ok (.enter 11 args) w := enters_of Tryd.func11 (by kernel_rfl) rfl
end Go.Proofs.YtmlodnamknielacDoor

