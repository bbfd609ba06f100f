/- 4 texts of the proof: Rows of mail of the call's own: slices.Delete, way.cloneAll. A row of one mail; way.Send. way.Take. orangerylaw.op; an own slice is read. -/
import Derived.Great.BuildSlice
import Derived.Maps.AppendAt
import Derived.Test.YtljbchkmoekpmadGreatP12
import Derived.Test.YtljbchkmoekpmadGreatP04
import Derived.Test.YtljbchkmoekpmadGreatP05
/- Rows of mail of the call's own: slices.Delete, way.cloneAll. -/
namespace Go.Proofs.YtljbchkmoekpmadGreat
open Go.ChangeShapes Go.WideShapes Go.ChangeAt Go.RowKit
open Orangery (Pl Mv Vw Dl Ml noVw noDl noMl)

/-- a row of mail of the call's own: its lists lie in blocks of the call's own, none in the row's -/
structure OwnM (w : World) (base : Nat) (v : Value) (Y : List Mm) : Prop where
  row : OwnE mlC 21 74 w base v Y
  each : ∀ y ∈ Y, MlIn w y
  lists : ∀ y ∈ Y, MlD (fun b => base ≤ b ∧ v.ownBlock ≠ some b) y
theorem OwnM.keep {w w' : World} {base : Nat} {v : Value} {Y : List Mm} (h : OwnM w base v Y) (hb : Below w.heap.size w w') : OwnM w' base v Y :=
  ⟨h.row.keep hb, fun y hy => (h.each y hy).keep hb, h.lists⟩
theorem OwnM.val {w : World} {base : Nat} {v : Value} {Y : List Mm} (h : OwnM w base v Y) : ∃ a cap, v = .slice a Y.length cap ∧ SlM w a Y := by
  obtain ⟨a, cap, e, h1, _⟩ := h.row.val
  exact ⟨a, cap, e, h1, h.each⟩
theorem OwnM.mono {w : World} {base base' : Nat} {v : Value} {Y : List Mm} (h : OwnM w base v Y) (hb : base' ≤ base) : OwnM w base' v Y :=
  ⟨h.row.mono hb, h.each, fun y hy => (h.lists y hy).imp (fun b hb' => ⟨by omega, hb'.2⟩)⟩
theorem OwnM.nil (w : World) (base : Nat) : OwnM w base (.slice none 0 0) [] := ⟨OwnE.nil _ _, fun y hy => by simp at hy, fun y hy => by simp at hy⟩
theorem OwnM.some {w : World} {base : Nat} {v : Value} {Y : List Mm} (h : OwnM w base v Y) (hY : 0 < Y.length) : ∃ g cap, v = .slice (some ⟨g, 0, none⟩) Y.length cap ∧ InRow w base g cap (Y.flatMap mlC) Y.length := by
  have h0 := h.row
  obtain ⟨h1, h2⟩ := h.row
  rcases h2 with ⟨_, h2⟩ | ⟨g, cap, cur, rfl, hb, hg, hn, hm, hs, ht⟩
  · omega
  · exact ⟨g, cap, rfl, hb, hn, hm, cur, hg, hs, ht⟩
theorem mem_del {Y : List Mm} {k : Nat} {y : Mm} (h : y ∈ Y.take k ++ Y.drop (k + 1)) : y ∈ Y := by
  rcases List.mem_append.1 h with h | h
  · exact List.mem_of_mem_take h
  · exact List.mem_of_mem_drop h

set_option maxHeartbeats 4000000 in
set_option maxRecDepth 100000 in
theorem deleteMails_any (w : World) (base : Nat) (v : Value) (Y : List Mm) (k : Nat) (hk : k < Y.length) (hl : Y.length ≤ 1000) (h : OwnM w base v Y) :
    Calls Tryz.prog 37 #[v, .int .i64 k, .int .i64 ((k : Int) + 1)] w fun e w' => ∃ v', e = .returned v' ∧ OwnM w' base v' (Y.take k ++ Y.drop (k + 1)) ∧ Below base w w' := by
  obtain ⟨g, cap, rfl, hr⟩ := h.some (by omega)
  obtain ⟨m, hm⟩ : ∃ m, Y.length = m + 1 := ⟨Y.length - 1, by omega⟩
  rw [hm] at hr ⊢
  have HE : Hid (∀ W', w.grownBy W' (some g) → ∀ y ∈ Y.take k ++ Y.drop (k + 1), MlIn W' y) := fun W' hg y hy => (h.each y (mem_del hy)).grown (h.lists y (mem_del hy)) hg (fun b hb e => hb.2 (by simp [Value.ownBlock] at e ⊢; exact e.symm))
  have HL : Hid (∀ y ∈ Y.take k ++ Y.drop (k + 1), MlD (fun b => base ≤ b ∧ (Value.slice (some ⟨g, 0, none⟩) m cap).ownBlock ≠ some b) y) := fun y hy => (h.lists y (mem_del hy)).imp (fun b hb => ⟨hb.1, by have := hb.2; simpa [Value.ownBlock] using this⟩)
  have HLEN : Hid ((Y.take k ++ Y.drop (k + 1)).length = m) := by show _ = _; simp; omega
  have hcap := hr.room
  have hfew := hr.few
  have hcm : cap ≤ 9223372036854775807 := hfew
  have HR := Lib.hid hr
  have HM := Lib.hid hm
  have hkm : k ≤ m := by omega
  have hm1 : m ≤ 999 := by omega
  have hne : ((k : Int) == (k : Int) + 1) = false := by simp; omega
  clear hr hm h hfew hl hk
  obtain ⟨ad, had⟩ : ∃ ad : Addr, ad = if cap = k + 1 then (⟨g, 0, none⟩ : Addr) else ⟨g, (k + 1) * 21, none⟩ := ⟨_, rfl⟩
  have hA : ad = ⟨g, (k + 1) * 21, none⟩ ∨ k = m := by
    by_cases hz : cap = k + 1
    · exact Or.inr (by omega)
    · rw [if_neg hz] at had; exact Or.inl had
  obtain ⟨W1, happ, hI1, hg1, hb1⟩ := app_down w.drew base g cap m k 70 Y HM.out hkm ⟨HR.out.low, HR.out.room, HR.out.few, HR.out.row⟩ ad hA
  have hif : (some ad : Option Addr) = if cap = k + 1 then some ⟨g, 0, none⟩ else some ⟨g, (k + 1) * 21, none⟩ := by rw [had]; split <;> rfl
  rw [hif] at happ
  have HAPP := Lib.hid happ
  clear hif
  have HI1 := Lib.hid hI1
  have HG1 : Hid (w.grownBy W1 (some g)) := ⟨hg1.os, hg1.tape, hg1.output, hg1.size, hg1.block⟩
  have HB1 : Hid (Below base w W1) := ⟨hb1.os, hb1.tape, hb1.output, hb1.size, hb1.block⟩
  clear happ hI1 hg1 hb1 had hA
  go_enter Tryz.func37, Tryz.ntmps37
  go_upto_region 5 with fail
  have i1 : (k : Int) ≤ (k : Int) + 1 := by omega
  have i2 : (0 : Int) ≤ (k : Int) + 1 := by omega
  have i4 : k ≤ cap := by omega
  go_cut [0, 7] from 20 to 26 (fun p q wc => p = .slice (some ⟨g, 0, none⟩) m cap ∧ q = .int .i64 ((m : Int) + 1) ∧ wc = W1)
  case first =>
    refine wp_region_held_drew (S := fun _ => True) (by kernel_rfl) trivial (fun hHeld => ?_)
    refine take_yes 0 20 (v := ?_) rfl rfl (by kernel_rfl) (by kernel_rfl) (by kernel_rfl) (fun _ _ _ h => h) (by rfl) ?_ hHeld ?_
    rotate_left 1
    · (intro w9 hSw; go_simp; try with_reducible rfl)
    simp only [Act.put, List.setIfInBounds_toArray, List.set_cons_succ, List.set_cons_zero]
    refine take_yes 1 21 (v := ?_) rfl rfl (by kernel_rfl) (by kernel_rfl) (by kernel_rfl) (fun _ _ _ h => h) (by rfl) ?_ hHeld ?_
    rotate_left 1
    · (intro w9 hSw; go_simp; try with_reducible rfl)
    simp only [Act.put, List.setIfInBounds_toArray, List.set_cons_succ, List.set_cons_zero]
    refine take_yes 2 22 (v := ?_) rfl rfl (by kernel_rfl) (by kernel_rfl) (by kernel_rfl) (fun _ _ _ h => h) (by rfl) ?_ hHeld ?_
    rotate_left 1
    · (intro w9 hSw; go_simp; try with_reducible rfl)
    simp only [Act.put, List.setIfInBounds_toArray, List.set_cons_succ, List.set_cons_zero]
    refine take_yes 3 23 (v := ?_) rfl rfl (by kernel_rfl) (by kernel_rfl) (by kernel_rfl) (fun _ _ _ h => h) (by rfl) ?_ hHeld ?_
    rotate_left 1
    · (intro w9 hSw; go_simp; try with_reducible rfl)
    simp only [Act.put, List.setIfInBounds_toArray, List.set_cons_succ, List.set_cons_zero]
    refine take_yes 4 24 (v := ?_) rfl rfl (by kernel_rfl) (by kernel_rfl) (by kernel_rfl) (fun _ _ _ h => h) (by rfl) ?_ hHeld ?_
    rotate_left 1
    · (intro w9 hSw; go_simp; try with_reducible rfl)
    simp only [Act.put, List.setIfInBounds_toArray, List.set_cons_succ, List.set_cons_zero]
    refine take_yes 5 25 (v := ?_) rfl rfl (by kernel_rfl) (by kernel_rfl) (by kernel_rfl) (fun _ _ _ h => h) (by rfl) ?_ hHeld ?_
    rotate_left 1
    · (intro w9 hSw; go_simp; try with_reducible rfl)
    simp only [Act.put, List.setIfInBounds_toArray, List.set_cons_succ, List.set_cons_zero]
    refine wpAnyH_ready (rs := [6]) (by kernel_rfl) (by simp) ?_
    refine AllReadyH.cons rfl (fun KK hKK => ?_) AllReadyH.nil
    rw [if_pos (by rfl)]
    refine Lib.wp_append_run _ _ _ _ _ rfl (.slice (some ⟨g, 0, none⟩) k cap) (.slice (if cap = k + 1 then some ⟨g, 0, none⟩ else some ⟨g, (k + 1) * 21, none⟩) (m - k) (cap - (k + 1))) rfl rfl _ _ (HAPP.out (cap - (k + 1))) ?_
    show KK (Act.put _ (some 26) _) _
    refine hKK.out _ _ trivial (fun hHeld => ?_)
    clear hKK KK
    simp only [Act.put, List.setIfInBounds_toArray, List.set_cons_succ, List.set_cons_zero]
    refine take_yes 7 0 (v := ?_) rfl rfl (by kernel_rfl) (by kernel_rfl) (by kernel_rfl) (fun _ _ _ h => h) (by rfl) ?_ hHeld ?_
    rotate_left 1
    · (intro w9 hSw; go_simp; try with_reducible rfl)
    simp only [Act.put, List.setIfInBounds_toArray, List.set_cons_zero]
    refine wpAnyH_done (by kernel_rfl) ?_ _
    generalize (if cap = k + 1 then (some ⟨g, 0, none⟩ : Option Addr) else some ⟨g, (k + 1) * 21, none⟩) = AA at *
    go_wp2
    go_meet
    case rel => exact ⟨rfl, rfl, rfl⟩
  case rest =>
  obtain ⟨rfl, rfl, hw⟩ := hcut
  subst hw
  obtain ⟨W2, hclr, hI2, hg2, hb2⟩ := clear_end wc base g cap m (cap - m) 0 _ HI1.out hcap
  have HI2 := Lib.hid hI2
  have HG2 : Hid (w.grownBy W2 (some g)) := ⟨hg2.os.trans HG1.out.os, hg2.tape.trans HG1.out.tape, hg2.output.trans HG1.out.output, Nat.le_trans HG1.out.size hg2.size, fun j hj hne => (hg2.block j (Nat.lt_of_lt_of_le hj HG1.out.size) hne).trans (HG1.out.block j hj hne)⟩
  have HB2 : Hid (Below base w W2) := ⟨hb2.os.trans HB1.out.os, hb2.tape.trans HB1.out.tape, hb2.output.trans HB1.out.output, Nat.le_trans HB1.out.size hb2.size, fun j hj => (hb2.block j hj).trans (HB1.out.block j hj)⟩
  clear hI2 hg2 hb2 HI1 HG1 HB1 HAPP
  have hcm0 : ¬ (cap - m = 0) := by omega
  have i3 : (m : Int) ≤ (m : Int) + 1 := by omega
  go_wp2
  go_ret
  exact ⟨_, rfl, ⟨HI2.out.own HLEN.out, HE.out _ HG2.out, HL.out⟩, HB2.out⟩

/-- what way.cloneAll leaves -/
def ClonedM (w : World) (X : List Mm) (e : Ending) (w' : World) : Prop := ∃ v Y, e = .returned v ∧ OwnM w' w.heap.size v Y ∧ Y.map (·.1) = X.map (·.1) ∧ Below w.heap.size w w'
set_option maxHeartbeats 4000000 in
set_option maxRecDepth 100000 in
theorem wcloneAll_any (w : World) (a : Option Addr) (c : Nat) (X : List Mm) (hl : X.length ≤ 1000) (hX : SlM w a X) (hf : ∀ x ∈ X, MlFew x.1) :
    Calls Tryz.prog 75 #[.slice a X.length c] w (ClonedM w X) := by
  have HX := Lib.hid hX
  have HF := Lib.hid hf
  have HC := Lib.hid (cloneMails_any w a c X hl hX.reads)
  clear hX hf
  go_enter Tryz.func75, Tryz.ntmps75
  go_wp2_with fail
  refine HC.out.mono ?_
  rintro e w1 ⟨v, rfl, hO, hb⟩
  have HB := Lib.hid hb
  have HXl : Hid (∀ x ∈ X, MlIn w x) := HX.out.each
  clear HC
  by_cases hn : X = []
  case pos =>
    subst hn
    obtain ⟨a1, cap, rfl, -, -⟩ := hO.val
    have HO := Lib.hid hO
    clear hO hb
    simp only [List.length_nil] at hl HO ⊢
    go_wp2
    go_loopw [10] (fun i W => i = .int .i64 0 ∧ W = w1) (fun i _ => 0)
    case atStart => exact ⟨rfl, rfl⟩
    case round =>
      obtain ⟨rfl, rfl⟩ := hrel
      go_wp2
      go_ret
      unfold ClonedM
      exact ⟨_, [], rfl, ⟨HO.out, fun y hy => by simp at hy, fun y hy => by simp at hy⟩, rfl, HB.out⟩
  have hpos : 0 < X.length := List.length_pos_iff.2 hn
  obtain ⟨n, hnn⟩ : ∃ n, n = X.length := ⟨_, rfl⟩
  have hO2 : OwnE mlC 21 74 w1 w.heap.size v X := hO
  obtain ⟨g, cap, rfl⟩ : ∃ g cap, v = .slice (some ⟨g, 0, none⟩) X.length cap := by
    rcases hO.2 with ⟨_, h⟩ | ⟨g, cap, cur, h, _⟩
    · omega
    · exact ⟨g, cap, h⟩
  have hgb : w.heap.size ≤ g ∧ g < w1.heap.size := hO.row.lt g rfl
  have HGB := Lib.hid hgb
  have HST : Hid (∃ Y : List Mm, Y.length = n ∧ OwnE mlC 21 74 w1 w.heap.size (.slice (some ⟨g, 0, none⟩) n cap) Y ∧ (∀ y ∈ Y, MlIn w1 y) ∧ (∀ j, (hj : j < Y.length) → j < 0 → MlD (w1.heap.size ≤ ·) Y[j]) ∧ (∀ j, (hj : j < Y.length) → 0 ≤ j → MlD (· < w.heap.size) Y[j]) ∧ (∀ j, (hj : j < Y.length) → MlFew Y[j].1) ∧ Y.map (·.1) = X.map (·.1) ∧ Below w.heap.size w w1) := by
    refine ⟨X, hnn.symm, by rw [hnn]; exact hO2, fun y hy => (HX.out.each y hy).keep hb, fun j _ h => absurd h (Nat.not_lt_zero _), fun j hj _ => (HX.out.each _ (List.getElem_mem hj)).isin, fun j hj => HF.out _ (List.getElem_mem hj), rfl, hb⟩
  rw [← hnn] at hl hpos ⊢
  clear hO hO2 hb hgb hn hnn HX HF HB HXl
  go_wp2
  go_loopw [10] (fun i W => ∃ (k : Nat) (Y : List Mm), k ≤ n ∧ i = .int .i64 k ∧ Y.length = n ∧ OwnE mlC 21 74 W w.heap.size (.slice (some ⟨g, 0, none⟩) n cap) Y ∧ (∀ y ∈ Y, MlIn W y) ∧ (∀ j, (hj : j < Y.length) → j < k → MlD (w1.heap.size ≤ ·) Y[j]) ∧ (∀ j, (hj : j < Y.length) → k ≤ j → MlD (· < w.heap.size) Y[j]) ∧ (∀ j, (hj : j < Y.length) → MlFew Y[j].1) ∧ Y.map (·.1) = X.map (·.1) ∧ Below w.heap.size w W ∧ w1.heap.size ≤ W.heap.size) (fun i _ => n - (intOf i).toNat)
  case atStart =>
    obtain ⟨Y, h1, h2, h3, h4, h5, h6, h7, h8⟩ := HST.out
    exact ⟨0, Y, by omega, rfl, h1, h2, h3, h4, h5, h6, h7, h8, Nat.le_refl _⟩
  case round =>
    obtain ⟨k, Y, hk, rfl, hlen, hO, hin, hnew, hold, hfew, hmap, hb, hsz⟩ := hrel
    have HO := Lib.hid hO
    have HIN := Lib.hid hin
    have HNEW := Lib.hid hnew
    have HOLD := Lib.hid hold
    have HFEW := Lib.hid hfew
    have HMAP := Lib.hid hmap
    have HB := Lib.hid hb
    have HLEN := Lib.hid hlen
    have HSZ := Lib.hid hsz
    clear HST hO hin hnew hold hfew hmap hb hlen hsz
    by_cases hlt : k < n
    case neg =>
      have hkn : n = k := by omega
      have HNE : Hid (∀ y ∈ Y, MlD (fun b => w.heap.size ≤ b ∧ (Value.slice (some ⟨g, 0, none⟩) n cap).ownBlock ≠ some b) y) := by
        intro y hy
        obtain ⟨j, hj, rfl⟩ := List.getElem_of_mem hy
        refine (HNEW.out j hj (by have := HLEN.out; omega)).imp (fun b hb => ?_)
        have hg := HGB.out
        refine ⟨by omega, ?_⟩
        simp only [Value.ownBlock, ne_eq, Option.some.injEq]
        omega
      go_wp2
      go_ret
      unfold ClonedM
      exact ⟨_, Y, rfl, ⟨by rw [← hkn] at *; exact HO.out, HIN.out, HNE.out⟩, HMAP.out, HB.out⟩
    have hkl : k < Y.length := by have := HLEN.out; omega
    obtain ⟨b0, o0, e0, -, hrx⟩ := HO.out.read.at mlC_len k hkl
    obtain ⟨rfl, rfl⟩ : g = b0 ∧ 0 = o0 := by simpa using e0
    rw [Nat.zero_add] at hrx
    have HXI := Lib.hid (HIN.out _ (List.getElem_mem hkl))
    have HXF := Lib.hid (HFEW.out k hkl)
    have HX1 : Hid (∀ z : Mm, z.1 = Y[k].1 → (Y.set k z).map (·.1) = X.map (·.1)) := by
      intro z hz
      rw [List.map_set, HMAP.out, hz]
      have := HMAP.out
      apply List.ext_getElem?
      intro j
      rw [List.getElem?_set]
      by_cases hj : k = j
      · subst hj
        rw [if_pos rfl, ← this]
        simp [hkl]
      · rw [if_neg hj]
    have HRG : Hid (wr.rangeAt g (k * 21) (mlC Y[k])) := hrx
    clear hrx e0
    have hlti : (k : Int) < (n : Int) := by omega
    obtain ⟨x, hx⟩ : ∃ x, x = Y[k] := ⟨_, rfl⟩
    rw [← hx] at HXI HXF HX1 HRG
    clear hx
    have HCL : Hid (∀ W', Below wr.heap.size wr W' → Calls Tryz.prog 76 #[.agg (mlC x).toArray] W' fun e w' => ∃ y : Mm, e = .returned y.val ∧ y.1 = x.1 ∧ MlIn w' y ∧ MlD (W'.heap.size ≤ ·) y ∧ Below W'.heap.size W' w') := fun W' hb => wclone_any W' x (HXI.out.keep hb) HXF.out
    have HI1 := Lib.hid (sizeMailC x)
    have HS1 : Hid ((Tryz.prog.info? 74).map (·.size) = some (mlC x).toArray.size) := sizeMail
    have HO1 : Hid ((mlC x).toArray.all (·.oneCell') = true) := all_oneCell_toArray (mlC_one x)
    have hl1 : zeroMail.length = 21 := rfl
    have hl2 := mlC_len x
    have HZZ : Hid (zeroMail.toArray = #[Value.int .i64 0, .int .i64 0, .int .i64 0, .int .i64 0, .int .i64 0, .int .i64 0, .int .i64 0, .int .i64 0, .int .i64 0, .int .i64 0, .int .i64 0, .int .i64 0, .int .i64 0, .int .i64 0, .slice none 0 0, .slice none 0 0, .slice none 0 0, .slice none 0 0, .slice none 0 0, .slice none 0 0, .slice none 0 0]) := rfl
    generalize mlC x = cx at *
    generalize zeroMail = zc at *
    have hN1 := Blk.new wr zc 74
    have hB1 := Go.Joins.below_alloc1 wr (Obj.cells zc.toArray 74)
    have HT1 : Hid ((wr.alloc (Obj.cells zc.toArray 74)).there wr.heap.size 0 cx.toArray.size) := by show World.there _ _ _ _; have := hN1.there; rw [hl1] at this; simpa [hl2] using this
    have hN2 := hN1.sets cx (by rw [hl1, hl2])
    have hB2 : Below wr.heap.size wr ((wr.alloc (Obj.cells zc.toArray 74)).setCells wr.heap.size 0 cx) := below_sets hB1 wr.heap.size (Nat.le_refl _) cx 0
    rw [HZZ.out] at HT1 hN2 hB2
    have HRG2 := Lib.hid hN2.range
    have HB2 := Lib.hid hB2
    clear hN1 hB1 HZZ hl1 hl2 hN2 hB2
    go_wp2_with (first | (refine wpList_load_mid rfl 74 _ rfl g (k * 21) rfl cx _ HRG.out Tryz.underlying74 rfl HI1.out ?_) | (with_reducible refine at_store 74 ?_; refine wpList_store_mid rfl 74 _ _ rfl wr.heap.size 0 cx.toArray rfl rfl HT1.out HS1.out HO1.out ?_) | (refine wpList_load_mid rfl 74 _ rfl wr.heap.size 0 rfl cx _ HRG2.out Tryz.underlying74 rfl HI1.out ?_) | fail)
    clear HT1 HS1 HO1 HI1 HRG HRG2
    refine (HCL.out _ HB2.out).mono ?_
    rintro e w4 ⟨y, rfl, hyx, hyI, hyD, hb4⟩
    have hb5 : Below wr.heap.size wr w4 := HB2.out.trans (hb4.mono HB2.out.size)
    have hO4 := HO.out.keep hb5
    have hwl : wr.heap.size ≤ w4.heap.size := hb5.size
    have hszr := HSZ.out
    have hgb := HGB.out
    have hlen := HLEN.out
    have hO4' : OwnE mlC 21 74 w4 w.heap.size (.slice (some ⟨g, 0, none⟩) Y.length cap) Y := by rw [hlen]; exact hO4
    have hth := hO4'.there k hkl
    have hset := OwnE.set mlC_len hO4' k hkl y
    have HSET : Hid (OwnE mlC 21 74 (w4.setCells g (k * 21) (mlC y)) w.heap.size (.slice (some ⟨g, 0, none⟩) n cap) (Y.set k y)) := by show OwnE _ _ _ _ _ _ _; rw [List.length_set, hlen] at hset; exact hset
    have hyD2 : MlD (w1.heap.size ≤ ·) y := hyD.imp (fun b hb => by have h2 := HB2.out.size; have h3 : _ ≤ b := hb; omega)
    have HIN2 : Hid (∀ z ∈ Y.set k y, MlIn (w4.setCells g (k * 21) (mlC y)) z) := by
      intro z hz
      rcases List.mem_or_eq_of_mem_set hz with hz | rfl
      · obtain ⟨j, hj, rfl⟩ := List.getElem_of_mem hz
        by_cases hjk : j < k
        · exact ((HIN.out _ (List.getElem_mem hj)).keep hb5).sets (HNEW.out j hj hjk) g (fun b hb => by omega) _ _
        · exact ((HIN.out _ (List.getElem_mem hj)).keep hb5).sets (HOLD.out j hj (by omega)) g (fun b hb => by omega) _ _
      · exact hyI.sets hyD2 g (fun b hb => by omega) _ _
    have HNEW2 : Hid (∀ j, (hj : j < (Y.set k y).length) → j < k + 1 → MlD (w1.heap.size ≤ ·) (Y.set k y)[j]) := by
      intro j hj hjk
      rw [List.getElem_set]
      by_cases h2 : k = j
      · rw [if_pos h2]; exact hyD2
      · rw [if_neg h2]; exact HNEW.out j (by simpa using hj) (by omega)
    have HOLD2 : Hid (∀ j, (hj : j < (Y.set k y).length) → k + 1 ≤ j → MlD (· < w.heap.size) (Y.set k y)[j]) := by
      intro j hj hjk
      rw [List.getElem_set, if_neg (by omega)]
      exact HOLD.out j (by simpa using hj) (by omega)
    have HFEW2 : Hid (∀ j, (hj : j < (Y.set k y).length) → MlFew (Y.set k y)[j].1) := by
      intro j hj
      rw [List.getElem_set]
      by_cases h2 : k = j
      · rw [if_pos h2, hyx]; exact HXF.out
      · rw [if_neg h2]; exact HFEW.out j (by simpa using hj)
    have HMAP2 := Lib.hid (HX1.out y hyx)
    have HLEN2 : Hid ((Y.set k y).length = n) := by show _ = _; simpa using hlen
    have HB5 : Hid (Below w.heap.size w (w4.setCells g (k * 21) (mlC y))) := below_sets (HB.out.trans (hb5.mono HB.out.size)) g hgb.1 _ _
    have HSZ5 : Hid (w1.heap.size ≤ (w4.setCells g (k * 21) (mlC y)).heap.size) := by show _ ≤ _; simp [Go.Sort.size_setCells]; omega
    have HTH : Hid (w4.there g (k * 21) (mlC y).toArray.size) := hth
    have HS1 : Hid ((Tryz.prog.info? 74).map (·.size) = some (mlC y).toArray.size) := sizeMail
    have HO1 : Hid ((mlC y).toArray.all (·.oneCell') = true) := all_oneCell_toArray (mlC_one y)
    clear hyx hyI hyD hb4 hb5 hO4 hO4' hth hset hyD2 HXI HXF HCL HB2 HIN HNEW HOLD HFEW HX1 HMAP HLEN HB HSZ hwl hszr hgb hlen hkl HO
    go_wp2_with (first | (with_reducible refine at_store 74 ?_; refine wpList_store_mid rfl 74 _ _ rfl g (k * 21) (mlC y).toArray rfl rfl HTH.out HS1.out HO1.out ?_) | fail)
    go_roundw
    case rel => exact ⟨k + 1, Y.set k y, hlt, by go_num, HLEN2.out, HSET.out, HIN2.out, HNEW2.out, HOLD2.out, HFEW2.out, HMAP2.out, HB5.out, HSZ5.out⟩
    case measure => simp [intOf]; omega
end Go.Proofs.YtljbchkmoekpmadGreat

/- A row of one mail; way.Send. -/
namespace Go.Proofs.YtljbchkmoekpmadGreat
open Go.ChangeShapes Go.WideShapes Go.ChangeAt Go.RowKit
open Orangery (Pl Mv Vw Dl Ml noVw noDl noMl noOp checkOp viewME deltaME viewE deltaE orI seeRange seeUse opUse noV noD ml1E mlsE mlE sendE sendL takeE takeL takeM)

theorem fill_one (cs : List Value) (h : cs.length = 21) (z : Array Value) (hz : z.size = 21) : Instr.fill (fun i => some (i * 21, 21)) z [(0, Value.agg cs.toArray)] = some cs.toArray := by
  obtain ⟨r, hr, hs, hk⟩ := Great.fill_dense (s := 21) (by decide) [Value.agg cs.toArray] 0 z (by intro v hv; simp at hv; subst hv; simpa [Value.cells] using h) (by simp; omega)
  have e : r = cs.toArray := by
    apply Array.ext_getElem?
    intro k
    rw [hk k]
    by_cases hk2 : k < 21
    · rw [if_pos (by simp; omega)]
      have e1 : k / 21 = 0 := by omega
      have e2 : k % 21 = k := by omega
      simp [e1, e2, Value.cells]
    · rw [if_neg (by simp; omega)]
      rw [Array.getElem?_eq_none (by omega), Array.getElem?_eq_none (by simp; omega)]
  rw [e] at hr
  exact hr
/-- the next operation builds a slice -/
theorem at_slice {ops : Array Oper} {Q : Exit → Act → World → Prop} {rest : List Oper} {ps : Array (Nat × Operand)} {t u : TypeId} {d : Option Tmp} {n : Nat} {pos : String} {after : Array Edge} {a : Act} {w : World}
    (h : wpList Tryz.prog ops Q (⟨d, .buildSlice u n ps, t, pos, after, none⟩ :: rest) a w) : wpList Tryz.prog ops Q (⟨d, .buildSlice u n ps, t, pos, after, none⟩ :: rest) a w := h
theorem build_cells (cs : List Value) (hc : cs.length = 21) {i0 : TypeInfo} (hz1 : i0.size = 21) : Instr.fill (fun i => some (i * i0.size, i0.size)) ((Array.range (1 * i0.size)).map ((Value.agg zeroMail.toArray).cells[· % (Value.agg zeroMail.toArray).cells.size]!)) [(0, Value.agg cs.toArray)] = some cs.toArray := by
  rw [hz1]
  exact fill_one cs hc _ (by simp)
/-- a row of one mail -/
theorem build_one {ops : Array Oper} {Q : Exit → Act → World → Prop} {rest : List Oper} {o : Oper} {x : Operand} {a : Act} {w : World} (hg : o.guard = none) (ho : o.op = .buildSlice 70 1 #[(0, x)]) (cs : List Value) (hc : cs.length = 21) (hx : a.eval x = .agg cs.toArray)
    (h : wpList Tryz.prog ops Q rest (a.put o.dst (.slice (some ⟨w.heap.size, 0, none⟩) 1 1)) (w.alloc (.cells cs.toArray 74))) : wpList Tryz.prog ops Q (o :: rest) a w := by
  obtain ⟨i0, hi, hz0, hz1, hz2⟩ := info_parts infoMail
  refine wpList_buildSlice hg 70 74 1 _ ho cs.toArray i0 _ Tryz.underlying70 hi hz0 (by rw [hz1]; decide) (by rw [hz1]; decide) ?_ h
  have e : (#[(0, x)].map fun (p : Nat × Operand) => (p.1, a.eval p.2)).toList = [(0, Value.agg cs.toArray)] := by simp [hx]
  show Instr.fill _ _ (#[(0, x)].map fun (p : Nat × Operand) => (p.1, a.eval p.2)).toList = _
  rw [e]
  exact build_cells cs hc hz1
theorem one_row {w : World} {N : Nat} {x : Mm} (h : Blk w N (mlC x)) (hx : MlIn w x) : SlM w (some ⟨N, 0, none⟩) [x] :=
  ⟨Or.inr ⟨N, 0, rfl, h.lt, by simpa using h.range⟩, fun y hy => by simp at hy; subst hy; exact hx⟩
theorem ml1_few {m : Ml} (h : ml1E m = 0) : MlFew m := by
  obtain ⟨⟨k, u, f, s, t, n, p⟩, o, ⟨R, K, V⟩, G, H, X, Y⟩ := m
  have hv : ∀ {R : List Int} {K V : List Pl}, viewE R K V = 0 → R.length ≤ 1000 ∧ K.length ≤ 1000 ∧ V.length ≤ 1000 := by
    intro R K V h
    have h1 := Orangery.rootsOk_len (Orangery.view_parts h).1
    have h2 := Orangery.scan_small (Orangery.view_scan h).1
    have h3 := Orangery.scan_small (Orangery.view_scan h).2
    omega
  have hd : ∀ {G : List Int} {H : List Pl} {X : List Int} {Y : List Pl}, deltaE G H X Y = 0 → G.length ≤ 1000 ∧ H.length ≤ 1000 ∧ X.length ≤ 1000 ∧ Y.length ≤ 1000 := by
    intro G H X Y h
    rw [Orangery.delta_or] at h
    obtain ⟨h1, h2⟩ := Orangery.orI_zero h
    have h3 := Orangery.half_zero h1
    have h4 := Orangery.half_zero h2
    omega
  have hk : 1 ≤ k ∧ k ≤ 3 := by
    unfold ml1E at h
    split at h
    · omega
    · rename_i hh; simpa using hh
  have hu : 0 ≤ u ∧ u ≤ 2 := by
    unfold ml1E at h
    rw [if_neg (by simpa using hk)] at h
    split at h
    · omega
    · rename_i hh; simpa using hh
  rw [ml1_used (x := (((k, u, f, s, t, n, p), o, (R, K, V), (G, H, X, Y)), nilV, nilD)) hk hu] at h
  split at h
  · omega
  rename_i hs
  have hs2 := (sameMl_iff _ _).1 (by simpa using hs)
  have hkk : k = 1 ∨ k = 2 ∨ k = 3 := by omega
  rcases hkk with rfl | rfl | rfl
  · have e : (usedM (((1, u, f, s, t, n, p), o, (R, K, V), (G, H, X, Y)), nilV, nilD)).1 = ((1, u, 0, 0, 0, 0, 0), o, noVw, noDl) := rfl
    rw [e] at hs2
    simp only [Prod.mk.injEq, noVw, noDl] at hs2
    obtain ⟨-, -, ⟨rfl, rfl, rfl⟩, rfl, rfl, rfl, rfl⟩ := hs2
    simp [MlFew]
  · have e : (usedM (((2, u, f, s, t, n, p), o, (R, K, V), (G, H, X, Y)), nilV, nilD)).1 = ((2, u, f, s, t, n, 0), noOp, (R, K, V), noDl) := rfl
    rw [e] at hs2
    simp only [Prod.mk.injEq, noDl] at hs2
    obtain ⟨-, -, -, rfl, rfl, rfl, rfl⟩ := hs2
    rw [if_neg (show ¬ (2 : Int) = 1 by omega)] at h
    split at h
    · have h2 := Orangery.orI_zero h
      have h3 := hv (R := R) (K := K) (V := V) h2.1
      exact ⟨h3.1, h3.2.1, h3.2.2, by simp, by simp, by simp, by simp⟩
    · omega
  · have e : (usedM (((3, u, f, s, t, n, p), o, (R, K, V), (G, H, X, Y)), nilV, nilD)).1 = ((3, u, f, s, t, n, p), noOp, noVw, (G, H, X, Y)) := rfl
    rw [e] at hs2
    simp only [Prod.mk.injEq, noVw] at hs2
    obtain ⟨-, -, ⟨rfl, rfl, rfl⟩, -⟩ := hs2
    rw [if_neg (show ¬ (3 : Int) = 1 by omega)] at h
    split at h
    · have h2 := Orangery.orI_zero h
      have h3 := hd (G := G) (H := H) (X := X) (Y := Y) h2.2
      exact ⟨by simp, by simp, by simp, h3.1, h3.2.1, h3.2.2.1, h3.2.2.2⟩
    · omega
theorem mls_few {X : List Mm} {l : List Ml} (hl : X.map (·.1) = l) (h : mlsE l = 0) : ∀ x ∈ X, MlFew x.1 := by
  intro x hx
  refine ml1_few ?_
  have hm : x.1 ∈ l := by rw [← hl]; exact List.mem_map_of_mem hx
  clear hl hx
  induction l with
  | nil => simp at hm
  | cons y l ih =>
    have h0 : ml1E y = 0 := by
      unfold mlsE at h
      split at h
      · rename_i h1; exact absurd h h1
      · rename_i h1; simpa using h1
    have h1 : mlsE l = 0 := by
      unfold mlsE at h
      rwa [if_neg (by simp [h0])] at h
    rcases List.mem_cons.1 hm with e | hm
    · rw [e]; exact h0
    · exact ih h1 hm
theorem run_index_mails (a b : Value) (w : World) : (Instr.index 114 (.agg #[a, b]) (.int .i64 0)).run Tryz.prog w = .ok a w ∧ (Instr.index 114 (.agg #[a, b]) (.int .i64 1)).run Tryz.prog w = .ok b w := by
  have hu := Tryz.underlying114
  have ha := Tryz.isAgg70
  have hz := Tryz.sizeOf70
  unfold Instr.index
  refine ⟨?_, ?_⟩ <;> go_simp <;> simp [asAgg]
/-- what way.Send leaves -/
def SentM (w : World) (L : List Ml) (E : Int) (e : Ending) (w' : World) : Prop :=
  ∃ v Y, e = .returned (.tuple #[v, .int .i64 E]) ∧ OwnM w' w.heap.size v Y ∧ Y.map (·.1) = L ∧ Below w.heap.size w w'
theorem SentM.none {w w' : World} {E : Int} {L : List Ml} (hL : L = []) (hb : Below w.heap.size w w') : SentM w L E (.returned (.tuple #[.slice none 0 0, .int .i64 E])) w' :=
  ⟨_, [], rfl, OwnM.nil _ _, hL.symm, hb⟩

set_option maxHeartbeats 4000000 in
set_option maxRecDepth 100000 in
theorem wSend_any (w : World) (a : Option Addr) (c : Nat) (X : List Mm) (x : Mm) (hm : X.length ≤ maxLen) (hX : SlM w a X) (hx : MlIn w x) :
    Calls Tryz.prog 29 #[.slice a X.length c, x.val] w (SentM w (sendL (X.map (·.1)) x.1) (sendE (X.map (·.1)) x.1)) := by
  obtain ⟨L, hL⟩ : ∃ L, L = sendL (X.map (·.1)) x.1 := ⟨_, rfl⟩
  obtain ⟨E, hE⟩ : ∃ E, E = sendE (X.map (·.1)) x.1 := ⟨_, rfl⟩
  have H1 : Hid (mlE (X.map (·.1)) ≠ 0 → E = mlE (X.map (·.1)) ∧ L = []) := fun h => by
    have e : sendE (X.map (·.1)) x.1 = mlE (X.map (·.1)) := by unfold sendE; rw [if_pos h]
    exact ⟨by rw [hE, e], by rw [hL]; unfold sendL; rw [if_pos (by rw [e]; exact h)]⟩
  have H2 : Hid (mlE (X.map (·.1)) = 0 → ml1E x.1 ≠ 0 → E = ml1E x.1 ∧ L = []) := fun h h2 => by
    have e : sendE (X.map (·.1)) x.1 = ml1E x.1 := by unfold sendE; rw [if_neg (by simp [h])]
    exact ⟨by rw [hE, e], by rw [hL]; unfold sendL; rw [if_pos (by rw [e]; exact h2)]⟩
  have H3 : Hid (mlE (X.map (·.1)) = 0 → ml1E x.1 = 0 → E = 0 ∧ (X.length = 30 → L = X.map (·.1)) ∧ (X.length ≠ 30 → L = X.map (·.1) ++ [x.1]) ∧ X.length ≤ 30 ∧ (∀ y ∈ X, MlFew y.1) ∧ MlFew x.1) := fun h h2 => by
    have e : sendE (X.map (·.1)) x.1 = 0 := by unfold sendE; rw [if_neg (by simp [h])]; exact h2
    have hz := Orangery.mlE_zero h
    refine ⟨by rw [hE, e], fun h3 => by rw [hL]; exact Orangery.send_full e (by simpa using h3), fun h3 => by rw [hL]; exact (Orangery.send_room e (by simpa using h3)).1, by simpa using hz.1, mls_few rfl hz.2, ml1_few h2⟩
  rw [← hL, ← hE]
  clear hL hE
  obtain ⟨cx, hcx⟩ : ∃ c, c = mlC x := ⟨_, rfl⟩
  show Calls Tryz.prog _ #[_, .agg (mlC x).toArray] w _
  rw [← hcx]
  obtain ⟨W0, hW, hA, hB, -⟩ := laid1 w cx 74
  obtain ⟨W1, hW1, hA1, hB1, -⟩ := laid1 W0 cx 74
  have HX := Lib.hid hX
  have HXI := Lib.hid hx
  have HB0 := Lib.hid (hB.trans (hB1.mono hB.size))
  have HA0 := Lib.hid (hA.keep hB1)
  have HRB := Lib.hid hA.range
  have HI1 : Hid ((Tryz.prog.info? 74).map (·.size) = some cx.length) := by show _ = _; rw [hcx]; exact sizeMailC x
  have HLC : Hid (cx.length = 21) := by show _ = _; rw [hcx]; rfl
  have HONE : Hid (SlM W1 (some ⟨W0.heap.size, 0, none⟩) [x]) := one_row (by rw [← hcx]; exact hA1) (hx.keep HB0.out)
  have HCLN : Hid (MlFew x.1 → ∀ W, Below w.heap.size w W → Calls Tryz.prog 76 #[.agg cx.toArray] W fun e w' => ∃ y : Mm, e = .returned y.val ∧ y.1 = x.1 ∧ MlIn w' y ∧ MlD (W.heap.size ≤ ·) y ∧ Below W.heap.size W w') := fun h W hb => by rw [hcx]; exact wclone_any W x (hx.keep hb) h
  have HSZ : Hid (w.heap.size < W0.heap.size) := hA.lt
  have hlen := hm
  clear hX hx hA hB hA1 hB1 hcx hm
  have hm' : X.length ≤ 9223372036854775807 := hlen
  go_enter Tryz.func29, Tryz.ntmps29
  go_upto_region 1 with fail
  clear hW
  go_wp2_with (first | (refine wpList_load_mid rfl 74 _ rfl w.heap.size 0 rfl cx _ HRB.out Tryz.underlying74 rfl HI1.out ?_) | (with_reducible refine at_slice ?_; refine build_one rfl rfl cx HLC.out rfl ?_; rw [hW1]) | fail)
  clear hW1 HRB
  have HBL := Lib.hid (Below.refl W1.heap.size W1)
  have hix := fun W => run_index_mails (.slice a X.length c) (.slice (some ⟨W0.heap.size, 0, none⟩) 1 1) W
  go_loopw [14] (fun i W => ∃ k : Nat, k ≤ 2 ∧ i = .int .i64 k ∧ (1 ≤ k → mlE (X.map (·.1)) = 0) ∧ (2 ≤ k → ml1E x.1 = 0) ∧ Below W1.heap.size W1 W) (fun i _ => 2 - (intOf i).toNat)
  case atStart => exact ⟨0, by omega, rfl, by omega, by omega, HBL.out⟩
  case round =>
    obtain ⟨k, hk, rfl, hc1, hc2, hb⟩ := hrel
    have HK1 := Lib.hid hc1
    have HK2 := Lib.hid hc2
    have HBw : Hid (Below w.heap.size w wr) := HB0.out.trans (hb.mono HB0.out.size)
    have HBr := Lib.hid hb
    have hcs : k = 0 ∨ k = 1 ∨ k = 2 := by omega
    clear hc1 hc2 hb HBL
    rcases hcs with rfl | rfl | rfl
    · go_wp2_with fail
      refine (wCheck_any wr a c X _ rfl hlen (HX.out.keep HBw.out)).mono ?_
      rintro e w3 ⟨rfl, hb3⟩
      have HB3 : Hid (Below W1.heap.size W1 w3) := HBr.out.trans (hb3.mono HBr.out.size)
      have HBw3 : Hid (Below w.heap.size w w3) := HBw.out.trans (hb3.mono HBw.out.size)
      clear hb3 HBr HBw
      by_cases hz : mlE (X.map (·.1)) = 0
      · have HZ := Lib.hid hz
        rw [hz]
        clear hz
        go_wp2
        go_roundw
        case rel => exact ⟨1, by omega, by go_num, fun _ => HZ.out, by omega, HB3.out⟩
        case measure => simp [intOf]
      · have HE := Lib.hid (H1.out hz)
        have dz : (mlE (X.map (·.1)) != 0) = true := by simpa using hz
        clear hz H1 H2 H3
        generalize mlE (X.map (·.1)) = ez at *
        go_wp2
        go_ret2
        rw [← HE.out.1]
        exact SentM.none HE.out.2 HBw3.out
    · go_wp2_with fail
      refine (wCheck_any wr (some ⟨W0.heap.size, 0, none⟩) 1 [x] [x.1] rfl (by unfold maxLen; simp) (HONE.out.keep HBr.out)).mono ?_
      rintro e w3 ⟨rfl, hb3⟩
      have HB3 : Hid (Below W1.heap.size W1 w3) := HBr.out.trans (hb3.mono HBr.out.size)
      have HBw3 : Hid (Below w.heap.size w w3) := HBw.out.trans (hb3.mono HBw.out.size)
      rw [Orangery.mlE_one]
      clear hb3 HBr HBw
      have HZ1 := Lib.hid (HK1.out (by omega))
      by_cases hz : ml1E x.1 = 0
      · have HZ := Lib.hid hz
        rw [hz]
        clear hz
        go_wp2
        go_roundw
        case rel => exact ⟨2, by omega, by go_num, fun _ => HZ1.out, fun _ => HZ.out, HB3.out⟩
        case measure => simp [intOf]
      · have HE := Lib.hid (H2.out HZ1.out hz)
        have dz : (ml1E x.1 != 0) = true := by simpa using hz
        clear hz H1 H2 H3 HK1 HK2
        generalize ml1E x.1 = ez at *
        go_wp2
        go_ret2
        rw [← HE.out.1]
        exact SentM.none HE.out.2 HBw3.out
    · obtain ⟨hE0, hL30, hLr, hl30, hfX, hfx⟩ := H3.out (HK1.out (by omega)) (HK2.out (by omega))
      have HL30 := Lib.hid hL30
      have HLR := Lib.hid hLr
      have HE0 := Lib.hid hE0
      have HC := Lib.hid (wcloneAll_any wr a c X (by omega) (HX.out.keep HBw.out) hfX)
      have HCL := Lib.hid (HCLN.out hfx)
      have HAr := Lib.hid (HA0.out.keep HBr.out)
      clear hE0 hL30 hLr hfX hfx H1 H2 H3 HK1 HK2 HCLN
      go_wp2_with fail
      refine HC.out.mono ?_
      rintro e w4 ⟨v, Y, rfl, hO, hYM, hb4⟩
      have HO := Lib.hid hO
      have HYM := Lib.hid hYM
      have hYl : Y.length = X.length := by have := congrArg List.length hYM; simpa using this
      obtain ⟨ay, cy, rfl, -⟩ := hO.val
      have HB4 : Hid (Below w.heap.size w w4) := HBw.out.trans (hb4.mono HBw.out.size)
      have HA4 := Lib.hid (HAr.out.keep hb4)
      have HWR : Hid (w.heap.size ≤ wr.heap.size) := HBw.out.size
      have HWB : Hid (wr.heap.size ≤ w4.heap.size) := hb4.size
      clear hO hYM hb4 HC HBw HBr HAr
      by_cases h30 : X.length = 30
      · have HLE := Lib.hid (HL30.out h30)
        have d1 : ((Y.length : Int) == 30) = true := by rw [hYl, h30]; rfl
        clear h30 HL30 HLR hYl
        go_wp2
        go_ret2
        rw [← HE0.out]
        exact ⟨_, Y, rfl, HO.out.mono HWR.out, by rw [HLE.out]; exact HYM.out, HB4.out⟩
      · have HLE := Lib.hid (HLR.out h30)
        have d1 : ((Y.length : Int) == 30) = false := by rw [hYl]; simp; omega
        have hY30 : Y.length ≤ 30 := by omega
        clear h30 HL30 HLR hYl
        have HR4 := Lib.hid HA4.out.range
        go_wp2_with (first | (refine wpList_load_mid rfl 74 _ rfl w.heap.size 0 rfl cx _ HR4.out Tryz.underlying74 rfl HI1.out ?_) | fail)
        refine (HCL.out w4 HB4.out).mono ?_
        rintro e w5 ⟨y, rfl, hy, hyI, hyD, hb5⟩
        obtain ⟨W6, hW6, hN6, hB6, hs6⟩ := laid1 w5 (mlC y) 74
        have hb56 : Below w4.heap.size w4 W6 := hb5.trans (hB6.mono hb5.size)
        have HO6 := Lib.hid (HO.out.keep hb56)
        have hown := HO6.out.row.row
        have HNEWS : Hid (∀ j u, (mlC y)[j]? = some u → W6.cell? ((⟨w5.heap.size, 0, none⟩ : Addr).add j) = some u) := by
          intro j u hj
          rw [Addr.add_mid, Nat.zero_add]
          exact hN6.at j hj
        have HYI := Lib.hid (hyI.keep hB6)
        have HYD : Hid (MlD (fun b => w4.heap.size ≤ b ∧ b < W6.heap.size) y) := (hyD.and (hyI.keep hB6).isin)
        have HB6 : Hid (Below w.heap.size w W6) := HB4.out.trans (hb56.mono HB4.out.size)
        have HYX := Lib.hid hy
        have hbs : wr.heap.size ≤ W6.heap.size := Nat.le_trans HWB.out hb56.size
        have HROW : Hid (∀ g, (Value.slice ay Y.length cy).ownBlock = some g → wr.heap.size ≤ g ∧ g < w4.heap.size) := fun g hg => HO.out.row.row.lt g hg
        have HWB6 : Hid (w4.heap.size ≤ W6.heap.size) := hb56.size
        obtain ⟨i0, hi, hz0, hz1, hz2⟩ := info_parts infoMail
        have HIC : Hid (∀ v ∈ mlC y, v.oneCell' = true) := mlC_one y
        clear hN6 hb5 hB6 hs6 hb56 hyI hyD hy HA4 HR4 HCL
        go_wp2_with (first | (with_reducible refine at_slice ?_; refine build_one rfl rfl (mlC y) rfl rfl ?_; rw [hW6]) | (at_builtin; refine wpList_append_own_at _ rfl _ _ 70 rfl wr.heap.size 74 i0 _ 21 280 Tryz.underlying70 hi hz0 hz1 hz2 rfl (by decide) _ _ _ rfl hown ⟨w5.heap.size, 0, none⟩ 1 1 (mlC y) rfl rfl ?c1 ?c2 ?c3 ?c4 ?c5 ?_) | fail)
        case c1 => exact HNEWS.out
        case c2 => exact HIC.out
        case c3 => unfold maxLen; omega
        case c4 => omega
        case c5 => exact hbs
        intro v' w7 hown' hgrow _ hat
        have HO7 : Hid (OwnM w7 wr.heap.size v' (Y ++ [y])) := by
          have hblk : ∀ b, (wr.heap.size ≤ b ∧ (Value.slice ay Y.length cy).ownBlock ≠ some b) ∧ b < W6.heap.size → some b ≠ (Value.slice ay Y.length cy).ownBlock := fun b hb e => hb.1.2 e.symm
          have hne : ∀ b, b < W6.heap.size → (Value.slice ay Y.length cy).ownBlock ≠ some b → v'.ownBlock ≠ some b := by
            intro b hb hb2 e
            rcases hat with h | h
            · exact hb2 (by rw [← h]; exact e)
            · rw [h] at e
              have : W6.heap.size = b := by simpa using e
              omega
          refine ⟨?_, ?_, ?_⟩
          · have e1 : (Y ++ [y]).length = Y.length + 1 := by simp
            have e2 : (Y ++ [y]).flatMap mlC = Y.flatMap mlC ++ mlC y := by simp
            unfold OwnE
            rw [e1, e2]
            exact hown'
          · intro z hz
            rcases List.mem_append.1 hz with hz | hz
            · exact (HO6.out.each z hz).grown ((HO6.out.lists z hz).and (HO6.out.each z hz).isin) hgrow hblk
            · simp at hz
              subst hz
              exact HYI.out.grown HYD.out hgrow (fun b hb e => by have := HROW.out b e.symm; omega)
          · intro z hz
            rcases List.mem_append.1 hz with hz | hz
            · exact ((HO6.out.lists z hz).and (HO6.out.each z hz).isin).imp (fun b hb => ⟨hb.1.1, hne b hb.2 hb.1.2⟩)
            · simp at hz
              subst hz
              exact HYD.out.imp (fun b hb => ⟨by have := HWB.out; omega, hne b hb.2 (fun e => by have := HROW.out b e; omega)⟩)
        have HB7 : Hid (Below w.heap.size w w7) := HB6.out.trans ((below_grown hown hbs hgrow).mono HWR.out)
        have HM7 : Hid ((Y ++ [y]).map (·.1) = L) := by show _ = _; rw [HLE.out, List.map_append, HYM.out]; simp [HYX.out]
        clear hown' hgrow hat hown hbs
        go_wp2
        go_ret2
        rw [← HE0.out]
        exact ⟨_, Y ++ [y], rfl, HO7.out.mono HWR.out, HM7.out, HB7.out⟩
end Go.Proofs.YtljbchkmoekpmadGreat

/- way.Take. -/
namespace Go.Proofs.YtljbchkmoekpmadGreat
open Go.ChangeShapes Go.WideShapes Go.ChangeAt Go.RowKit
open Orangery (Pl Mv Vw Dl Ml noVw noDl noMl noOp ml1E mlsE mlE sendE sendL takeE takeL takeM)

def noMm : Mm := (noMl, nilV, nilD)
theorem noMm_in (w : World) : MlIn w noMm := ⟨Or.inl rfl, Or.inl rfl, Or.inl rfl, Or.inl rfl, Or.inl rfl, Or.inl rfl, Or.inl rfl, by simp [noMm, noMl, noVw, noDl], ⟨fun _ => rfl, fun _ => rfl⟩⟩
theorem noMm_D (D : Nat → Prop) : MlD D noMm := ⟨Or.inl rfl, Or.inl rfl, Or.inl rfl, Or.inl rfl, Or.inl rfl, Or.inl rfl, Or.inl rfl⟩
theorem ret_tmp_cell_tmp {fn : Func} {R : Ending → World → Prop} {tmps : Array Value} {W : World} {p u t : Tmp} {ty : TypeId} {b : Nat} {vs : List Value} {v x : Value}
    (h : fn.results = #[.tmp u, .cell p ty, .tmp t]) (hp : tmps.getD p undef = .pointer (some ⟨b, 0, none⟩)) (hv : tmps.getD u undef = v) (hx : tmps.getD t undef = x) (hl : (loadVar ty ⟨b, 0, none⟩).run Tryz.prog W = .ok (.agg vs.toArray) W)
    (hR : R (.returned (.tuple #[v, .agg vs.toArray, x])) W) : bodyPost Tryz.prog fn R .ret { tmps := tmps, defers := [] } W := by
  refine bodyPost_ret ?_ rfl hR
  have hp' : tmps[p]?.getD undef = .pointer (some ⟨b, 0, none⟩) := by simpa using hp
  have hv' : tmps[u]?.getD undef = v := by simpa using hv
  have hx' : tmps[t]?.getD undef = x := by simpa using hx
  simp [results, h, hp', hv', hx', asAddr, hl]
theorem OwnM.sets {w : World} {base : Nat} {v : Value} {Y : List Mm} (h : OwnM w base v Y) (g : Nat) (hg : g < base) (us : List Value) (o : Nat) : OwnM (w.setCells g o us) base v Y :=
  ⟨OwnE.others g hg us o w h.row, fun y hy => (h.each y hy).sets (h.lists y hy) g (fun b hb => by have := hb.1; omega) us o, h.lists⟩
/-- what way.Take leaves -/
def TookM (w : World) (L : List Ml) (m : Ml) (E : Int) (e : Ending) (w' : World) : Prop :=
  ∃ v Y y, e = .returned (.tuple #[v, Mm.val y, .int .i64 E]) ∧ OwnM w' (w.heap.size + 1) v Y ∧ Y.map (·.1) = L ∧ y.1 = m ∧ MlIn w' y ∧ MlD (w.heap.size < ·) y ∧ Below w.heap.size w w'

set_option maxHeartbeats 4000000 in
set_option maxRecDepth 100000 in
theorem wTake_any (w : World) (a : Option Addr) (c : Nat) (X : List Mm) (k : Int) (tw : Bool) (hm : X.length ≤ maxLen) (hX : SlM w a X) :
    Calls Tryz.prog 30 #[.slice a X.length c, .int .i64 k, .bool tw] w (TookM w (takeL (X.map (·.1)) k tw) (takeM (X.map (·.1)) k) (takeE (X.map (·.1)) k)) := by
  obtain ⟨L, hL⟩ : ∃ L, L = takeL (X.map (·.1)) k tw := ⟨_, rfl⟩
  obtain ⟨m, hmm⟩ : ∃ m, m = takeM (X.map (·.1)) k := ⟨_, rfl⟩
  obtain ⟨E, hE⟩ : ∃ E, E = takeE (X.map (·.1)) k := ⟨_, rfl⟩
  have H1 : Hid (mlE (X.map (·.1)) ≠ 0 → E = mlE (X.map (·.1)) ∧ L = [] ∧ m = noMl) := fun h => by
    have e : takeE (X.map (·.1)) k = mlE (X.map (·.1)) := by unfold takeE; rw [if_pos h]
    exact ⟨by rw [hE, e], by rw [hL]; unfold takeL; rw [if_pos (by rw [e]; exact h)], by rw [hmm]; unfold takeM; rw [if_pos (by rw [e]; exact h)]⟩
  have H2 : Hid (mlE (X.map (·.1)) = 0 → ¬ (0 ≤ k ∧ k < X.length) → E = 5 ∧ L = [] ∧ m = noMl) := fun h h2 => by
    have e : takeE (X.map (·.1)) k = 5 := by unfold takeE; rw [if_neg (by simp [h]), if_pos (by simpa using h2)]
    exact ⟨by rw [hE, e], by rw [hL]; unfold takeL; rw [if_pos (by rw [e]; decide)], by rw [hmm]; unfold takeM; rw [if_pos (by rw [e]; decide)]⟩
  have H3 : Hid (mlE (X.map (·.1)) = 0 → ∀ n : Nat, (hn : n < X.length) → k = n → E = 0 ∧ (tw = true → L = X.map (·.1)) ∧ (tw = false → L = (X.map (·.1)).take n ++ (X.map (·.1)).drop (n + 1)) ∧ m = X[n].1 ∧ X.length ≤ 30 ∧ ∀ y ∈ X, MlFew y.1) := fun h n hn hk => by
    have e : takeE (X.map (·.1)) k = 0 := by unfold takeE; rw [if_neg (by simp [h]), if_neg (by simp; omega)]
    have hz := Orangery.mlE_zero h
    refine ⟨by rw [hE, e], fun h2 => ?_, fun h2 => ?_, ?_, by simpa using hz.1, mls_few rfl hz.2⟩
    · rw [hL]; unfold takeL; rw [if_neg (by simp [e]), h2, if_pos rfl]
    · rw [hL]; unfold takeL; rw [if_neg (by simp [e]), h2, if_neg (by decide), hk]; rfl
    · rw [hmm]; unfold takeM; rw [if_neg (by simp [e]), hk]; simp [List.getD_eq_getElem?_getD, hn]
  rw [← hL, ← hE, ← hmm]
  clear hL hE hmm
  obtain ⟨W0, hW, hA, hB, hZ⟩ := laid1 w [Value.int .i64 0, .int .i64 0, .int .i64 0, .int .i64 0, .int .i64 0, .int .i64 0, .int .i64 0, .int .i64 0, .int .i64 0, .int .i64 0, .int .i64 0, .int .i64 0, .int .i64 0, .int .i64 0, .slice none 0 0, .slice none 0 0, .slice none 0 0, .slice none 0 0, .slice none 0 0, .slice none 0 0, .slice none 0 0] 74
  have HZ0 : Hid (W0.heap.size = w.heap.size + 1) := hZ
  have HA : Hid (Blk W0 w.heap.size zeroMail) := hA
  have HX := Lib.hid (hX.keep hB)
  have HXW := Lib.hid hX
  have HB0 := Lib.hid hB
  have hlen := hm
  clear hX hm hA hB hZ
  have hm' : X.length ≤ 9223372036854775807 := hlen
  go_enter Tryz.func30, Tryz.ntmps30
  go_wp2_with fail
  clear hW
  refine (wCheck_any W0 a c X _ rfl hlen HX.out).mono ?_
  rintro e w1 ⟨rfl, hb⟩
  have HA1 := Lib.hid (HA.out.keep hb)
  have HX1 := Lib.hid (HX.out.keep hb)
  have HB1 := Lib.hid (HB0.out.trans (hb.mono HB0.out.size))
  have HS1 : Hid (w.heap.size + 1 ≤ w1.heap.size) := by show _ ≤ _; have := hb.size; have := HZ0.out; omega
  clear hb HA HX HB0 HZ0
  have HSM : Hid ((Tryz.prog.info? 74).map (·.size) = some (mlC noMm).toArray.size) := sizeMail
  have HON : Hid ((mlC noMm).toArray.all (·.oneCell') = true) := all_oneCell_toArray (mlC_one noMm)
  have HT1 : Hid (w1.there w.heap.size 0 (mlC noMm).toArray.size) := HA1.out.there
  by_cases hz : mlE (X.map (·.1)) = 0
  case neg =>
    have HE := Lib.hid (H1.out hz)
    have dz : (mlE (X.map (·.1)) != 0) = true := by simpa using hz
    clear hz H1 H2 H3
    generalize mlE (X.map (·.1)) = ez at *
    go_wp2_with (first | (with_reducible refine at_store 74 ?_; refine wpList_store_mid rfl 74 _ _ rfl w.heap.size 0 (mlC noMm).toArray rfl rfl HT1.out HSM.out HON.out ?_) | fail)
    have hR := HA1.out.sets (mlC noMm) rfl
    refine ret_tmp_cell_tmp Tryz.results30 rfl rfl rfl (hR.load Tryz.underlying74 rfl (sizeMailC noMm)) ?_
    rw [← HE.out.1]
    exact ⟨_, [], noMm, rfl, OwnM.nil _ _, HE.out.2.1.symm, HE.out.2.2.symm, noMm_in _, noMm_D _, below_sets HB1.out w.heap.size (Nat.le_refl _) _ _⟩
  have HZ := Lib.hid hz
  rw [hz]
  clear hz H1
  by_cases hk : 0 ≤ k ∧ k < X.length
  case neg =>
    have HE := Lib.hid (H2.out HZ.out hk)
    clear H2 H3
    by_cases hk0 : k < 0
    · have d1 : decide (k < 0) = true := by simpa using hk0
      clear hk
      go_wp2_with (first | (with_reducible refine at_store 74 ?_; refine wpList_store_mid rfl 74 _ _ rfl w.heap.size 0 (mlC noMm).toArray rfl rfl HT1.out HSM.out HON.out ?_) | fail)
      have hR := HA1.out.sets (mlC noMm) rfl
      refine ret_tmp_cell_tmp Tryz.results30 rfl rfl rfl (hR.load Tryz.underlying74 rfl (sizeMailC noMm)) ?_
      rw [HE.out.1]
      exact ⟨_, [], noMm, rfl, OwnM.nil _ _, HE.out.2.1.symm, HE.out.2.2.symm, noMm_in _, noMm_D _, below_sets HB1.out w.heap.size (Nat.le_refl _) _ _⟩
    · have d1 : decide (k < 0) = false := by simpa using hk0
      have d2 : decide (k ≥ (X.length : Int)) = true := by simp; omega
      clear hk
      go_wp2_with (first | (with_reducible refine at_store 74 ?_; refine wpList_store_mid rfl 74 _ _ rfl w.heap.size 0 (mlC noMm).toArray rfl rfl HT1.out HSM.out HON.out ?_) | fail)
      have hR := HA1.out.sets (mlC noMm) rfl
      refine ret_tmp_cell_tmp Tryz.results30 rfl rfl rfl (hR.load Tryz.underlying74 rfl (sizeMailC noMm)) ?_
      rw [HE.out.1]
      exact ⟨_, [], noMm, rfl, OwnM.nil _ _, HE.out.2.1.symm, HE.out.2.2.symm, noMm_in _, noMm_D _, below_sets HB1.out w.heap.size (Nat.le_refl _) _ _⟩
  obtain ⟨n, rfl⟩ : ∃ n : Nat, k = n := ⟨k.toNat, by omega⟩
  have hn : n < X.length := by omega
  obtain ⟨hE0, hLt, hLf, hmx, hl30, hfX⟩ := H3.out HZ.out n hn rfl
  have HE0 := Lib.hid hE0
  have HLT := Lib.hid hLt
  have HLF := Lib.hid hLf
  have HMX := Lib.hid hmx
  have HFX := Lib.hid hfX
  have d1 : decide ((n : Int) < 0) = false := by simp
  have d2 : decide ((n : Int) ≥ (X.length : Int)) = false := by simp; omega
  clear hk hE0 hLt hLf hmx hfX H2 H3 HSM HON HT1
  have hn30 : n ≤ 29 := by omega
  go_wp2_with fail
  clear d1 d2
  refine (wcloneAll_any w1 a c X (by omega) HX1.out HFX.out).mono ?_
  rintro e w2 ⟨v, Y, rfl, hO, hYM, hb⟩
  have HO := Lib.hid hO
  have HYM := Lib.hid hYM
  have hYl : Y.length = X.length := by have := congrArg List.length hYM; simpa using this
  have HA2 := Lib.hid (HA1.out.keep hb)
  have HX2 := Lib.hid (HX1.out.keep hb)
  have HB2 := Lib.hid (HB1.out.trans (hb.mono HB1.out.size))
  have HS2 : Hid (w1.heap.size ≤ w2.heap.size) := hb.size
  clear hb hO hYM HX1 HA1 HB1
  obtain ⟨bx, ox, ea, hbx, hrx⟩ := HXW.out.reads.at mlC_len n hn
  have HXI := Lib.hid (HXW.out.each _ (List.getElem_mem hn))
  have HXF := Lib.hid (HFX.out _ (List.getElem_mem hn))
  have HRG : Hid (∀ W, Below w.heap.size w W → W.rangeAt bx (ox + n * 21) (mlC X[n])) := fun W hb i v hv => by rw [hb.cell (by exact hbx)]; exact hrx i v hv
  obtain ⟨x, hx⟩ : ∃ x, x = X[n] := ⟨_, rfl⟩
  rw [← hx] at HXI HXF HRG HMX
  subst ea
  have hnx : n < X.length := hn
  clear hx hrx HX2 HFX hbx HXW
  have HI1 := Lib.hid (sizeMailC x)
  have HFIN : Hid (∀ (w3 : World) (v' : Value) (Z : List Mm), OwnM w3 (w.heap.size + 1) v' Z → Z.map (·.1) = L → Blk w3 w.heap.size zeroMail → Below w.heap.size w w3 → ∀ (w4 : World) (y : Mm), y.1 = x.1 → MlIn w4 y → MlD (w3.heap.size ≤ ·) y → Below w3.heap.size w3 w4 → TookM w L m E (.returned (.tuple #[v', Mm.val y, .int .i64 E])) (w4.setCells w.heap.size 0 (mlC y))) := by
    intro w3 v' Z h1 h2 h3 h4 w4 y h5 h6 h7 h8
    have hlt := h3.lt
    exact ⟨v', Z, y, rfl, (h1.keep h8).sets w.heap.size (by omega) _ _, h2, by rw [h5, HMX.out], h6.sets h7 _ (fun b hb => by omega) _ _, h7.imp (fun b hb => by omega), below_sets (h4.trans (h8.mono h4.size)) w.heap.size (Nat.le_refl _) _ _⟩
  cases tw
  case true =>
    have HL2 : Hid (Y.map (·.1) = L) := by show _ = _; rw [HLT.out rfl]; exact HYM.out
    have HO2 := Lib.hid (HO.out.mono HS1.out)
    clear HLT HLF HYM HO HMX
    go_wp2_with (first | (refine wpList_load_mid rfl 74 _ rfl bx (ox + n * 21) rfl (mlC x) _ (HRG.out _ HB2.out) Tryz.underlying74 rfl HI1.out ?_) | fail)
    refine (wclone_any w2 x (HXI.out.keep HB2.out) HXF.out).mono ?_
    rintro e w4 ⟨y, rfl, hy, hyI, hyD, hb⟩
    have HT4 : Hid (w4.there w.heap.size 0 (mlC y).toArray.size) := (HA2.out.keep hb).there
    have HA4 := Lib.hid (HA2.out.keep hb)
    have HF4 := Lib.hid (HFIN.out w2 v Y HO2.out HL2.out HA2.out HB2.out w4 y hy hyI hyD hb)
    have HSM : Hid ((Tryz.prog.info? 74).map (·.size) = some (mlC y).toArray.size) := sizeMail
    have HON : Hid ((mlC y).toArray.all (·.oneCell') = true) := all_oneCell_toArray (mlC_one y)
    clear hy hyI hyD hb HFIN
    go_wp2_with (first | (with_reducible refine at_store 74 ?_; refine wpList_store_mid rfl 74 _ _ rfl w.heap.size 0 (mlC y).toArray rfl rfl HT4.out HSM.out HON.out ?_) | fail)
    have hR := HA4.out.sets (mlC y) rfl
    refine ret_tmp_cell_tmp Tryz.results30 rfl rfl rfl (hR.load Tryz.underlying74 rfl (sizeMailC y)) ?_
    rw [← HE0.out]
    exact HF4.out
  case false =>
    have hkY : n < Y.length := by omega
    have HDEL := Lib.hid (deleteMails_any w2 w1.heap.size v Y n hkY (by omega) HO.out)
    have hnw : IntKind.i64.wrap ((n : Int) + 1) = (n : Int) + 1 := by rw [IntKind.wrap_i64]; omega
    have hnw2 : wrap64 ((n : Int) + 1) = (n : Int) + 1 := by unfold wrap64; omega
    clear HLT HMX
    go_wp2_with fail
    refine HDEL.out.mono ?_
    rintro e w3 ⟨v', rfl, hO3, hb3⟩
    have hbn : Below (w.heap.size + 1) w2 w3 := hb3.mono HS1.out
    have HO3 := Lib.hid (hO3.mono HS1.out)
    have HL3 : Hid ((Y.take n ++ Y.drop (n + 1)).map (·.1) = L) := by show _ = _; rw [HLF.out trivial, List.map_append, List.map_take, List.map_drop, HYM.out]
    have HA3 : Hid (Blk w3 w.heap.size zeroMail) := HA2.out.below hbn (by omega)
    have HB3 : Hid (Below w.heap.size w w3) := HB2.out.trans (hbn.mono (by omega))
    clear hbn hb3 hO3 HLF HYM HO HA2 HDEL hkY hYl hnw hnw2
    go_wp2_with (first | (refine wpList_load_mid rfl 74 _ rfl bx (ox + n * 21) rfl (mlC x) _ (HRG.out _ HB3.out) Tryz.underlying74 rfl HI1.out ?_) | fail)
    refine (wclone_any w3 x (HXI.out.keep HB3.out) HXF.out).mono ?_
    rintro e w4 ⟨y, rfl, hy, hyI, hyD, hb⟩
    have HT4 : Hid (w4.there w.heap.size 0 (mlC y).toArray.size) := (HA3.out.keep hb).there
    have HA4 := Lib.hid (HA3.out.keep hb)
    have HF4 := Lib.hid (HFIN.out w3 v' _ HO3.out HL3.out HA3.out HB3.out w4 y hy hyI hyD hb)
    have HSM : Hid ((Tryz.prog.info? 74).map (·.size) = some (mlC y).toArray.size) := sizeMail
    have HON : Hid ((mlC y).toArray.all (·.oneCell') = true) := all_oneCell_toArray (mlC_one y)
    clear hy hyI hyD hb HFIN
    go_wp2_with (first | (with_reducible refine at_store 74 ?_; refine wpList_store_mid rfl 74 _ _ rfl w.heap.size 0 (mlC y).toArray rfl rfl HT4.out HSM.out HON.out ?_) | fail)
    have hR := HA4.out.sets (mlC y) rfl
    refine ret_tmp_cell_tmp Tryz.results30 rfl rfl rfl (hR.load Tryz.underlying74 rfl (sizeMailC y)) ?_
    rw [← HE0.out]
    exact HF4.out
end Go.Proofs.YtljbchkmoekpmadGreat

/- orangerylaw.op; an own slice is read. -/
namespace Go.Proofs.YtljbchkmoekpmadGreat
open Go.ChangeShapes Go.WideShapes Go.ChangeAt Go.RowKit
open Orangery (Pl Mv Stp)

/-- orangerylaw.op -/
def lopO (t u n p : Int) : Mv := (t, u, (n, p, 0), 1, t)

set_option maxHeartbeats 400000 in
theorem lop_any (w : World) (t u n p : Int) :
    Calls Tryz.prog 50 #[.int .i64 t, .int .i64 u, .int .i64 n, .int .i64 p] w fun e w' => e = .returned (opV (lopO t u n p)) ∧ Below w.heap.size w w' := by
  go_enter Tryz.func50, Tryz.ntmps50
  go_wp2
  refine bodyPost_ret (v := opV (lopO t u n p)) (by simp [results, Tryz.results50, go_sem, lopO]) rfl ⟨rfl, Go.Joins.below_alloc1 w _⟩

end Go.Proofs.YtljbchkmoekpmadGreat

