/- 6 texts of the proof: history.play: operations done one after the other. slices.SortFunc on a row of the call's own, whatever its elements: a permutation, in order. slices.SortFunc at operations is the library's, by its own laws. Plain facts on chapter 3, further: stamps that are there, and what sorting by stamps makes. slices.SortFunc by history.byStamp. history.Fold. -/
import Derived.Deep.DeepCutAuto
import Derived.Shelf.SlSortCmp.NoneTotal
import Derived.Shelf.SlSortCmp.WholeK
import Derived.Shelf.SlGeneric
import Derived.Ground.SlsfProg
import Derived.Test.YthlhnokgcnieeadGreatProg
import Derived.Test.YthlhnokgcnieeadGreatP04
import Derived.Test.YthlhnokgcnieeadGreatP08
import Derived.Test.YthlhnokgcnieeadGreatP07
import Derived.Test.YthlhnokgcnieeadGreatP01
/- history.play: operations done one after the other. -/
namespace Go.Proofs.YthlhnokgcnieeadGreat
open Go.ChangeShapes Go.WideShapes Go.ChangeAt Go.RowKit
open Orangery (Pl Mv Stp check checkOp doE doT doS dT dS)

set_option maxHeartbeats 2000000 in
set_option maxRecDepth 100000 in
theorem play_any (w : World) (a : Option Addr) (c : Nat) (l : List Mv) (hl : l.length ≤ 1000) (h : SlE opC w a l) (hok : ∀ o ∈ l, checkOp o = 0) :
    Calls Tryz.prog 57 #[.slice a l.length c] w
      fun e w' => ∃ vL vT, e = .returned (.tuple #[hiV vL vT, .int .i64 0]) ∧ OwnE stC 11 95 w' w.heap.size vL (Orangery.runS [] l) ∧ OwnS w' w.heap.size vT (Orangery.runT [] l) ∧ Below w.heap.size w w' := by
  obtain ⟨i0, hi, hz0, hz1, hz2⟩ := info_parts infoStep
  have HH : Hid (SlE opC w a l) := h
  have HOK : Hid (∀ o ∈ l, checkOp o = 0) := hok
  clear h hok
  obtain ⟨W0, hW, hR, hH, hB, hS⟩ := laid2 w [Value.slice none 0 0, Value.slice none 0 0] 27 [Value.slice none 0 0, Value.slice none 0 0] 27
  go_enter Tryz.func57, Tryz.ntmps57
  go_wp2
  clear hW
  go_loopw [12] (fun i W => ∃ (k : Nat) (vL vT : Value), k ≤ l.length ∧ i = .int .i64 k ∧ Blk W w.heap.size [Value.slice none 0 0, Value.slice none 0 0] ∧ Blk W (w.heap.size + 1) [vL, vT] ∧ OwnE stC 11 95 W (w.heap.size + 2) vL (Orangery.runS [] (l.take k)) ∧ OwnS W (w.heap.size + 2) vT (Orangery.runT [] (l.take k)) ∧ Below w.heap.size w W) (fun i _ => l.length - (intOf i).toNat)
  case atStart => exact ⟨0, _, _, Nat.zero_le _, rfl, hR, hH, OwnE.nil _ _, Or.inl ⟨rfl, rfl⟩, hB⟩
  case round =>
    clear hR hH hB hS
    obtain ⟨k, vL, vT, hk, rfl, hR, hH, hL, hT, hb⟩ := hrel
    by_cases hlt : k < l.length
    · obtain ⟨b, off, rfl, hbl, hr⟩ := (HH.out.below hb).at opC_len k hlt
      obtain ⟨g0, g1, g2, g3, g4, g5, g6⟩ := op_cells hr
      have HT1 : Hid (l.take (k + 1) = l.take k ++ [l[k]]) := List.take_succ_eq_append_getElem hlt
      have hco := HOK.out l[k] (List.getElem_mem hlt)
      have hct : check (Orangery.runT [] (l.take k)) = 0 := Orangery.runT_check _ _ Orangery.check_empty (fun o ho => HOK.out o (List.mem_of_mem_take ho))
      have hz := Orangery.doE_of hct hco
      obtain ⟨hdT, hdS⟩ := Orangery.dT_eq hz
      have hTl := Orangery.check_len _ hct
      have hSl : (Orangery.runS [] (l.take k)).length ≤ 1000 := by rw [Orangery.runS_len]; simp; omega
      have HRT : Hid (Orangery.runT [] (l.take (k + 1)) = dT (Orangery.runT [] (l.take k)) l[k]) := by show _ = _; rw [HT1.out, Orangery.runT_append]; rfl
      have HRS : Hid (Orangery.runS [] (l.take (k + 1)) = Orangery.runS [] (l.take k) ++ [dS (Orangery.runT [] (l.take k)) l[k]]) := by show _ = _; rw [HT1.out, Orangery.runS_append]; rfl
      clear hr hco hct HT1
      generalize l[k] = o at *
      generalize Orangery.runT [] (l.take k) = Tk at *
      generalize Orangery.runS [] (l.take k) = Sk at *
      obtain ⟨aT, cT, rfl⟩ := hT.val
      have hP := hT.read
      obtain ⟨aL, cL, rfl, _, _⟩ := hL.val
      have HD : ∀ W, SlP W aT Tk → Calls Tryz.prog 88 #[.agg #[.slice aT Tk.length cT], opV o] W fun e w' => ∃ v, e = .returned (.tuple #[.agg #[v], stV (dS Tk o), .int .i64 0]) ∧ OwnS w' W.heap.size v (dT Tk o) ∧ Below W.heap.size W w' := by
        intro W hPW
        have := do_any W aT cT Tk o (by unfold maxLen; omega) hPW
        rw [hz, hdT, hdS] at this
        exact this
      have HDD : Hid (∀ W, SlP W aT Tk → Calls Tryz.prog 88 #[.agg #[.slice aT Tk.length cT], opV o] W fun e w' => ∃ v, e = .returned (.tuple #[.agg #[v], stV (dS Tk o), .int .i64 0]) ∧ OwnS w' W.heap.size v (dT Tk o) ∧ Below W.heap.size W w') := HD
      clear HD hz hdT hdS
      generalize dS Tk o = s at *
      generalize dT Tk o = Tn at *
      obtain ⟨o1, o2, ⟨o3, o4, o5⟩, o6, o7⟩ := o
      obtain ⟨⟨q1, q2, ⟨q3, q4, q5⟩, q6, q7⟩, d, ⟨p1, p2, p3⟩⟩ := s
      simp only at g0 g1 g2 g3 g4 g5 g6
      obtain ⟨W2, hW2, hN, hBn, _⟩ := laid1 wr [Value.int IntKind.i64 o1, Value.int IntKind.i64 o2, Value.int IntKind.i64 o3, Value.int IntKind.i64 o4, Value.int IntKind.i64 o5, Value.int IntKind.i64 o6, Value.int IntKind.i64 o7] 35
      have hP2 := hP.below hBn
      have hH2 := hH.keep hBn
      have hR2 := hR.keep hBn
      have hL2 := hL.keep hBn
      have HB2 : Hid (Below w.heap.size w W2) := hb.trans (hBn.mono hb.size)
      have hwr : w.heap.size + 1 < wr.heap.size := hH.lt
      have hn0 := hN.at 0 rfl
      have hn1 := hN.at 1 rfl
      have hn2 := hN.at 2 rfl
      have hn3 := hN.at 3 rfl
      have hn4 := hN.at 4 rfl
      have hn5 := hN.at 5 rfl
      have hn6 := hN.at 6 rfl
      have hh1 := hH2.at 1 rfl
      have HLT : Hid (∀ g, (Value.slice aL Sk.length cL).ownBlock = some g → w.heap.size + 2 ≤ g ∧ g < wr.heap.size) := fun g hg => hL.row.lt g hg
      clear hP hH hR hL hT hb hBn
      go_wp2_with fail
      refine (HDD.out W2 hP2).mono ?_
      rintro e w3 ⟨v3, rfl, hO3, hb3⟩
      obtain ⟨a3, c3, rfl⟩ := hO3.val
      have hH3 := hH2.keep hb3
      have hR3 := hR2.keep hb3
      have hL3 := hL2.keep hb3
      have HB3 : Hid (Below w.heap.size w w3) := HB2.out.trans (hb3.mono HB2.out.size)
      have hO3' := hO3.mono (base' := wr.heap.size) (by omega)
      have hw3 : wr.heap.size + 1 ≤ w3.heap.size := by have := hb3.size; omega
      clear hP2 hH2 hR2 hL2 HB2 hb3 hO3 hN hn0 hn1 hn2 hn3 hn4 hn5 hn6 hh1 hW2 g0 g1 g2 g3 g4 g5 g6
      obtain ⟨W4, hW4, hTb, hSb, hBn, hS4⟩ := laid2 w3 [Value.slice a3 Tn.length c3] 25 [Value.int IntKind.i64 q1, Value.int IntKind.i64 q2, Value.int IntKind.i64 q3, Value.int IntKind.i64 q4, Value.int IntKind.i64 q5, Value.int IntKind.i64 q6, Value.int IntKind.i64 q7, Value.bool d, Value.int IntKind.i64 p1, Value.int IntKind.i64 p2, Value.int IntKind.i64 p3] 95
      have hH4 := hH3.keep hBn
      have hR4 := hR3.keep hBn
      have hL4 := hL3.keep hBn
      have hO4 := hO3'.below hBn
      have HB4 : Hid (Below w.heap.size w W4) := HB3.out.trans (hBn.mono HB3.out.size)
      clear hH3 hR3 hL3 hO3' HB3 hBn
      have HS4 : Hid (W4.heap.size = w3.heap.size + 2) := hS4
      clear hS4
      go_upto_region 8 with fail
      clear hW4
      have h0 := hH4.at 0 rfl
      refine wp_region_held_drew (S := fun w' => Blk w' w3.heap.size [Value.slice a3 Tn.length c3] ∧ Blk w' (w3.heap.size + 1) [Value.int IntKind.i64 q1, Value.int IntKind.i64 q2, Value.int IntKind.i64 q3, Value.int IntKind.i64 q4, Value.int IntKind.i64 q5, Value.int IntKind.i64 q6, Value.int IntKind.i64 q7, Value.bool d, Value.int IntKind.i64 p1, Value.int IntKind.i64 p2, Value.int IntKind.i64 p3]) (by kernel_rfl) ⟨hTb.drew, hSb.drew⟩ (fun hHeld => ?_)
      refine take_yes 0 28 (v := ?_) rfl rfl (by kernel_rfl) (by kernel_rfl) (by kernel_rfl) (fun _ _ _ h => h) (by rfl) ?_ hHeld ?_
      rotate_left 1
      · (intro w hSw; go_simp; try with_reducible rfl)
      simp only [Act.put, List.setIfInBounds_toArray, List.set_cons_succ, List.set_cons_zero]
      refine take_load 2 30 95 (w3.heap.size + 1) [Value.int IntKind.i64 q1, Value.int IntKind.i64 q2, Value.int IntKind.i64 q3, Value.int IntKind.i64 q4, Value.int IntKind.i64 q5, Value.int IntKind.i64 q6, Value.int IntKind.i64 q7, Value.bool d, Value.int IntKind.i64 p1, Value.int IntKind.i64 p2, Value.int IntKind.i64 p3] rfl rfl (by kernel_rfl) (by kernel_rfl) (by kernel_rfl) (fun _ _ _ h => h) (by rfl) (by rfl) (by rfl) (fun w hw => hw.2.range) Tryz.underlying95 rfl sizeStep hHeld ?_
      simp only [Act.put, List.setIfInBounds_toArray, List.set_cons_succ, List.set_cons_zero]
      refine take_load 5 33 25 w3.heap.size [Value.slice a3 Tn.length c3] rfl rfl (by kernel_rfl) (by kernel_rfl) (by kernel_rfl) (fun _ _ _ h => h) (by rfl) (by rfl) (by rfl) (fun w hw => hw.1.range) Tryz.underlying25 rfl sizeTree hHeld ?_
      simp only [Act.put, List.setIfInBounds_toArray, List.set_cons_succ, List.set_cons_zero]
      refine wpAnyH_ready (rs := [1, 3]) (by kernel_rfl) (by simp) ?_
      refine AllReadyH.cons rfl (fun K hK => ?_) (AllReadyH.cons rfl (fun K hK => ?_) AllReadyH.nil)
      · go_simp
        refine hK.out _ _ hHeld (fun hHeld => ?_)
        clear hK K
        refine wpAnyH_ready (rs := [3]) (by kernel_rfl) (by simp) (AllReadyH.cons rfl (fun K hK => ?_) AllReadyH.nil)
        go_simp
        refine hK.out _ _ ⟨hHeld.1.alloc _, hHeld.2.alloc _⟩ (fun hHeld => ?_)
        clear hK K
        have hown5 : (W4.alloc (.cells [Value.int IntKind.i64 q1, Value.int IntKind.i64 q2, Value.int IntKind.i64 q3, Value.int IntKind.i64 q4, Value.int IntKind.i64 q5, Value.int IntKind.i64 q6, Value.int IntKind.i64 q7, Value.bool d, Value.int IntKind.i64 p1, Value.int IntKind.i64 p2, Value.int IntKind.i64 p3].toArray 95)).drew.ownsRow (w.heap.size + 2) 95 11 (.slice aL Sk.length cL) Sk.length (Sk.flatMap stC) := (hL4.alloc _).drew.row
        have hN5 := (Blk.new W4 [Value.int IntKind.i64 q1, Value.int IntKind.i64 q2, Value.int IntKind.i64 q3, Value.int IntKind.i64 q4, Value.int IntKind.i64 q5, Value.int IntKind.i64 q6, Value.int IntKind.i64 q7, Value.bool d, Value.int IntKind.i64 p1, Value.int IntKind.i64 p2, Value.int IntKind.i64 p3] 95).drew
        have hsz5 := HB4.out.size
        refine step_append (s := Operand.tmp 29) (x := Operand.tmp 31) 4 32 22 ?x0 rfl ?x2 ?x3 ?x4 (w.heap.size + 2) 95 i0 _ 11 88 Tryz.underlying22 hi hz0 hz1 hz2 ?x5 ?x6 (.slice aL Sk.length cL) Sk.length (Sk.flatMap stC) ?x7 hown5 ⟨W4.heap.size, 0, none⟩ 1 1 [Value.int IntKind.i64 q1, Value.int IntKind.i64 q2, Value.int IntKind.i64 q3, Value.int IntKind.i64 q4, Value.int IntKind.i64 q5, Value.int IntKind.i64 q6, Value.int IntKind.i64 q7, Value.bool d, Value.int IntKind.i64 p1, Value.int IntKind.i64 p2, Value.int IntKind.i64 p3] ?x8 ?x9 ?xa ?xb ?xc ?xd ?xe ?_
        case x0 => kernel_rfl
        case x2 => rfl
        case x3 => rfl
        case x4 => rfl
        case x5 => rfl
        case x6 => decide
        case x7 => rfl
        case x8 => rfl
        case x9 => rfl
        case xa => intro j u hj; rw [Addr.add_mid, Nat.zero_add]; exact hN5.at j hj
        case xb => exact stC_one ((q1, q2, (q3, q4, q5), q6, q7), d, (p1, p2, p3))
        case xc => unfold maxLen; omega
        case xd => omega
        case xe => show _ ≤ (W4.alloc _).heap.size; rw [World.size_alloc]; have := hH4.lt; omega
        intro v5 w5 hown' hgrow
        have hgb : ∀ g, (Value.slice aL Sk.length cL).ownBlock = some g → w.heap.size + 2 ≤ g ∧ g < wr.heap.size := HLT.out
        obtain ⟨Sn, hSn⟩ : ∃ Sn, Sn = Sk ++ [((q1, q2, (q3, q4, q5), q6, q7), d, (p1, p2, p3))] := ⟨_, rfl⟩
        have hL5 : OwnE stC 11 95 w5 (w.heap.size + 2) v5 Sn := by
          show World.ownsRow _ _ _ _ _ _ _
          rw [hSn]
          simpa [stC] using hown'
        have HSN : Hid (Sn = Sk ++ [((q1, q2, (q3, q4, q5), q6, q7), d, (p1, p2, p3))]) := hSn
        clear hSn
        obtain ⟨a5, c5, rfl, _, _⟩ := hL5.val
        have hne : ∀ g, g < w.heap.size + 2 ∨ wr.heap.size ≤ g → some g ≠ (Value.slice aL Sk.length cL).ownBlock := by
          intro g hg e
          have := hgb g e.symm
          omega
        have hH5 := (hH4.alloc (.cells [Value.int IntKind.i64 q1, Value.int IntKind.i64 q2, Value.int IntKind.i64 q3, Value.int IntKind.i64 q4, Value.int IntKind.i64 q5, Value.int IntKind.i64 q6, Value.int IntKind.i64 q7, Value.bool d, Value.int IntKind.i64 p1, Value.int IntKind.i64 p2, Value.int IntKind.i64 p3].toArray 95)).drew.grown hgrow (hne _ (Or.inl (by omega)))
        have hR5 := (hR4.alloc (.cells [Value.int IntKind.i64 q1, Value.int IntKind.i64 q2, Value.int IntKind.i64 q3, Value.int IntKind.i64 q4, Value.int IntKind.i64 q5, Value.int IntKind.i64 q6, Value.int IntKind.i64 q7, Value.bool d, Value.int IntKind.i64 p1, Value.int IntKind.i64 p2, Value.int IntKind.i64 p3].toArray 95)).drew.grown hgrow (hne _ (Or.inl (by omega)))
        have hO5 := (hO4.alloc (.cells [Value.int IntKind.i64 q1, Value.int IntKind.i64 q2, Value.int IntKind.i64 q3, Value.int IntKind.i64 q4, Value.int IntKind.i64 q5, Value.int IntKind.i64 q6, Value.int IntKind.i64 q7, Value.bool d, Value.int IntKind.i64 p1, Value.int IntKind.i64 p2, Value.int IntKind.i64 p3].toArray 95)).drew.grown hgrow (fun g hg => (hgb g hg).2)
        have hB5 : Below w.heap.size w w5 := ((HB4.out.alloc HB4.out.size (.cells [Value.int IntKind.i64 q1, Value.int IntKind.i64 q2, Value.int IntKind.i64 q3, Value.int IntKind.i64 q4, Value.int IntKind.i64 q5, Value.int IntKind.i64 q6, Value.int IntKind.i64 q7, Value.bool d, Value.int IntKind.i64 p1, Value.int IntKind.i64 p2, Value.int IntKind.i64 p3].toArray 95)).drew).grown hgrow (by show _ ≤ (W4.alloc _).heap.size; rw [World.size_alloc]; have := hH4.lt; omega) (fun g hg => by have := hgb g hg; omega)
        refine ⟨⟨hHeld.1.grown hgrow (hne _ (Or.inr (by omega))), hHeld.2.grown hgrow (hne _ (Or.inr (by omega)))⟩, ?_⟩
        replace hHeld : Blk w5 w3.heap.size [Value.slice a3 Tn.length c3] ∧ Blk w5 (w3.heap.size + 1) [Value.int IntKind.i64 q1, Value.int IntKind.i64 q2, Value.int IntKind.i64 q3, Value.int IntKind.i64 q4, Value.int IntKind.i64 q5, Value.int IntKind.i64 q6, Value.int IntKind.i64 q7, Value.bool d, Value.int IntKind.i64 p1, Value.int IntKind.i64 p2, Value.int IntKind.i64 p3] := ⟨hHeld.1.grown hgrow (hne _ (Or.inr (by omega))), hHeld.2.grown hgrow (hne _ (Or.inr (by omega)))⟩
        simp only [Act.put, List.setIfInBounds_toArray, List.set_cons_succ, List.set_cons_zero]
        refine take_yes 6 34 (v := ?_) rfl rfl (by kernel_rfl) (by kernel_rfl) (by kernel_rfl) (fun _ _ _ h => h) (by rfl) ?_ hHeld ?_
        rotate_left 1
        · (intro w hSw; go_simp; try with_reducible rfl)
        simp only [Act.put, List.setIfInBounds_toArray, List.set_cons_succ, List.set_cons_zero]
        refine step_store 7 27 (w.heap.size + 1) [Value.slice a5 Sn.length c5, Value.slice a3 Tn.length c3] (by kernel_rfl) rfl rfl (by rfl) (by rfl) (by rfl) ?xf hH5.there sizeHist ?xg ⟨hHeld.1.others (by omega) _ _, hHeld.2.others (by omega) _ _⟩ ?_
        case xf => rfl
        case xg => intro v hv; simp at hv; rcases hv with rfl | rfl <;> rfl
        refine wpAnyH_done (by kernel_rfl) ?_ _
        have HL5 : Hid (OwnE stC 11 95 w5 (w.heap.size + 2) (Value.slice a5 Sn.length c5) Sn) := hL5
        clear hL5 hown' hown5 hgrow hHeld hN5
        go_wp2
        go_roundw
        case rel =>
          refine ⟨k + 1, _, _, hlt, by go_num, hR5.others (by omega) _ _, hH5.sets _ rfl, ?_, ?_, below_sets hB5 (w.heap.size + 1) (by omega) _ _⟩
          · rw [HRS.out, ← HSN.out]; exact OwnE.others (w.heap.size + 1) (by omega) _ _ _ HL5.out
          · rw [HRT.out]; exact OwnS.others (w.heap.size + 1) (by omega) _ _ _ (hO5.mono (by omega))
        case measure => simp [intOf]; omega
      · go_simp
        refine hK.out _ _ ⟨hHeld.1.alloc _, hHeld.2.alloc _⟩ (fun hHeld => ?_)
        clear hK K
        have h0 := (hH4.alloc (.cells [Value.int IntKind.i64 q1, Value.int IntKind.i64 q2, Value.int IntKind.i64 q3, Value.int IntKind.i64 q4, Value.int IntKind.i64 q5, Value.int IntKind.i64 q6, Value.int IntKind.i64 q7, Value.bool d, Value.int IntKind.i64 p1, Value.int IntKind.i64 p2, Value.int IntKind.i64 p3].toArray 95)).at 0 rfl
        refine wpAnyH_ready (rs := [1]) (by kernel_rfl) (by simp) (AllReadyH.cons rfl (fun K hK => ?_) AllReadyH.nil)
        go_simp
        refine hK.out _ _ hHeld (fun hHeld => ?_)
        clear hK K
        have hown5 : (W4.alloc (.cells [Value.int IntKind.i64 q1, Value.int IntKind.i64 q2, Value.int IntKind.i64 q3, Value.int IntKind.i64 q4, Value.int IntKind.i64 q5, Value.int IntKind.i64 q6, Value.int IntKind.i64 q7, Value.bool d, Value.int IntKind.i64 p1, Value.int IntKind.i64 p2, Value.int IntKind.i64 p3].toArray 95)).drew.ownsRow (w.heap.size + 2) 95 11 (.slice aL Sk.length cL) Sk.length (Sk.flatMap stC) := (hL4.alloc _).drew.row
        have hN5 := (Blk.new W4 [Value.int IntKind.i64 q1, Value.int IntKind.i64 q2, Value.int IntKind.i64 q3, Value.int IntKind.i64 q4, Value.int IntKind.i64 q5, Value.int IntKind.i64 q6, Value.int IntKind.i64 q7, Value.bool d, Value.int IntKind.i64 p1, Value.int IntKind.i64 p2, Value.int IntKind.i64 p3] 95).drew
        have hsz5 := HB4.out.size
        refine step_append (s := Operand.tmp 29) (x := Operand.tmp 31) 4 32 22 ?y0 rfl ?y2 ?y3 ?y4 (w.heap.size + 2) 95 i0 _ 11 88 Tryz.underlying22 hi hz0 hz1 hz2 ?y5 ?y6 (.slice aL Sk.length cL) Sk.length (Sk.flatMap stC) ?y7 hown5 ⟨W4.heap.size, 0, none⟩ 1 1 [Value.int IntKind.i64 q1, Value.int IntKind.i64 q2, Value.int IntKind.i64 q3, Value.int IntKind.i64 q4, Value.int IntKind.i64 q5, Value.int IntKind.i64 q6, Value.int IntKind.i64 q7, Value.bool d, Value.int IntKind.i64 p1, Value.int IntKind.i64 p2, Value.int IntKind.i64 p3] ?y8 ?y9 ?ya ?yb ?yc ?yd ?ye ?_
        case y0 => kernel_rfl
        case y2 => rfl
        case y3 => rfl
        case y4 => rfl
        case y5 => rfl
        case y6 => decide
        case y7 => rfl
        case y8 => rfl
        case y9 => rfl
        case ya => intro j u hj; rw [Addr.add_mid, Nat.zero_add]; exact hN5.at j hj
        case yb => exact stC_one ((q1, q2, (q3, q4, q5), q6, q7), d, (p1, p2, p3))
        case yc => unfold maxLen; omega
        case yd => omega
        case ye => show _ ≤ (W4.alloc _).heap.size; rw [World.size_alloc]; have := hH4.lt; omega
        intro v5 w5 hown' hgrow
        have hgb : ∀ g, (Value.slice aL Sk.length cL).ownBlock = some g → w.heap.size + 2 ≤ g ∧ g < wr.heap.size := HLT.out
        obtain ⟨Sn, hSn⟩ : ∃ Sn, Sn = Sk ++ [((q1, q2, (q3, q4, q5), q6, q7), d, (p1, p2, p3))] := ⟨_, rfl⟩
        have hL5 : OwnE stC 11 95 w5 (w.heap.size + 2) v5 Sn := by
          show World.ownsRow _ _ _ _ _ _ _
          rw [hSn]
          simpa [stC] using hown'
        have HSN : Hid (Sn = Sk ++ [((q1, q2, (q3, q4, q5), q6, q7), d, (p1, p2, p3))]) := hSn
        clear hSn
        obtain ⟨a5, c5, rfl, _, _⟩ := hL5.val
        have hne : ∀ g, g < w.heap.size + 2 ∨ wr.heap.size ≤ g → some g ≠ (Value.slice aL Sk.length cL).ownBlock := by
          intro g hg e
          have := hgb g e.symm
          omega
        have hH5 := (hH4.alloc (.cells [Value.int IntKind.i64 q1, Value.int IntKind.i64 q2, Value.int IntKind.i64 q3, Value.int IntKind.i64 q4, Value.int IntKind.i64 q5, Value.int IntKind.i64 q6, Value.int IntKind.i64 q7, Value.bool d, Value.int IntKind.i64 p1, Value.int IntKind.i64 p2, Value.int IntKind.i64 p3].toArray 95)).drew.grown hgrow (hne _ (Or.inl (by omega)))
        have hR5 := (hR4.alloc (.cells [Value.int IntKind.i64 q1, Value.int IntKind.i64 q2, Value.int IntKind.i64 q3, Value.int IntKind.i64 q4, Value.int IntKind.i64 q5, Value.int IntKind.i64 q6, Value.int IntKind.i64 q7, Value.bool d, Value.int IntKind.i64 p1, Value.int IntKind.i64 p2, Value.int IntKind.i64 p3].toArray 95)).drew.grown hgrow (hne _ (Or.inl (by omega)))
        have hO5 := (hO4.alloc (.cells [Value.int IntKind.i64 q1, Value.int IntKind.i64 q2, Value.int IntKind.i64 q3, Value.int IntKind.i64 q4, Value.int IntKind.i64 q5, Value.int IntKind.i64 q6, Value.int IntKind.i64 q7, Value.bool d, Value.int IntKind.i64 p1, Value.int IntKind.i64 p2, Value.int IntKind.i64 p3].toArray 95)).drew.grown hgrow (fun g hg => (hgb g hg).2)
        have hB5 : Below w.heap.size w w5 := ((HB4.out.alloc HB4.out.size (.cells [Value.int IntKind.i64 q1, Value.int IntKind.i64 q2, Value.int IntKind.i64 q3, Value.int IntKind.i64 q4, Value.int IntKind.i64 q5, Value.int IntKind.i64 q6, Value.int IntKind.i64 q7, Value.bool d, Value.int IntKind.i64 p1, Value.int IntKind.i64 p2, Value.int IntKind.i64 p3].toArray 95)).drew).grown hgrow (by show _ ≤ (W4.alloc _).heap.size; rw [World.size_alloc]; have := hH4.lt; omega) (fun g hg => by have := hgb g hg; omega)
        refine ⟨⟨hHeld.1.grown hgrow (hne _ (Or.inr (by omega))), hHeld.2.grown hgrow (hne _ (Or.inr (by omega)))⟩, ?_⟩
        replace hHeld : Blk w5 w3.heap.size [Value.slice a3 Tn.length c3] ∧ Blk w5 (w3.heap.size + 1) [Value.int IntKind.i64 q1, Value.int IntKind.i64 q2, Value.int IntKind.i64 q3, Value.int IntKind.i64 q4, Value.int IntKind.i64 q5, Value.int IntKind.i64 q6, Value.int IntKind.i64 q7, Value.bool d, Value.int IntKind.i64 p1, Value.int IntKind.i64 p2, Value.int IntKind.i64 p3] := ⟨hHeld.1.grown hgrow (hne _ (Or.inr (by omega))), hHeld.2.grown hgrow (hne _ (Or.inr (by omega)))⟩
        simp only [Act.put, List.setIfInBounds_toArray, List.set_cons_succ, List.set_cons_zero]
        refine take_yes 6 34 (v := ?_) rfl rfl (by kernel_rfl) (by kernel_rfl) (by kernel_rfl) (fun _ _ _ h => h) (by rfl) ?_ hHeld ?_
        rotate_left 1
        · (intro w hSw; go_simp; try with_reducible rfl)
        simp only [Act.put, List.setIfInBounds_toArray, List.set_cons_succ, List.set_cons_zero]
        refine step_store 7 27 (w.heap.size + 1) [Value.slice a5 Sn.length c5, Value.slice a3 Tn.length c3] (by kernel_rfl) rfl rfl (by rfl) (by rfl) (by rfl) ?yf hH5.there sizeHist ?yg ⟨hHeld.1.others (by omega) _ _, hHeld.2.others (by omega) _ _⟩ ?_
        case yf => rfl
        case yg => intro v hv; simp at hv; rcases hv with rfl | rfl <;> rfl
        refine wpAnyH_done (by kernel_rfl) ?_ _
        have HL5 : Hid (OwnE stC 11 95 w5 (w.heap.size + 2) (Value.slice a5 Sn.length c5) Sn) := hL5
        clear hL5 hown' hown5 hgrow hHeld hN5
        go_wp2
        go_roundw
        case rel =>
          refine ⟨k + 1, _, _, hlt, by go_num, hR5.others (by omega) _ _, hH5.sets _ rfl, ?_, ?_, below_sets hB5 (w.heap.size + 1) (by omega) _ _⟩
          · rw [HRS.out, ← HSN.out]; exact OwnE.others (w.heap.size + 1) (by omega) _ _ _ HL5.out
          · rw [HRT.out]; exact OwnS.others (w.heap.size + 1) (by omega) _ _ _ (hO5.mono (by omega))
        case measure => simp [intOf]; omega
    · have hk' : k = l.length := by omega
      subst hk'
      rw [List.take_of_length_le (Nat.le_refl _)] at hL hT
      obtain ⟨aT, cT, rfl⟩ := hT.val
      obtain ⟨aL, cL, rfl, _, _⟩ := hL.val
      have h0 := hH.at 0 rfl
      have h1 := hH.at 1 rfl
      have r0 := hR.at 0 rfl
      have r1 := hR.at 1 rfl
      have rf := hR.frz
      go_wp2
      have hRf := hR.sets [Value.slice aL (Orangery.runS [] l).length cL, Value.slice aT (Orangery.runT [] l).length cT] rfl
      refine ret_cell_tmp Tryz.results57 rfl rfl (hRf.load Tryz.underlying27 rfl sizeHist) ?_
      have e1 := (OwnE.others w.heap.size (by omega) [Value.slice aL (Orangery.runS [] l).length cL, Value.slice aT (Orangery.runT [] l).length cT] 0 wr hL).mono (base' := w.heap.size) (by omega)
      have e2 := (OwnS.others w.heap.size (by omega) [Value.slice aL (Orangery.runS [] l).length cL, Value.slice aT (Orangery.runT [] l).length cT] 0 wr hT).mono (base' := w.heap.size) (by omega)
      exact ⟨_, _, rfl, e1, e2, below_sets hb w.heap.size (Nat.le_refl _) [Value.slice aL (Orangery.runS [] l).length cL, Value.slice aT (Orangery.runT [] l).length cT] 0⟩
end Go.Proofs.YthlhnokgcnieeadGreat

/- slices.SortFunc on a row of the call's own, whatever its elements: a permutation, in order. -/
namespace Go.Proofs.YthlhnokgcnieeadGreat
open Go.ChangeShapes Go.WideShapes Go.ChangeAt Go.RowKit

theorem grown_sortE {α : Type} [Inhabited α] {enc : α → List Value} {k : Nat} {w : World} (g off n : Nat) (d : Array α) (os : Array Obj) : w.grownBy (Go.Proofs.sortWorldK enc k w g off n d os) (some g) := by
  refine ⟨rfl, rfl, rfl, Go.Proofs.size_sortWorldK_c enc k w g off n d os, fun j hj hne => ?_⟩
  show ((w.heap.modify g _) ++ os)[j]? = _
  rw [Array.getElem?_append_left (by simp; omega), Array.getElem?_modify]
  have : ¬ g = j := fun e => hne (by rw [e])
  simp [this]

theorem own_sortedE {α : Type} [Inhabited α] {enc : α → List Value} {k : Nat} (hk : ∀ x, (enc x).length = k) (hpos : 0 < k) {w : World} {base g cap : Nat} {e : TypeId} {l : List α} (h : w.ownsRow base e k (.slice (some ⟨g, 0, none⟩) l.length cap) l.length (l.flatMap enc))
    (d : Array α) (hd : d.size = l.length) (n : Nat) (os : Array Obj) :
    (Go.Proofs.sortWorldK enc k w g 0 n d os).ownsRow base e k (.slice (some ⟨g, 0, none⟩) l.length cap) d.toList.length (d.toList.flatMap enc) := by
  have hdl : d.toList.length = l.length := by simpa using hd
  refine ⟨flatE_len hk _, ?_⟩
  rcases h.2 with ⟨h', _⟩ | ⟨g', cap', cur, h', hb, hg, hn, hm, hs, ht⟩
  · simp at h'
  · obtain ⟨rfl, rfl⟩ : g = g' ∧ cap = cap' := by simpa using h'
    refine Or.inr ⟨g, cap, Go.Sort.putCells id 0 (Go.Sort.flatK enc k d) cur, by rw [hdl], hb, ?_, by omega, hm, by simp [Go.Sort.putCells, hs], ?_⟩
    · show ((Go.Sort.putRow id w g 0 (Go.Sort.flatK enc k d)).heap ++ os)[g]? = _
      have hr : g < w.heap.size := blk_lt hg
      rw [Array.getElem?_append_left (by show g < (w.heap.modify g _).size; simp; exact hr)]
      show (w.heap.modify g _)[g]? = _
      rw [Array.getElem?_modify, hg, if_pos rfl]
      rfl
    · apply List.ext_getElem?
      intro j
      by_cases hj : j < d.toList.length * k
      · have hj2 : j < d.size * k := by simpa using hj
        have hi : j / k < d.size := (Nat.div_lt_iff_lt_mul hpos).2 hj2
        have hc : j % k < k := Nat.mod_lt _ hpos
        have e1 : j / k * k + j % k = j := by rw [Nat.mul_comm]; exact Nat.div_add_mod j k
        have hcur : j < cur.size := by
          rw [hs]
          have : d.toList.length * k ≤ cap * k := Nat.mul_le_mul_right k (by omega)
          omega
        have e2 := flatE_get hk d.toList (j / k) (by simpa using hi) (j % k) hc
        rw [e1] at e2
        rw [List.getElem?_take_of_lt hj, e2]
        have e3 := Go.Sort.get_flatK enc k d j hj2
        have e4 : (Go.Sort.flatK enc k d)[j - 0]! = (enc d[j / k]!)[j % k]! := by rw [Nat.sub_zero]; exact e3
        simp only [Go.Sort.putCells, Array.getElem?_toList, Array.getElem?_mapIdx]
        rw [Array.getElem?_eq_getElem hcur]
        simp only [Option.map_some]
        rw [if_pos ⟨by omega, by rw [Go.Sort.size_flatK]; omega⟩, e4]
        have e5 : d[j / k]! = d.toList[j / k] := by simp [hi]
        rw [e5, List.getElem?_eq_getElem (by rw [hk]; exact hc)]
        simp [hk, hc]
      · have hj3 : d.toList.length * k ≤ j := Nat.le_of_not_lt hj
        rw [List.getElem?_eq_none (by rw [List.length_take]; exact Nat.le_trans (Nat.min_le_left _ _) hj3), List.getElem?_eq_none (by rw [flatE_len hk]; exact hj3)]

theorem perm_sortedE {α : Type} [Inhabited α] {f : α → α → Int} {l : List α} {d' : Array α} (hp : Go.Sort.PermIn 0 l.toArray.size l.toArray d') (hs : Go.Sort.SortedIn (Go.Proofs.ltOf f) 0 l.toArray.size d') :
    d'.size = l.length ∧ d'.toList.Perm l ∧ d'.toList.Pairwise fun p q => ¬ f q p < 0 := by
  obtain ⟨h1, _, h3⟩ := hp
  have e1 : d'.extract 0 l.toArray.size = d' := by rw [← h1]; exact Array.extract_size
  rw [e1, Array.extract_size] at h3
  refine ⟨by simpa using h1, by simpa using h3, ?_⟩
  rw [List.pairwise_iff_getElem]
  intro i j hi hj hij
  have hi' : i < d'.size := by simpa using hi
  have hj' : j < d'.size := by simpa using hj
  have := hs i j (Nat.zero_le _) hij (by omega)
  rw [getElem!_pos d' j hj', getElem!_pos d' i hi'] at this
  simpa [Go.Proofs.ltOf] using this

set_option maxHeartbeats 1000000 in
theorem sortE {α : Type} [Inhabited α] {enc : α → List Value} {k : Nat} {ρ : Go.Shelf.Ren} (L : Go.Proofs.SlLaysF0.n6 Tryz.prog ρ) (aE : ∀ w, (isAgg (ρ.t 24)).run Tryz.prog w = .ok true w) (zE : ∀ w, (Go.sizeOf (ρ.t 24)).run Tryz.prog w = .ok k w)
    (hk : ∀ x, (enc x).length = k) (hpos : 0 < k) (h1 : ∀ x, ∀ v ∈ enc x, v.oneCell' = true) (f : α → α → Int) (hf : Go.Sort.SWO (Go.Proofs.ltOf f)) (gf : Nat)
    (eg : ∀ args w, (callFunc gf args).run Tryz.prog w = .ok (.enter gf args) w)
    (hc : ∀ w x y, Calls Tryz.prog gf #[.agg (enc x).toArray, .agg (enc y).toArray] w fun e w' => e = .returned (.int .i64 (f x y)) ∧ ∃ n os, w' = Go.Sort.grow (w.drewN n) os)
    (w : World) (base : Nat) (e : TypeId) (v : Value) (l : List α) (hl : l.length ≤ 1000) (hbase : base ≤ w.heap.size) (h : w.ownsRow base e k v l.length (l.flatMap enc)) :
    Calls Tryz.prog (ρ.f 6) #[v, .func (.func gf) #[] #[]] w
      fun e' w' => e' = .returned (.tuple #[]) ∧ ∃ l' : List α, l'.Perm l ∧ (l'.Pairwise fun p q => ¬ f q p < 0) ∧ w'.ownsRow base e k v l'.length (l'.flatMap enc) ∧ Below base w w' ∧ w.grownBy w' v.ownBlock := by
  rcases h.2 with ⟨rfl, hn⟩ | ⟨g, cap, cur, rfl, hgb, hg, hn, hm, hs, ht⟩
  · have hl0 : l = [] := List.length_eq_zero_iff.1 hn
    subst hl0
    refine (Go.Proofs.AnyF.slices_SortFunc_none L none 0 (.func (.func gf) #[] #[]) w).mono ?_
    rintro e' w' ⟨rfl, rfl⟩
    exact ⟨rfl, [], List.Perm.refl _, List.Pairwise.nil, h, Below.refl _ _, ⟨rfl, rfl, rfl, Nat.le_refl _, fun _ _ _ => rfl⟩⟩
  · have hK := own_holdsK hk hpos h
    have hgl : g < w.heap.size := blk_lt hg
    have hn := Go.Proofs.AnyQ.slices_SortFunc L k aE zE enc hk h1 f hf gf #[] g 0 cap l.toArray w eg (fun _ _ _ _ x y => hc _ x y) hK hgl (by simp; omega)
    have hsz : l.toArray.size = l.length := by simp
    rw [hsz] at hn
    refine hn.mono ?_
    rintro e' w' ⟨rfl, d', n, os, hp, hs', rfl⟩
    rw [← hsz] at hp hs'
    obtain ⟨e1, e2, e3⟩ := perm_sortedE hp hs'
    have hgr := grown_sortE (enc := enc) (k := k) (w := w) g 0 n d' os
    refine ⟨rfl, d'.toList, e2, e3, own_sortedE hk hpos h d' e1 n os, (Below.refl base w).grown hgr hbase (fun j hj => by simp at hj; omega), hgr⟩
end Go.Proofs.YthlhnokgcnieeadGreat

/- slices.SortFunc at operations is the library's, by its own laws. -/
namespace Go.Proofs
open Go.Shelf
def Tryz.sortOp_ren : Go.Shelf.Ren := ⟨fun | 6 => 55 | 15 => 85 | 14 => 84 | 28 => 112 | 29 => 113 | 20 => 104 | 21 => 105 | 22 => 106 | 23 => 107 | 24 => 108 | 25 => 109 | 26 => 110 | 27 => 111 | 46 => 121 | 47 => 122 | 48 => 123 | 49 => 124 | 50 => 125 | 57 => 129 | n => n, fun | 22 => 58 | 24 => 35 | 25 => 92 | 3 => 3 | 39 => 119 | 0 => 0 | 53 => 143 | 55 => 145 | 4 => 4 | 46 => 136 | 45 => 135 | 50 => 140 | 5 => 5 | 9 => 9 | 66 => 153 | 70 => 157 | 76 => 162 | 77 => 163 | n => n, fun | n => n⟩
theorem Tryz.sortOp : Go.Proofs.SlLaysF0.n6 Tryz.prog Tryz.sortOp_ren := {
  mixed := by kernel_rfl
  f6 := ⟨Tryz.f55.name, by decide, Tryz.func55.trans (congrArg some (by kernel_rfl))⟩
  f14 := ⟨Tryz.f84.name, by decide, Tryz.func84.trans (congrArg some (by kernel_rfl))⟩
  f15 := Tryz.func85.trans (congrArg some (by kernel_rfl))
  f20 := ⟨Tryz.f104.name, by decide, Tryz.func104.trans (congrArg some (by kernel_rfl))⟩
  f21 := ⟨Tryz.f105.name, by decide, Tryz.func105.trans (congrArg some (by kernel_rfl))⟩
  f22 := ⟨Tryz.f106.name, by decide, Tryz.func106.trans (congrArg some (by kernel_rfl))⟩
  f23 := ⟨Tryz.f107.name, by decide, Tryz.func107.trans (congrArg some (by kernel_rfl))⟩
  f24 := ⟨Tryz.f108.name, by decide, Tryz.func108.trans (congrArg some (by kernel_rfl))⟩
  f25 := ⟨Tryz.f109.name, by decide, Tryz.func109.trans (congrArg some (by kernel_rfl))⟩
  f26 := ⟨Tryz.f110.name, by decide, Tryz.func110.trans (congrArg some (by kernel_rfl))⟩
  f27 := ⟨Tryz.f111.name, by decide, Tryz.func111.trans (congrArg some (by kernel_rfl))⟩
  f28 := Tryz.func112.trans (congrArg some (by kernel_rfl))
  f29 := Tryz.func113.trans (congrArg some (by kernel_rfl))
  f46 := ⟨Tryz.f121.name, by decide, Tryz.func121.trans (congrArg some (by kernel_rfl))⟩
  f47 := Tryz.func122.trans (congrArg some (by kernel_rfl))
  f48 := Tryz.func123.trans (congrArg some (by kernel_rfl))
  f49 := ⟨Tryz.f124.name, by decide, Tryz.func124.trans (congrArg some (by kernel_rfl))⟩
  f50 := ⟨Tryz.f125.name, by decide, Tryz.func125.trans (congrArg some (by kernel_rfl))⟩
  f57 := ⟨Tryz.f129.name, by decide, Tryz.func129.trans (congrArg some (by kernel_rfl))⟩
  t0 := Tryz.underlying0
  a0 := Tryz.isAgg0
  z0 := Tryz.sizeOf0
  v0 := Tryz.zeroValue0
  t3 := Tryz.underlying3
  a3 := Tryz.isAgg3
  z3 := Tryz.sizeOf3
  v3 := Tryz.zeroValue3
  t4 := Tryz.underlying4
  a4 := Tryz.isAgg4
  z4 := Tryz.sizeOf4
  v4 := Tryz.zeroValue4
  t5 := Tryz.underlying5
  a5 := Tryz.isAgg5
  z5 := Tryz.sizeOf5
  v5 := Tryz.zeroValue5
  t9 := Tryz.underlying9
  a9 := Tryz.isAgg9
  z9 := Tryz.sizeOf9
  v9 := Tryz.zeroValue9
  t22 := Tryz.underlying58
  a22 := Tryz.isAgg58
  z22 := Tryz.sizeOf58
  v22 := Tryz.zeroValue58
  t25 := Tryz.underlying92
  a25 := Tryz.isAgg92
  z25 := Tryz.sizeOf92
  v25 := Tryz.zeroValue92
  t39 := Tryz.underlying119
  a39 := Tryz.isAgg119
  z39 := Tryz.sizeOf119
  v39 := Tryz.zeroValue119
  t45 := Tryz.underlying135
  a45 := Tryz.isAgg135
  z45 := Tryz.sizeOf135
  v45 := Tryz.zeroValue135
  t46 := Tryz.underlying136
  a46 := Tryz.isAgg136
  z46 := Tryz.sizeOf136
  v46 := Tryz.zeroValue136
  t50 := Tryz.underlying140
  a50 := Tryz.isAgg140
  z50 := Tryz.sizeOf140
  v50 := Tryz.zeroValue140
  t53 := Tryz.underlying143
  a53 := Tryz.isAgg143
  z53 := Tryz.sizeOf143
  v53 := Tryz.zeroValue143
  t55 := Tryz.underlying145
  a55 := Tryz.isAgg145
  z55 := Tryz.sizeOf145
  v55 := Tryz.zeroValue145
  t66 := Tryz.underlying153
  a66 := Tryz.isAgg153
  z66 := Tryz.sizeOf153
  v66 := Tryz.zeroValue153
  t70 := Tryz.underlying157
  a70 := Tryz.isAgg157
  z70 := Tryz.sizeOf157
  v70 := Tryz.zeroValue157
  t76 := Tryz.underlying162
  a76 := Tryz.isAgg162
  z76 := Tryz.sizeOf162
  v76 := Tryz.zeroValue162
  t77 := Tryz.underlying163
  a77 := Tryz.isAgg163
  z77 := Tryz.sizeOf163
  v77 := Tryz.zeroValue163 }
end Go.Proofs

/- Plain facts on chapter 3, further: stamps that are there, and what sorting by stamps makes. -/
namespace Orangery

/-- an operation of these has this stamp -/
def hasM (l : List Mv) (t u : Int) : Bool := l.any fun o => decide (o.1 = t) && decide (o.2.1 = u)

theorem hasM_iff (l : List Mv) (t u : Int) : hasM l t u = true ↔ ∃ x ∈ l, x.1 = t ∧ x.2.1 = u := by
  unfold hasM
  rw [List.any_eq_true]
  simp

theorem hasM_rk {l : List Mv} (hl : ∀ x ∈ l, checkOp x = 0) {o : Mv} (ho : checkOp o = 0) : hasM l o.1 o.2.1 = true ↔ ∃ x ∈ l, rk x = rk o := by
  rw [hasM_iff]
  constructor
  · rintro ⟨x, hx, h⟩; exact ⟨x, hx, (rk_eq (hl x hx) ho).2 h⟩
  · rintro ⟨x, hx, h⟩; exact ⟨x, hx, (rk_eq (hl x hx) ho).1 h⟩

theorem noTwo_take {l : List Mv} (hl : ∀ x ∈ l, checkOp x = 0) (k : Nat) (hk : k < l.length) (hn : noTwo (l.take k)) :
    (hasM (l.take k) l[k].1 l[k].2.1 = false → noTwo (l.take (k + 1))) ∧ (hasM (l.take k) l[k].1 l[k].2.1 = true → ¬ noTwo l) := by
  have ho := hl l[k] (List.getElem_mem hk)
  have hlk : ∀ x ∈ l.take k, checkOp x = 0 := fun x hx => hl x (List.mem_of_mem_take hx)
  constructor
  · intro h
    rw [List.take_succ_eq_append_getElem hk]
    unfold noTwo
    rw [List.pairwise_append]
    refine ⟨hn, by simp, ?_⟩
    intro x hx y hy e
    simp at hy
    subst hy
    have := (hasM_rk hlk ho).2 ⟨x, hx, e⟩
    rw [h] at this
    simp at this
  · intro h hno
    obtain ⟨x, hx, e⟩ := (hasM_rk hlk ho).1 h
    have h2 : noTwo (l.take (k + 1)) := List.Pairwise.sublist (List.take_sublist _ _) hno
    rw [List.take_succ_eq_append_getElem hk] at h2
    unfold noTwo at h2
    rw [List.pairwise_append] at h2
    exact h2.2.2 x hx l[k] (by simp) e

/-- what sorting by stamps makes -/
theorem srt_of_stamps {l l' : List Mv} (hl : ∀ x ∈ l, checkOp x = 0) (hn : noTwo l) (hp : l'.Perm l) (hs : l'.Pairwise fun p q => ¬ (q.1 < p.1 ∨ (q.1 = p.1 ∧ q.2.1 < p.2.1))) : srt l = l' := by
  refine srt_unique l l' ?_ hp
  have hn' := noTwo_perm hp.symm hn
  have hl' : ∀ x ∈ l', checkOp x = 0 := fun x hx => hl x (hp.mem_iff.1 hx)
  have h2 := hs.and hn'
  refine h2.imp_of_mem ?_
  intro a b ha hb h
  have e1 := rk_lt (hl' b hb) (hl' a ha)
  obtain ⟨h3, h4⟩ := h
  rw [← e1] at h3
  omega

theorem fold_err {l : List Mv} (h : foldE l ≠ 0) : foldL l = [] ∧ foldT l = [] := by
  unfold foldL foldT
  rw [if_pos h, if_pos h]
  exact ⟨rfl, rfl⟩
theorem foldE_many {l : List Mv} (h : 30 < l.length) : foldE l = 2 := by unfold foldE; rw [if_pos h]
theorem foldE_first {l : List Mv} (h : l.length ≤ 30) (h2 : firstE l ≠ 0) : foldE l = firstE l := by unfold foldE; rw [if_neg (by omega), if_pos h2]
theorem foldE_twice {l : List Mv} (h : l.length ≤ 30) (h2 : firstE l = 0) (h3 : ¬ noTwo l) : foldE l = 6 := by
  unfold foldE
  rw [if_neg (by omega), if_neg (by simp [h2]), if_pos ((srt_len l).2.2 h3)]
theorem foldE_ok {l : List Mv} (h : l.length ≤ 30) (h2 : firstE l = 0) (h3 : noTwo l) : foldE l = 0 := (foldE_zero l).2 ⟨h, (firstE_zero l).1 h2, h3⟩
end Orangery

/- slices.SortFunc by history.byStamp. -/
namespace Go.Proofs.YthlhnokgcnieeadGreat
open Go.ChangeShapes Go.WideShapes Go.ChangeAt Go.RowKit
open Orangery (Pl Mv Stp cmpI orI)

theorem byS_lt (o p : Mv) : byS o p < 0 ↔ o.1 < p.1 ∨ (o.1 = p.1 ∧ o.2.1 < p.2.1) := by
  unfold byS orI cmpI
  by_cases h1 : o.1 < p.1
  · simp [h1]
  · by_cases h2 : p.1 < o.1
    · simp [h1, h2]; omega
    · by_cases h3 : o.2.1 < p.2.1
      · simp [h1, h2, h3]; omega
      · by_cases h4 : p.2.1 < o.2.1 <;> simp [h1, h2, h3, h4]
theorem swoStamp : Go.Sort.SWO (Go.Proofs.ltOf byS) := by
  refine ⟨fun x => ?_, fun x y z h1 h2 => ?_, fun x y z h1 h2 => ?_⟩
  · have : ¬ byS x x < 0 := by rw [byS_lt]; omega
    simpa [Go.Proofs.ltOf] using this
  · simp only [Go.Proofs.ltOf, decide_eq_true_eq, byS_lt] at *
    omega
  · simp only [Go.Proofs.ltOf, decide_eq_false_iff_not, byS_lt] at *
    omega

theorem sortOps_any (w : World) (base : Nat) (v : Value) (l : List Mv) (hl : l.length ≤ 1000) (hbase : base ≤ w.heap.size) (h : OwnE opC 7 35 w base v l) :
    Calls Tryz.prog 55 #[v, .func (.func 56) #[] #[]] w
      fun e w' => e = .returned (.tuple #[]) ∧ ∃ l', l'.Perm l ∧ (l'.Pairwise fun p q => ¬ (q.1 < p.1 ∨ (q.1 = p.1 ∧ q.2.1 < p.2.1))) ∧ OwnE opC 7 35 w' base v l' ∧ Below base w w' := by
  have hn := sortE Tryz.sortOp Tryz.isAgg35 Tryz.sizeOf35 opC_len (by omega) opC_one byS swoStamp 56 (Go.Proofs.enters_of Tryz.func56 (by kernel_rfl) rfl) (fun w x y => byStamp_any w x y) w base 35 v l hl hbase h
  change Calls Tryz.prog 55 _ _ _ at hn
  refine hn.mono ?_
  rintro e w' ⟨rfl, l', h1, h2, h3, h4, _⟩
  exact ⟨rfl, l', h1, h2.imp (fun {p q} hh => by rw [byS_lt] at hh; exact hh), h3, h4⟩
end Go.Proofs.YthlhnokgcnieeadGreat

/- history.Fold. -/
namespace Go.Proofs.YthlhnokgcnieeadGreat
open Go.ChangeShapes Go.WideShapes Go.ChangeAt Go.RowKit
open Orangery (Pl Mv Stp check checkOp firstE foldE foldL foldT noTwo hasM srt)

/-- what a call that folds leaves -/
def Folds (w : World) (L : List Stp) (T : List Pl) (E : Int) (e : Ending) (w' : World) : Prop :=
  ∃ vL vT, e = .returned (.tuple #[hiV vL vT, .int .i64 E]) ∧ OwnE stC 11 95 w' w.heap.size vL L ∧ OwnS w' w.heap.size vT T ∧ Below w.heap.size w w'

theorem folds_err {w w' : World} {L : List Stp} {T : List Pl} {E : Int} (hL : L = []) (hT : T = []) (hb : Below w.heap.size w w') :
    Folds w L T E (.returned (.tuple #[.agg [Value.slice none 0 0, Value.slice none 0 0].toArray, .int .i64 E])) w' := by
  subst hL hT
  exact ⟨_, _, rfl, OwnE.nil _ _, Or.inl ⟨rfl, rfl⟩, hb⟩

set_option maxHeartbeats 2000000 in
set_option maxRecDepth 100000 in
theorem fold_any (w : World) (a : Option Addr) (c : Nat) (l : List Mv) (hl : l.length ≤ maxLen) (hc : l.length ≤ c) (h : SlE opC w a l) :
    Calls Tryz.prog 21 #[.slice a l.length c] w fun e w' => Folds w (foldL l) (foldT l) (foldE l) e w' := by
  have hl' : l.length ≤ 9223372036854775807 := hl
  have HH : Hid (SlE opC w a l) := h
  clear h hl
  obtain ⟨W0, hW, hR, hB, hS⟩ := laid1 w [Value.slice none 0 0, Value.slice none 0 0] 27
  have HS0 : Hid (W0.heap.size = w.heap.size + 1) := hS
  clear hS
  by_cases hlen : l.length ≤ 30
  case neg =>
    have hd : decide ((l.length : Int) > 30) = true := by simp; omega
    have HE : Hid (foldE l = 2) := Orangery.foldE_many (by omega)
    have r0 := hR.at 0 rfl
    have r1 := hR.at 1 rfl
    have rf := hR.frz
    clear hlen
    go_enter Tryz.func21, Tryz.ntmps21
    go_wp2
    have hRf := hR.sets [Value.slice none 0 0, Value.slice none 0 0] rfl
    refine ret_cell_tmp Tryz.results21 rfl rfl (hRf.load Tryz.underlying27 rfl sizeHist) ?_
    rw [HE.out]
    have hz := Orangery.fold_err (l := l) (by rw [HE.out]; decide)
    exact folds_err hz.1 hz.2 (below_sets hB w.heap.size (Nat.le_refl _) [Value.slice none 0 0, Value.slice none 0 0] 0)
  case pos =>
    have hd : decide ((l.length : Int) > 30) = false := by simp; omega
    go_enter Tryz.func21, Tryz.ntmps21
    go_wp2
    clear hW
    go_loopw [16] (fun i W => ∃ k : Nat, k ≤ l.length ∧ i = .int .i64 k ∧ firstE (l.drop k) = firstE l ∧ Below W0.heap.size W0 W) (fun i _ => l.length - (intOf i).toNat)
    case atStart => exact ⟨0, Nat.zero_le _, rfl, rfl, Below.refl _ _⟩
    case round =>
      obtain ⟨k, hk, rfl, hf, hb⟩ := hrel
      have hR1 := hR.keep hb
      have hB1 : Below w.heap.size w wr := hB.trans (hb.mono hB.size)
      by_cases hlt : k < l.length
      · obtain ⟨b, off, rfl, hbl, hr⟩ := (HH.out.below hB1).at opC_len k hlt
        obtain ⟨g0, g1, g2, g3, g4, g5, g6⟩ := op_cells hr
        obtain ⟨s1, s2⟩ := Orangery.firstE_drop l k hlt hf
        have H1 : Hid (checkOp l[k] ≠ 0 → firstE l = checkOp l[k]) := s1
        have H2 : Hid (checkOp l[k] = 0 → firstE (l.drop (k + 1)) = firstE l) := s2
        clear s1 s2 hf hr
        generalize l[k] = o at *
        obtain ⟨o1, o2, ⟨o3, o4, o5⟩, o6, o7⟩ := o
        simp only at g0 g1 g2 g3 g4 g5 g6
        obtain ⟨W2, hW2, hN, hBn, _⟩ := laid1 wr [Value.int IntKind.i64 o1, Value.int IntKind.i64 o2, Value.int IntKind.i64 o3, Value.int IntKind.i64 o4, Value.int IntKind.i64 o5, Value.int IntKind.i64 o6, Value.int IntKind.i64 o7] 35
        have n0 := hN.at 0 rfl
        have n1 := hN.at 1 rfl
        have n2 := hN.at 2 rfl
        have n3 := hN.at 3 rfl
        have n4 := hN.at 4 rfl
        have n5 := hN.at 5 rfl
        have n6 := hN.at 6 rfl
        have hR2 := hR1.keep hBn
        have HB2 : Hid (Below W0.heap.size W0 W2) := hb.trans (hBn.mono hb.size)
        clear hR1 hB1 hb hBn hN
        go_wp2_with fail
        refine (moveCheck_any W2 (o1, o2, (o3, o4, o5), o6, o7)).mono ?_
        rintro e w3 ⟨rfl, hb3⟩
        have hR3 := hR2.keep hb3
        have HB3 : Hid (Below W0.heap.size W0 w3) := HB2.out.trans (hb3.mono HB2.out.size)
        clear hR2 HB2 hb3 hW2 n0 n1 n2 n3 n4 n5 n6 g0 g1 g2 g3 g4 g5 g6
        by_cases hz : checkOp (o1, o2, (o3, o4, o5), o6, o7) = 0
        · have HE := H2.out hz
          have HEE : Hid (firstE (l.drop (k + 1)) = firstE l) := HE
          rw [hz]
          clear HE H1 H2 hz
          go_wp2
          go_roundw
          case rel => exact ⟨k + 1, hlt, by go_num, HEE.out, HB3.out⟩
          case measure => simp [intOf]; omega
        · have hz' : (checkOp (o1, o2, (o3, o4, o5), o6, o7) != 0) = true := by simpa using hz
          have HZ : Hid (checkOp (o1, o2, (o3, o4, o5), o6, o7) ≠ 0) := hz
          have HE : Hid (firstE l = checkOp (o1, o2, (o3, o4, o5), o6, o7)) := H1.out hz
          have r0 := hR3.at 0 rfl
          have r1 := hR3.at 1 rfl
          have rf := hR3.frz
          clear hz H1 H2
          generalize checkOp (o1, o2, (o3, o4, o5), o6, o7) = E at *
          go_wp2
          have hRf := hR3.sets [Value.slice none 0 0, Value.slice none 0 0] rfl
          refine ret_cell_tmp Tryz.results21 rfl rfl (hRf.load Tryz.underlying27 rfl sizeHist) ?_
          have e0 : foldE l = E := by rw [Orangery.foldE_first hlen (by rw [HE.out]; exact HZ.out), HE.out]
          rw [e0]
          have hzz := Orangery.fold_err (l := l) (by rw [e0]; exact HZ.out)
          exact folds_err hzz.1 hzz.2 (below_sets (hB.trans (HB3.out.mono hB.size)) w.heap.size (Nat.le_refl _) [Value.slice none 0 0, Value.slice none 0 0] 0)
      · have hk' : k = l.length := by omega
        subst hk'
        have hok0 : firstE l = 0 := by rw [← hf, List.drop_of_length_le (Nat.le_refl _)]; rfl
        have HOK0 : Hid (firstE l = 0) := hok0
        have HOK : Hid (∀ o ∈ l, checkOp o = 0) := (Orangery.firstE_zero l).1 hok0
        have HB1 : Hid (Below w.heap.size w wr) := hB1
        have HR1 : Hid (Blk wr w.heap.size [Value.slice none 0 0, Value.slice none 0 0]) := hR1
        clear hf hok0 hb hR hB hB1 hR1 HS0
        rename World => W1
        go_wp2
        go_loopw [29] (fun i W => ∃ k : Nat, k ≤ l.length ∧ i = .int .i64 k ∧ noTwo (l.take k) ∧ Below W1.heap.size W1 W) (fun i _ => l.length - (intOf i).toNat)
        case atStart => exact ⟨0, Nat.zero_le _, rfl, by simp, Below.refl _ _⟩
        case round =>
          obtain ⟨k, hk2, rfl, hnt, hb⟩ := hrel
          have hR1 := HR1.out.keep hb
          have hB1 : Below w.heap.size w wr := HB1.out.trans (hb.mono HB1.out.size)
          by_cases hlt : k < l.length
          · obtain ⟨b, off, rfl, hbl, hr⟩ := (HH.out.below hB1).at opC_len k hlt
            obtain ⟨g0, g1, g2, g3, g4, g5, g6⟩ := op_cells hr
            obtain ⟨s1, s2⟩ := Orangery.noTwo_take HOK.out k hlt hnt
            have H1 : Hid (hasM (l.take k) l[k].1 l[k].2.1 = false → noTwo (l.take (k + 1))) := s1
            have H2 : Hid (hasM (l.take k) l[k].1 l[k].2.1 = true → ¬ noTwo l) := s2
            have hHP := ((HH.out.below hB1).take k)
            have hkc : k ≤ c := by omega
            have hkc' : (k : Int) ≤ (c : Int) := by omega
            clear s1 s2 hnt hr
            generalize l[k] = o at *
            obtain ⟨o1, o2, ⟨o3, o4, o5⟩, o6, o7⟩ := o
            simp only at g0 g1 g2 g3 g4 g5 g6
            have HAS : Hid (∀ W, SlE opC W (some ⟨b, off, none⟩) (l.take k) → Calls Tryz.prog 53 #[.slice (some ⟨b, off, none⟩) k c, .agg #[.int .i64 o1, .int .i64 o2]] W fun e w' => e = .returned (.bool (hasM (l.take k) o1 o2)) ∧ Below W.heap.size W w') := by
              show ∀ W, _
              intro W hPW
              have := has_any W (some ⟨b, off, none⟩) c (l.take k) o1 o2 (by simp; unfold maxLen; omega) hPW
              rw [List.length_take_of_le (by omega)] at this
              exact this
            obtain ⟨W2, hW2, hN, hBn, _⟩ := laid1 wr [Value.int IntKind.i64 o1, Value.int IntKind.i64 o2, Value.int IntKind.i64 o3, Value.int IntKind.i64 o4, Value.int IntKind.i64 o5, Value.int IntKind.i64 o6, Value.int IntKind.i64 o7] 35
            have n0 := hN.at 0 rfl
            have n1 := hN.at 1 rfl
            have hwl : wr.heap.size < W2.heap.size := hN.lt
            have hR2 := hR1.keep hBn
            have HP2 : Hid (SlE opC W2 (some ⟨b, off, none⟩) (l.take k)) := hHP.below hBn
            have HB2 : Hid (Below W1.heap.size W1 W2) := hb.trans (hBn.mono hb.size)
            clear hR1 hB1 hb hBn hN hHP
            go_upto_region 13 with fail
            clear hW2 g0 g1 g2 g3 g4 g5 g6
            go_region_held3 (fun w' => w'.cell? ⟨wr.heap.size, 0, none⟩ = some (.int .i64 o1) ∧ w'.cell? ⟨wr.heap.size, 1, none⟩ = some (.int .i64 o2)) (go_keep)
              (first | (go_at_call 53; refine (HAS.out _ ?_).mono ?_; exact HP2.out.drew; rintro e w3 ⟨rfl, hb3⟩; have m0 := (hb3.cell (p := ⟨wr.heap.size, 0, none⟩) hwl).trans n0; have m1 := (hb3.cell (p := ⟨wr.heap.size, 1, none⟩) hwl).trans n1))
            have HB3 : Hid (Below W1.heap.size W1 w3) := HB2.out.trans ((((Below.refl _ W2).drew).trans hb3).mono HB2.out.size)
            have hR3 := hR2.keep (((Below.refl _ W2).drew).trans hb3)
            clear hR2 HB2 hb3 m0 m1 n0 n1 hwl HP2 HAS
            cases hq : hasM (l.take k) o1 o2
            · have HE : Hid (noTwo (l.take (k + 1))) := H1.out hq
              clear H1 H2
              go_wp2
              go_roundw
              case rel => exact ⟨k + 1, hlt, by go_num, HE.out, HB3.out⟩
              case measure => simp [intOf]; omega
            · have HE : Hid (¬ noTwo l) := H2.out hq
              clear H1 H2
              have r0 := hR3.at 0 rfl
              have r1 := hR3.at 1 rfl
              have rf := hR3.frz
              go_wp2
              have hRf := hR3.sets [Value.slice none 0 0, Value.slice none 0 0] rfl
              refine ret_cell_tmp Tryz.results21 rfl rfl (hRf.load Tryz.underlying27 rfl sizeHist) ?_
              have e0 : foldE l = 6 := Orangery.foldE_twice hlen HOK0.out HE.out
              rw [e0]
              have hzz := Orangery.fold_err (l := l) (by rw [e0]; decide)
              exact folds_err hzz.1 hzz.2 (below_sets (HB1.out.trans (HB3.out.mono HB1.out.size)) w.heap.size (Nat.le_refl _) [Value.slice none 0 0, Value.slice none 0 0] 0)
          · have hk' : k = l.length := by omega
            subst hk'
            rw [List.take_of_length_le (Nat.le_refl _)] at hnt
            have HNT : Hid (noTwo l) := hnt
            have HBW : Hid (Below w.heap.size w wr) := hB1
            have hP := HH.out.below hB1
            clear hnt hb hB1 HB1 HR1
            go_wp2_with fail
            refine (cloneOps_any wr a c l (by omega) hP).mono ?_
            rintro e w2 ⟨v2, rfl, hO2, hb2⟩
            have hR2 := hR1.keep hb2
            have HB2 : Hid (Below w.heap.size w w2) := HBW.out.trans (hb2.mono HBW.out.size)
            have hwr : w.heap.size + 1 ≤ wr.heap.size := hR1.lt
            have hsz2 := hb2.size
            clear hP hR1 HBW hb2
            go_wp2_with fail
            refine (sortOps_any w2 wr.heap.size v2 l (by omega) hsz2 hO2).mono ?_
            rintro e w3 ⟨rfl, l', hp', hs', hO3, hb3⟩
            have hR3 := hR2.below hb3 (by omega)
            have HB3 : Hid (Below w.heap.size w w3) := HB2.out.trans (hb3.mono (by omega))
            have HSR : Hid (srt l = l') := Orangery.srt_of_stamps HOK.out HNT.out hp' hs'
            have HOK' : Hid (∀ o ∈ l', checkOp o = 0) := fun o ho => HOK.out o (hp'.mem_iff.1 ho)
            have hlen' : l'.length ≤ 1000 := by rw [hp'.length_eq]; omega
            obtain ⟨a3, c3, rfl, hP3, _⟩ := hO3.val
            have hsz3 := hb3.size
            clear hO2 hO3 hR2 HB2 hp' hs' hb3
            go_wp2_with fail
            refine (play_any w3 a3 c3 l' hlen' hP3 HOK'.out).mono ?_
            rintro e w4 ⟨vL, vT, rfl, hL4, hT4, hb4⟩
            have hR4 := hR3.keep hb4
            have HB4 : Hid (Below w.heap.size w w4) := HB3.out.trans (hb4.mono HB3.out.size)
            have hL5 := hL4.mono (base' := w.heap.size + 1) (by omega)
            have hT5 := hT4.mono (base' := w.heap.size + 1) (by omega)
            obtain ⟨aT, cT, rfl⟩ := hT5.val
            obtain ⟨aL, cL, rfl, _, _⟩ := hL5.val
            have r0 := hR4.at 0 rfl
            have r1 := hR4.at 1 rfl
            have rf := hR4.frz
            clear hL4 hT4 hP3 hR3 HB3 hb4
            go_wp2
            have hRf := hR4.sets [Value.slice aL (Orangery.runS [] l').length cL, Value.slice aT (Orangery.runT [] l').length cT] rfl
            refine ret_cell_tmp Tryz.results21 rfl rfl (hRf.load Tryz.underlying27 rfl sizeHist) ?_
            have e0 : foldE l = 0 := Orangery.foldE_ok hlen HOK0.out HNT.out
            obtain ⟨f1, f2, _⟩ := Orangery.fold_ok e0
            rw [e0, f1, f2, HSR.out]
            have e1 := (OwnE.others w.heap.size (by omega) [Value.slice aL (Orangery.runS [] l').length cL, Value.slice aT (Orangery.runT [] l').length cT] 0 w4 hL5).mono (base' := w.heap.size) (by omega)
            have e2 := (OwnS.others w.heap.size (by omega) [Value.slice aL (Orangery.runS [] l').length cL, Value.slice aT (Orangery.runT [] l').length cT] 0 w4 hT5).mono (base' := w.heap.size) (by omega)
            exact ⟨_, _, rfl, e1, e2, below_sets HB4.out w.heap.size (Nat.le_refl _) [Value.slice aL (Orangery.runS [] l').length cL, Value.slice aT (Orangery.runT [] l').length cT] 0⟩
end Go.Proofs.YthlhnokgcnieeadGreat

