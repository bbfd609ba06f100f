/- history.play: operations done one after the other. -/
import Derived.Test.YtphameoibnimmaaHistA
import Derived.Test.YtphameoibnimmaaDo
import Derived.Test.YtphameoibnimmaaTakesB
import Derived.Test.YtphameoibnimmaaLOp
import Derived.Deep.DeepCutAuto
namespace Go.Proofs.Ytphameoibnimmaa
open Go.ChangeShapes Go.WideShapes Go.ChangeAt Go.RowKit
open Orangery (Pl Mv Stp check checkOp doE doT doS dT dS)

set_option linter.unusedSimpArgs false in
set_option maxHeartbeats 2000000 in
set_option maxRecDepth 100000 in
theorem play_any (w : World) (a : Option Addr) (c : Nat) (l : List Mv) (hl : l.length ≤ 1000) (h : SlE opC w a l) (hok : ∀ o ∈ l, checkOp o = 0) :
    Calls Try.prog 66 #[.slice a l.length c] w
      fun e w' => ∃ vL vT, e = .returned (.tuple #[hiV vL vT, .int .i64 0]) ∧ OwnE stC 11 51 w' w.heap.size vL (Orangery.runS [] l) ∧ OwnS w' w.heap.size vT (Orangery.runT [] l) ∧ Below w.heap.size w w' := by
  obtain ⟨i0, hi, hz0, hz1, hz2⟩ := info_parts infoStep
  have HH : Hid (SlE opC w a l) := h
  have HOK : Hid (∀ o ∈ l, checkOp o = 0) := hok
  clear h hok
  obtain ⟨W0, hW, hR, hH, hB, hS⟩ := laid2 w [Value.slice none 0 0, Value.slice none 0 0] 62 [Value.slice none 0 0, Value.slice none 0 0] 62
  go_enter Try.func66, Try.ntmps66
  go_wp2
  clear hW
  go_loopw [12] (fun i W => ∃ (k : Nat) (vL vT : Value), k ≤ l.length ∧ i = .int .i64 k ∧ Blk W w.heap.size [Value.slice none 0 0, Value.slice none 0 0] ∧ Blk W (w.heap.size + 1) [vL, vT] ∧ OwnE stC 11 51 W (w.heap.size + 2) vL (Orangery.runS [] (l.take k)) ∧ OwnS W (w.heap.size + 2) vT (Orangery.runT [] (l.take k)) ∧ Below w.heap.size w W) (fun i _ => l.length - (intOf i).toNat)
  case atStart => exact ⟨0, _, _, Nat.zero_le _, rfl, hR, hH, OwnE.nil _ _, Or.inl ⟨rfl, rfl⟩, hB⟩
  case round =>
    clear hR hH hB hS
    obtain ⟨k, vL, vT, hk, rfl, hR, hH, hL, hT, hb⟩ := hrel
    by_cases hlt : k < l.length
    · obtain ⟨b, off, rfl, hbl, hr⟩ := (HH.out.below hb).at opC_len k hlt
      obtain ⟨g0, g1, g2, g3, g4, g5, g6⟩ := op_cells hr
      have HT1 : Hid (l.take (k + 1) = l.take k ++ [l[k]]) := List.take_succ_eq_append_getElem hlt
      have hco := HOK.out l[k] (List.getElem_mem hlt)
      have hct : check (Orangery.runT [] (l.take k)) = 0 := Orangery.runT_check _ _ Orangery.check_empty (fun o ho => HOK.out o (List.mem_of_mem_take ho))
      have hz := Orangery.doE_of hct hco
      obtain ⟨hdT, hdS⟩ := Orangery.dT_eq hz
      have hTl := Orangery.check_len _ hct
      have hSl : (Orangery.runS [] (l.take k)).length ≤ 1000 := by rw [Orangery.runS_len]; simp; omega
      have HRT : Hid (Orangery.runT [] (l.take (k + 1)) = dT (Orangery.runT [] (l.take k)) l[k]) := by show _ = _; rw [HT1.out, Orangery.runT_append]; rfl
      have HRS : Hid (Orangery.runS [] (l.take (k + 1)) = Orangery.runS [] (l.take k) ++ [dS (Orangery.runT [] (l.take k)) l[k]]) := by show _ = _; rw [HT1.out, Orangery.runS_append]; rfl
      clear hr hco hct HT1
      generalize l[k] = o at *
      generalize Orangery.runT [] (l.take k) = Tk at *
      generalize Orangery.runS [] (l.take k) = Sk at *
      obtain ⟨aT, cT, rfl⟩ := hT.val
      have hP := hT.read
      obtain ⟨aL, cL, rfl, _, _⟩ := hL.val
      have HD : ∀ W, SlP W aT Tk → Calls Try.prog 22 #[.agg #[.slice aT Tk.length cT], opV o] W fun e w' => ∃ v, e = .returned (.tuple #[.agg #[v], stV (dS Tk o), .int .i64 0]) ∧ OwnS w' W.heap.size v (dT Tk o) ∧ Below W.heap.size W w' := by
        intro W hPW
        have := do_any W aT cT Tk o (by unfold maxLen; omega) hPW
        rw [hz, hdT, hdS] at this
        exact this
      have HDD : Hid (∀ W, SlP W aT Tk → Calls Try.prog 22 #[.agg #[.slice aT Tk.length cT], opV o] W fun e w' => ∃ v, e = .returned (.tuple #[.agg #[v], stV (dS Tk o), .int .i64 0]) ∧ OwnS w' W.heap.size v (dT Tk o) ∧ Below W.heap.size W w') := HD
      clear HD hz hdT hdS
      generalize dS Tk o = s at *
      generalize dT Tk o = Tn at *
      obtain ⟨o1, o2, ⟨o3, o4, o5⟩, o6, o7⟩ := o
      obtain ⟨⟨q1, q2, ⟨q3, q4, q5⟩, q6, q7⟩, d, ⟨p1, p2, p3⟩⟩ := s
      simp only at g0 g1 g2 g3 g4 g5 g6
      obtain ⟨W2, hW2, hN, hBn, _⟩ := laid1 wr [Value.int IntKind.i64 o1, Value.int IntKind.i64 o2, Value.int IntKind.i64 o3, Value.int IntKind.i64 o4, Value.int IntKind.i64 o5, Value.int IntKind.i64 o6, Value.int IntKind.i64 o7] 49
      have hP2 := hP.below hBn
      have hH2 := hH.keep hBn
      have hR2 := hR.keep hBn
      have hL2 := hL.keep hBn
      have HB2 : Hid (Below w.heap.size w W2) := hb.trans (hBn.mono hb.size)
      have hwr : w.heap.size + 1 < wr.heap.size := hH.lt
      have hn0 := hN.at 0 rfl
      have hn1 := hN.at 1 rfl
      have hn2 := hN.at 2 rfl
      have hn3 := hN.at 3 rfl
      have hn4 := hN.at 4 rfl
      have hn5 := hN.at 5 rfl
      have hn6 := hN.at 6 rfl
      have hh1 := hH2.at 1 rfl
      have HLT : Hid (∀ g, (Value.slice aL Sk.length cL).ownBlock = some g → w.heap.size + 2 ≤ g ∧ g < wr.heap.size) := fun g hg => hL.row.lt g hg
      clear hP hH hR hL hT hb hBn
      go_wp2_with fail
      refine (HDD.out W2 hP2).mono ?_
      rintro e w3 ⟨v3, rfl, hO3, hb3⟩
      obtain ⟨a3, c3, rfl⟩ := hO3.val
      have hH3 := hH2.keep hb3
      have hR3 := hR2.keep hb3
      have hL3 := hL2.keep hb3
      have HB3 : Hid (Below w.heap.size w w3) := HB2.out.trans (hb3.mono HB2.out.size)
      have hO3' := hO3.mono (base' := wr.heap.size) (by omega)
      have hw3 : wr.heap.size + 1 ≤ w3.heap.size := by have := hb3.size; omega
      clear hP2 hH2 hR2 hL2 HB2 hb3 hO3 hN hn0 hn1 hn2 hn3 hn4 hn5 hn6 hh1 hW2 g0 g1 g2 g3 g4 g5 g6
      obtain ⟨W4, hW4, hTb, hSb, hBn, hS4⟩ := laid2 w3 [Value.slice a3 Tn.length c3] 29 [Value.int IntKind.i64 q1, Value.int IntKind.i64 q2, Value.int IntKind.i64 q3, Value.int IntKind.i64 q4, Value.int IntKind.i64 q5, Value.int IntKind.i64 q6, Value.int IntKind.i64 q7, Value.bool d, Value.int IntKind.i64 p1, Value.int IntKind.i64 p2, Value.int IntKind.i64 p3] 51
      have hH4 := hH3.keep hBn
      have hR4 := hR3.keep hBn
      have hL4 := hL3.keep hBn
      have hO4 := hO3'.below hBn
      have HB4 : Hid (Below w.heap.size w W4) := HB3.out.trans (hBn.mono HB3.out.size)
      clear hH3 hR3 hL3 hO3' HB3 hBn
      have HS4 : Hid (W4.heap.size = w3.heap.size + 2) := hS4
      clear hS4
      go_upto_region 8 with fail
      clear hW4
      have h0 := hH4.at 0 rfl
      refine wp_region_held_drew (S := fun w' => Blk w' w3.heap.size [Value.slice a3 Tn.length c3] ∧ Blk w' (w3.heap.size + 1) [Value.int IntKind.i64 q1, Value.int IntKind.i64 q2, Value.int IntKind.i64 q3, Value.int IntKind.i64 q4, Value.int IntKind.i64 q5, Value.int IntKind.i64 q6, Value.int IntKind.i64 q7, Value.bool d, Value.int IntKind.i64 p1, Value.int IntKind.i64 p2, Value.int IntKind.i64 p3]) (by kernel_rfl) ⟨hTb.drew, hSb.drew⟩ (fun hHeld => ?_)
      refine take_yes 0 28 (v := ?_) rfl rfl (by kernel_rfl) (by kernel_rfl) (by kernel_rfl) (fun _ _ _ h => h) (by rfl) ?_ hHeld ?_
      rotate_left 1
      · (intro w hSw; go_simp; try with_reducible rfl)
      simp only [Act.put, List.setIfInBounds_toArray, List.set_cons_succ, List.set_cons_zero]
      refine take_load 2 30 51 (w3.heap.size + 1) [Value.int IntKind.i64 q1, Value.int IntKind.i64 q2, Value.int IntKind.i64 q3, Value.int IntKind.i64 q4, Value.int IntKind.i64 q5, Value.int IntKind.i64 q6, Value.int IntKind.i64 q7, Value.bool d, Value.int IntKind.i64 p1, Value.int IntKind.i64 p2, Value.int IntKind.i64 p3] rfl rfl (by kernel_rfl) (by kernel_rfl) (by kernel_rfl) (fun _ _ _ h => h) (by rfl) (by rfl) (by rfl) (fun w hw => hw.2.range) Try.underlying51 rfl sizeStep hHeld ?_
      simp only [Act.put, List.setIfInBounds_toArray, List.set_cons_succ, List.set_cons_zero]
      refine take_load 5 33 29 w3.heap.size [Value.slice a3 Tn.length c3] rfl rfl (by kernel_rfl) (by kernel_rfl) (by kernel_rfl) (fun _ _ _ h => h) (by rfl) (by rfl) (by rfl) (fun w hw => hw.1.range) Try.underlying29 rfl sizeTree hHeld ?_
      simp only [Act.put, List.setIfInBounds_toArray, List.set_cons_succ, List.set_cons_zero]
      refine wpAnyH_ready (rs := [1, 3]) (by kernel_rfl) (by simp) ?_
      refine AllReadyH.cons rfl (fun K hK => ?_) (AllReadyH.cons rfl (fun K hK => ?_) AllReadyH.nil)
      · go_simp
        refine hK.out _ _ hHeld (fun hHeld => ?_)
        clear hK K
        refine wpAnyH_ready (rs := [3]) (by kernel_rfl) (by simp) (AllReadyH.cons rfl (fun K hK => ?_) AllReadyH.nil)
        go_simp
        refine hK.out _ _ ⟨hHeld.1.alloc _, hHeld.2.alloc _⟩ (fun hHeld => ?_)
        clear hK K
        have hown5 : (W4.alloc (.cells [Value.int IntKind.i64 q1, Value.int IntKind.i64 q2, Value.int IntKind.i64 q3, Value.int IntKind.i64 q4, Value.int IntKind.i64 q5, Value.int IntKind.i64 q6, Value.int IntKind.i64 q7, Value.bool d, Value.int IntKind.i64 p1, Value.int IntKind.i64 p2, Value.int IntKind.i64 p3].toArray 51)).drew.ownsRow (w.heap.size + 2) 51 11 (.slice aL Sk.length cL) Sk.length (Sk.flatMap stC) := (hL4.alloc _).drew.row
        have hN5 := (Blk.new W4 [Value.int IntKind.i64 q1, Value.int IntKind.i64 q2, Value.int IntKind.i64 q3, Value.int IntKind.i64 q4, Value.int IntKind.i64 q5, Value.int IntKind.i64 q6, Value.int IntKind.i64 q7, Value.bool d, Value.int IntKind.i64 p1, Value.int IntKind.i64 p2, Value.int IntKind.i64 p3] 51).drew
        have hsz5 := HB4.out.size
        refine step_append (s := Operand.tmp 29) (x := Operand.tmp 31) 4 32 60 ?x0 rfl ?x2 ?x3 ?x4 (w.heap.size + 2) 51 i0 _ 11 88 Try.underlying60 hi hz0 hz1 hz2 ?x5 ?x6 (.slice aL Sk.length cL) Sk.length (Sk.flatMap stC) ?x7 hown5 ⟨W4.heap.size, 0, none⟩ 1 1 [Value.int IntKind.i64 q1, Value.int IntKind.i64 q2, Value.int IntKind.i64 q3, Value.int IntKind.i64 q4, Value.int IntKind.i64 q5, Value.int IntKind.i64 q6, Value.int IntKind.i64 q7, Value.bool d, Value.int IntKind.i64 p1, Value.int IntKind.i64 p2, Value.int IntKind.i64 p3] ?x8 ?x9 ?xa ?xb ?xc ?xd ?xe ?_
        case x0 => kernel_rfl
        case x2 => rfl
        case x3 => rfl
        case x4 => rfl
        case x5 => rfl
        case x6 => decide
        case x7 => rfl
        case x8 => rfl
        case x9 => rfl
        case xa => intro j u hj; rw [Addr.add_mid, Nat.zero_add]; exact hN5.at j hj
        case xb => exact stC_one ((q1, q2, (q3, q4, q5), q6, q7), d, (p1, p2, p3))
        case xc => unfold maxLen; omega
        case xd => omega
        case xe => show _ ≤ (W4.alloc _).heap.size; rw [World.size_alloc]; have := hH4.lt; omega
        intro v5 w5 hown' hgrow
        have hgb : ∀ g, (Value.slice aL Sk.length cL).ownBlock = some g → w.heap.size + 2 ≤ g ∧ g < wr.heap.size := HLT.out
        obtain ⟨Sn, hSn⟩ : ∃ Sn, Sn = Sk ++ [((q1, q2, (q3, q4, q5), q6, q7), d, (p1, p2, p3))] := ⟨_, rfl⟩
        have hL5 : OwnE stC 11 51 w5 (w.heap.size + 2) v5 Sn := by
          show World.ownsRow _ _ _ _ _ _ _
          rw [hSn]
          simpa [stC] using hown'
        have HSN : Hid (Sn = Sk ++ [((q1, q2, (q3, q4, q5), q6, q7), d, (p1, p2, p3))]) := hSn
        clear hSn
        obtain ⟨a5, c5, rfl, _, _⟩ := hL5.val
        have hne : ∀ g, g < w.heap.size + 2 ∨ wr.heap.size ≤ g → some g ≠ (Value.slice aL Sk.length cL).ownBlock := by
          intro g hg e
          have := hgb g e.symm
          omega
        have hH5 := (hH4.alloc (.cells [Value.int IntKind.i64 q1, Value.int IntKind.i64 q2, Value.int IntKind.i64 q3, Value.int IntKind.i64 q4, Value.int IntKind.i64 q5, Value.int IntKind.i64 q6, Value.int IntKind.i64 q7, Value.bool d, Value.int IntKind.i64 p1, Value.int IntKind.i64 p2, Value.int IntKind.i64 p3].toArray 51)).drew.grown hgrow (hne _ (Or.inl (by omega)))
        have hR5 := (hR4.alloc (.cells [Value.int IntKind.i64 q1, Value.int IntKind.i64 q2, Value.int IntKind.i64 q3, Value.int IntKind.i64 q4, Value.int IntKind.i64 q5, Value.int IntKind.i64 q6, Value.int IntKind.i64 q7, Value.bool d, Value.int IntKind.i64 p1, Value.int IntKind.i64 p2, Value.int IntKind.i64 p3].toArray 51)).drew.grown hgrow (hne _ (Or.inl (by omega)))
        have hO5 := (hO4.alloc (.cells [Value.int IntKind.i64 q1, Value.int IntKind.i64 q2, Value.int IntKind.i64 q3, Value.int IntKind.i64 q4, Value.int IntKind.i64 q5, Value.int IntKind.i64 q6, Value.int IntKind.i64 q7, Value.bool d, Value.int IntKind.i64 p1, Value.int IntKind.i64 p2, Value.int IntKind.i64 p3].toArray 51)).drew.grown hgrow (fun g hg => (hgb g hg).2)
        have hB5 : Below w.heap.size w w5 := ((HB4.out.alloc HB4.out.size (.cells [Value.int IntKind.i64 q1, Value.int IntKind.i64 q2, Value.int IntKind.i64 q3, Value.int IntKind.i64 q4, Value.int IntKind.i64 q5, Value.int IntKind.i64 q6, Value.int IntKind.i64 q7, Value.bool d, Value.int IntKind.i64 p1, Value.int IntKind.i64 p2, Value.int IntKind.i64 p3].toArray 51)).drew).grown hgrow (by show _ ≤ (W4.alloc _).heap.size; rw [World.size_alloc]; have := hH4.lt; omega) (fun g hg => by have := hgb g hg; omega)
        refine ⟨⟨hHeld.1.grown hgrow (hne _ (Or.inr (by omega))), hHeld.2.grown hgrow (hne _ (Or.inr (by omega)))⟩, ?_⟩
        replace hHeld : Blk w5 w3.heap.size [Value.slice a3 Tn.length c3] ∧ Blk w5 (w3.heap.size + 1) [Value.int IntKind.i64 q1, Value.int IntKind.i64 q2, Value.int IntKind.i64 q3, Value.int IntKind.i64 q4, Value.int IntKind.i64 q5, Value.int IntKind.i64 q6, Value.int IntKind.i64 q7, Value.bool d, Value.int IntKind.i64 p1, Value.int IntKind.i64 p2, Value.int IntKind.i64 p3] := ⟨hHeld.1.grown hgrow (hne _ (Or.inr (by omega))), hHeld.2.grown hgrow (hne _ (Or.inr (by omega)))⟩
        simp only [Act.put, List.setIfInBounds_toArray, List.set_cons_succ, List.set_cons_zero]
        refine take_yes 6 34 (v := ?_) rfl rfl (by kernel_rfl) (by kernel_rfl) (by kernel_rfl) (fun _ _ _ h => h) (by rfl) ?_ hHeld ?_
        rotate_left 1
        · (intro w hSw; go_simp; try with_reducible rfl)
        simp only [Act.put, List.setIfInBounds_toArray, List.set_cons_succ, List.set_cons_zero]
        refine step_store 7 62 (w.heap.size + 1) [Value.slice a5 Sn.length c5, Value.slice a3 Tn.length c3] (by kernel_rfl) rfl rfl (by rfl) (by rfl) (by rfl) ?xf hH5.there sizeHist ?xg ⟨hHeld.1.others (by omega) _ _, hHeld.2.others (by omega) _ _⟩ ?_
        case xf => rfl
        case xg => intro v hv; simp at hv; rcases hv with rfl | rfl <;> rfl
        refine wpAnyH_done (by kernel_rfl) ?_ _
        have HL5 : Hid (OwnE stC 11 51 w5 (w.heap.size + 2) (Value.slice a5 Sn.length c5) Sn) := hL5
        clear hL5 hown' hown5 hgrow hHeld hN5
        go_wp2
        go_roundw
        case rel =>
          refine ⟨k + 1, _, _, hlt, by go_num, hR5.others (by omega) _ _, hH5.sets _ rfl, ?_, ?_, below_sets hB5 (w.heap.size + 1) (by omega) _ _⟩
          · rw [HRS.out, ← HSN.out]; exact OwnE.others (w.heap.size + 1) (by omega) _ _ _ HL5.out
          · rw [HRT.out]; exact OwnS.others (w.heap.size + 1) (by omega) _ _ _ (hO5.mono (by omega))
        case measure => simp [intOf]; omega
      · go_simp
        refine hK.out _ _ ⟨hHeld.1.alloc _, hHeld.2.alloc _⟩ (fun hHeld => ?_)
        clear hK K
        have h0 := (hH4.alloc (.cells [Value.int IntKind.i64 q1, Value.int IntKind.i64 q2, Value.int IntKind.i64 q3, Value.int IntKind.i64 q4, Value.int IntKind.i64 q5, Value.int IntKind.i64 q6, Value.int IntKind.i64 q7, Value.bool d, Value.int IntKind.i64 p1, Value.int IntKind.i64 p2, Value.int IntKind.i64 p3].toArray 51)).at 0 rfl
        refine wpAnyH_ready (rs := [1]) (by kernel_rfl) (by simp) (AllReadyH.cons rfl (fun K hK => ?_) AllReadyH.nil)
        go_simp
        refine hK.out _ _ hHeld (fun hHeld => ?_)
        clear hK K
        have hown5 : (W4.alloc (.cells [Value.int IntKind.i64 q1, Value.int IntKind.i64 q2, Value.int IntKind.i64 q3, Value.int IntKind.i64 q4, Value.int IntKind.i64 q5, Value.int IntKind.i64 q6, Value.int IntKind.i64 q7, Value.bool d, Value.int IntKind.i64 p1, Value.int IntKind.i64 p2, Value.int IntKind.i64 p3].toArray 51)).drew.ownsRow (w.heap.size + 2) 51 11 (.slice aL Sk.length cL) Sk.length (Sk.flatMap stC) := (hL4.alloc _).drew.row
        have hN5 := (Blk.new W4 [Value.int IntKind.i64 q1, Value.int IntKind.i64 q2, Value.int IntKind.i64 q3, Value.int IntKind.i64 q4, Value.int IntKind.i64 q5, Value.int IntKind.i64 q6, Value.int IntKind.i64 q7, Value.bool d, Value.int IntKind.i64 p1, Value.int IntKind.i64 p2, Value.int IntKind.i64 p3] 51).drew
        have hsz5 := HB4.out.size
        refine step_append (s := Operand.tmp 29) (x := Operand.tmp 31) 4 32 60 ?y0 rfl ?y2 ?y3 ?y4 (w.heap.size + 2) 51 i0 _ 11 88 Try.underlying60 hi hz0 hz1 hz2 ?y5 ?y6 (.slice aL Sk.length cL) Sk.length (Sk.flatMap stC) ?y7 hown5 ⟨W4.heap.size, 0, none⟩ 1 1 [Value.int IntKind.i64 q1, Value.int IntKind.i64 q2, Value.int IntKind.i64 q3, Value.int IntKind.i64 q4, Value.int IntKind.i64 q5, Value.int IntKind.i64 q6, Value.int IntKind.i64 q7, Value.bool d, Value.int IntKind.i64 p1, Value.int IntKind.i64 p2, Value.int IntKind.i64 p3] ?y8 ?y9 ?ya ?yb ?yc ?yd ?ye ?_
        case y0 => kernel_rfl
        case y2 => rfl
        case y3 => rfl
        case y4 => rfl
        case y5 => rfl
        case y6 => decide
        case y7 => rfl
        case y8 => rfl
        case y9 => rfl
        case ya => intro j u hj; rw [Addr.add_mid, Nat.zero_add]; exact hN5.at j hj
        case yb => exact stC_one ((q1, q2, (q3, q4, q5), q6, q7), d, (p1, p2, p3))
        case yc => unfold maxLen; omega
        case yd => omega
        case ye => show _ ≤ (W4.alloc _).heap.size; rw [World.size_alloc]; have := hH4.lt; omega
        intro v5 w5 hown' hgrow
        have hgb : ∀ g, (Value.slice aL Sk.length cL).ownBlock = some g → w.heap.size + 2 ≤ g ∧ g < wr.heap.size := HLT.out
        obtain ⟨Sn, hSn⟩ : ∃ Sn, Sn = Sk ++ [((q1, q2, (q3, q4, q5), q6, q7), d, (p1, p2, p3))] := ⟨_, rfl⟩
        have hL5 : OwnE stC 11 51 w5 (w.heap.size + 2) v5 Sn := by
          show World.ownsRow _ _ _ _ _ _ _
          rw [hSn]
          simpa [stC] using hown'
        have HSN : Hid (Sn = Sk ++ [((q1, q2, (q3, q4, q5), q6, q7), d, (p1, p2, p3))]) := hSn
        clear hSn
        obtain ⟨a5, c5, rfl, _, _⟩ := hL5.val
        have hne : ∀ g, g < w.heap.size + 2 ∨ wr.heap.size ≤ g → some g ≠ (Value.slice aL Sk.length cL).ownBlock := by
          intro g hg e
          have := hgb g e.symm
          omega
        have hH5 := (hH4.alloc (.cells [Value.int IntKind.i64 q1, Value.int IntKind.i64 q2, Value.int IntKind.i64 q3, Value.int IntKind.i64 q4, Value.int IntKind.i64 q5, Value.int IntKind.i64 q6, Value.int IntKind.i64 q7, Value.bool d, Value.int IntKind.i64 p1, Value.int IntKind.i64 p2, Value.int IntKind.i64 p3].toArray 51)).drew.grown hgrow (hne _ (Or.inl (by omega)))
        have hR5 := (hR4.alloc (.cells [Value.int IntKind.i64 q1, Value.int IntKind.i64 q2, Value.int IntKind.i64 q3, Value.int IntKind.i64 q4, Value.int IntKind.i64 q5, Value.int IntKind.i64 q6, Value.int IntKind.i64 q7, Value.bool d, Value.int IntKind.i64 p1, Value.int IntKind.i64 p2, Value.int IntKind.i64 p3].toArray 51)).drew.grown hgrow (hne _ (Or.inl (by omega)))
        have hO5 := (hO4.alloc (.cells [Value.int IntKind.i64 q1, Value.int IntKind.i64 q2, Value.int IntKind.i64 q3, Value.int IntKind.i64 q4, Value.int IntKind.i64 q5, Value.int IntKind.i64 q6, Value.int IntKind.i64 q7, Value.bool d, Value.int IntKind.i64 p1, Value.int IntKind.i64 p2, Value.int IntKind.i64 p3].toArray 51)).drew.grown hgrow (fun g hg => (hgb g hg).2)
        have hB5 : Below w.heap.size w w5 := ((HB4.out.alloc HB4.out.size (.cells [Value.int IntKind.i64 q1, Value.int IntKind.i64 q2, Value.int IntKind.i64 q3, Value.int IntKind.i64 q4, Value.int IntKind.i64 q5, Value.int IntKind.i64 q6, Value.int IntKind.i64 q7, Value.bool d, Value.int IntKind.i64 p1, Value.int IntKind.i64 p2, Value.int IntKind.i64 p3].toArray 51)).drew).grown hgrow (by show _ ≤ (W4.alloc _).heap.size; rw [World.size_alloc]; have := hH4.lt; omega) (fun g hg => by have := hgb g hg; omega)
        refine ⟨⟨hHeld.1.grown hgrow (hne _ (Or.inr (by omega))), hHeld.2.grown hgrow (hne _ (Or.inr (by omega)))⟩, ?_⟩
        replace hHeld : Blk w5 w3.heap.size [Value.slice a3 Tn.length c3] ∧ Blk w5 (w3.heap.size + 1) [Value.int IntKind.i64 q1, Value.int IntKind.i64 q2, Value.int IntKind.i64 q3, Value.int IntKind.i64 q4, Value.int IntKind.i64 q5, Value.int IntKind.i64 q6, Value.int IntKind.i64 q7, Value.bool d, Value.int IntKind.i64 p1, Value.int IntKind.i64 p2, Value.int IntKind.i64 p3] := ⟨hHeld.1.grown hgrow (hne _ (Or.inr (by omega))), hHeld.2.grown hgrow (hne _ (Or.inr (by omega)))⟩
        simp only [Act.put, List.setIfInBounds_toArray, List.set_cons_succ, List.set_cons_zero]
        refine take_yes 6 34 (v := ?_) rfl rfl (by kernel_rfl) (by kernel_rfl) (by kernel_rfl) (fun _ _ _ h => h) (by rfl) ?_ hHeld ?_
        rotate_left 1
        · (intro w hSw; go_simp; try with_reducible rfl)
        simp only [Act.put, List.setIfInBounds_toArray, List.set_cons_succ, List.set_cons_zero]
        refine step_store 7 62 (w.heap.size + 1) [Value.slice a5 Sn.length c5, Value.slice a3 Tn.length c3] (by kernel_rfl) rfl rfl (by rfl) (by rfl) (by rfl) ?yf hH5.there sizeHist ?yg ⟨hHeld.1.others (by omega) _ _, hHeld.2.others (by omega) _ _⟩ ?_
        case yf => rfl
        case yg => intro v hv; simp at hv; rcases hv with rfl | rfl <;> rfl
        refine wpAnyH_done (by kernel_rfl) ?_ _
        have HL5 : Hid (OwnE stC 11 51 w5 (w.heap.size + 2) (Value.slice a5 Sn.length c5) Sn) := hL5
        clear hL5 hown' hown5 hgrow hHeld hN5
        go_wp2
        go_roundw
        case rel =>
          refine ⟨k + 1, _, _, hlt, by go_num, hR5.others (by omega) _ _, hH5.sets _ rfl, ?_, ?_, below_sets hB5 (w.heap.size + 1) (by omega) _ _⟩
          · rw [HRS.out, ← HSN.out]; exact OwnE.others (w.heap.size + 1) (by omega) _ _ _ HL5.out
          · rw [HRT.out]; exact OwnS.others (w.heap.size + 1) (by omega) _ _ _ (hO5.mono (by omega))
        case measure => simp [intOf]; omega
    · have hk' : k = l.length := by omega
      subst hk'
      rw [List.take_of_length_le (Nat.le_refl _)] at hL hT
      obtain ⟨aT, cT, rfl⟩ := hT.val
      obtain ⟨aL, cL, rfl, _, _⟩ := hL.val
      have h0 := hH.at 0 rfl
      have h1 := hH.at 1 rfl
      have r0 := hR.at 0 rfl
      have r1 := hR.at 1 rfl
      have rf := hR.frz
      go_wp2
      have hRf := hR.sets [Value.slice aL (Orangery.runS [] l).length cL, Value.slice aT (Orangery.runT [] l).length cT] rfl
      refine ret_cell_tmp Try.results66 rfl rfl (hRf.load Try.underlying62 rfl sizeHist) ?_
      have e1 := (OwnE.others w.heap.size (by omega) [Value.slice aL (Orangery.runS [] l).length cL, Value.slice aT (Orangery.runT [] l).length cT] 0 wr hL).mono (base' := w.heap.size) (by omega)
      have e2 := (OwnS.others w.heap.size (by omega) [Value.slice aL (Orangery.runS [] l).length cL, Value.slice aT (Orangery.runT [] l).length cT] 0 wr hT).mono (base' := w.heap.size) (by omega)
      exact ⟨_, _, rfl, e1, e2, below_sets hb w.heap.size (Nat.le_refl _) [Value.slice aL (Orangery.runS [] l).length cL, Value.slice aT (Orangery.runT [] l).length cT] 0⟩
end Go.Proofs.Ytphameoibnimmaa
