/- 1 texts of the proof: orangeryref.Folded. -/
import Derived.Test.YthlhnokgcnieeadGreatP12
import Derived.Test.YthlhnokgcnieeadGreatP13
import Derived.Test.YthlhnokgcnieeadGreatP07
import Derived.Test.YthlhnokgcnieeadGreatP09
/- orangeryref.Folded. -/
namespace Go.Proofs.YthlhnokgcnieeadGreat
open Go.ChangeShapes Go.WideShapes Go.ChangeAt Go.RowKit
open Orangery (Pl Mv Stp check checkOp firstE foldE foldL foldT noTwo srt rk lastR bestOk doE doT doS dT dS)

/-- places that lie in a block of places -/
def SlT (w : World) (base : Nat) (a : Option Addr) (l : List Pl) : Prop :=
  l = [] ∨ ∃ b off cur fr, base ≤ b ∧ a = some ⟨b, off, none⟩ ∧ w.heap[b]? = some (.cells cur 64 fr) ∧ PlsAt w b off l
theorem SlT.slp {w : World} {base : Nat} {a : Option Addr} {l : List Pl} (h : SlT w base a l) : SlP w a l := by
  rcases h with h | ⟨b, off, cur, fr, _, ha, hb, hp⟩
  · exact Or.inl h
  · exact Or.inr ⟨b, off, ha, blk_lt hb, hp⟩
theorem SlT.below {w w' : World} {base : Nat} {a : Option Addr} {l : List Pl} (h : SlT w base a l) (hb : Below w.heap.size w w') : SlT w' base a l := by
  rcases h with h | ⟨b, off, cur, fr, hbs, ha, hh, hp⟩
  · exact Or.inl h
  · have hlt := blk_lt hh
    refine Or.inr ⟨b, off, cur, fr, hbs, ha, by rw [hb.block _ hlt]; exact hh, fun i hi => ?_⟩
    rw [hb.cell hlt, hb.cell hlt, hb.cell hlt]
    exact hp i hi
theorem SlT.mono {w : World} {base base' : Nat} {a : Option Addr} {l : List Pl} (h : SlT w base a l) (hb : base' ≤ base) : SlT w base' a l := by
  rcases h with h | ⟨b, off, cur, fr, hbs, r⟩
  · exact Or.inl h
  · exact Or.inr ⟨b, off, cur, fr, Nat.le_trans hb hbs, r⟩
theorem OwnS.slt {w : World} {base n c : Nat} {a : Option Addr} {l : List Pl} (h : OwnS w base (.slice a n c) l) : SlT w base a l := by
  rcases h with ⟨_, rfl⟩ | ⟨g, cap, e, hb, _, _, _, hp, cur, hc, _⟩
  · exact Or.inl rfl
  · obtain ⟨rfl, _⟩ : a = _ ∧ _ := by simpa using e
    exact Or.inr ⟨g, 0, cur, _, hb, rfl, hc, hp.1⟩
theorem SlT.grown {w w' : World} {a : Option Addr} {l : List Pl} {base bs n : Nat} {v : Value} {xs : List Value} (h : SlT w bs a l) (hown : w.ownsRow base 95 11 v n xs) (hg : w.grownBy w' v.ownBlock) : SlT w' bs a l := by
  rcases h with h | ⟨b, off, cur, fr, hbs, ha, hh, hp⟩
  · exact Or.inl h
  · have hne : some b ≠ v.ownBlock := by
      rcases hown.2 with ⟨rfl, _⟩ | ⟨g, cap, cur', rfl, _, hg', _⟩
      · simp [Value.ownBlock]
      · intro e
        have e' : b = g := by simpa [Value.ownBlock] using e
        subst e'
        rw [hh] at hg'
        simp at hg'
    have hb := hg.block b (blk_lt hh) hne
    refine Or.inr ⟨b, off, cur, fr, hbs, ha, by rw [hb]; exact hh, fun i hi => ?_⟩
    rw [World.cell?_of_block (w := w) (w' := w') (a := ⟨b, off + i * 3, none⟩) hb, World.cell?_of_block (w := w) (w' := w') (a := ⟨b, off + i * 3 + 1, none⟩) hb, World.cell?_of_block (w := w) (w' := w') (a := ⟨b, off + i * 3 + 2, none⟩) hb]
    exact hp i hi
theorem SlT.other {w : World} {base : Nat} {a : Option Addr} {l : List Pl} (h : SlT w base a l) (g : Nat) (hg : g < base) (j : Nat) (u : Value) : SlT (w.setCell ⟨g, j, none⟩ u) base a l := by
  rcases h with h | ⟨b', off, cur, fr', hbs, ha, hh, hp⟩
  · exact Or.inl h
  · have hne : ¬ b' = g := by omega
    refine Or.inr ⟨b', off, cur, fr', hbs, ha, by rw [heap_setCell_other _ _ _ _ hne]; exact hh, fun i hi => ?_⟩
    rw [World.cell?_setCell_other _ _ _ _ (by simp <;> omega), World.cell?_setCell_other _ _ _ _ (by simp <;> omega), World.cell?_setCell_other _ _ _ _ (by simp <;> omega)]
    exact hp i hi
theorem SlT.others {base : Nat} {a : Option Addr} {l : List Pl} (g : Nat) (hg : g < base) : ∀ (us : List Value) (o : Nat) (w : World), SlT w base a l → SlT (w.setCells g o us) base a l
  | [], _, _, h => h
  | u :: us, o, _, h => SlT.others g hg us (o + 1) _ (h.other g hg o u)

theorem slt_end {w5 wf : World} {base base' n c' : Nat} {a' aT : Option Addr} {Tn Tk : List Pl} (hor : (a' = aT ∧ Tn = Tk) ∨ OwnS w5 base' (.slice a' n c') Tn) (hT : SlT wf base aT Tk) (hm : OwnS w5 base' (.slice a' n c') Tn → OwnS wf base' (.slice a' n c') Tn) (hb : base ≤ base') : SlT wf base a' Tn := by
  rcases hor with ⟨rfl, rfl⟩ | h
  · exact hT
  · exact (hm h).slt.mono hb

/-- what the reference's fold leaves -/
def RFolds (w : World) (L : List Stp) (T : List Pl) (E : Int) (e : Ending) (w' : World) : Prop :=
  ∃ vL aT cT, e = .returned (.tuple #[hiV vL (.slice aT T.length cT), .int .i64 E]) ∧ OwnE stC 11 95 w' w.heap.size vL L ∧ SlT w' w.heap.size aT T ∧ Below w.heap.size w w'
theorem rfolds_err {w w' : World} {L : List Stp} {T : List Pl} {E : Int} (hL : L = []) (hT : T = []) (hb : Below w.heap.size w w') :
    RFolds w L T E (.returned (.tuple #[.agg [Value.slice none 0 0, Value.slice none 0 0].toArray, .int .i64 E])) w' := by
  subst hL hT
  exact ⟨_, none, 0, rfl, OwnE.nil _ _, Or.inl rfl, hb⟩

/-- how many steps lie in a history's box -/
def hLen (W : World) (b : Nat) : Nat := lenOf ((W.cell? ⟨b, 0, none⟩).getD undef)

set_option maxHeartbeats 4000000 in
set_option maxRecDepth 100000 in
theorem rfold_any (w : World) (a : Option Addr) (c : Nat) (l : List Mv) (hl : l.length ≤ maxLen) (h : SlE opC w a l) :
    Calls Tryz.prog 76 #[.slice a l.length c] w fun e w' => RFolds w (foldL l) (foldT l) (foldE l) e w' := by
  obtain ⟨i0, hi, hz0, hz1, hz2⟩ := info_parts infoStep
  have hl' : l.length ≤ 9223372036854775807 := hl
  have HH : Hid (SlE opC w a l) := h
  clear h hl
  obtain ⟨W0, hW, hR, hB, hS⟩ := laid1 w [Value.slice none 0 0, Value.slice none 0 0] 27
  have HS0 : Hid (W0.heap.size = w.heap.size + 1) := hS
  clear hS
  by_cases hlen : l.length ≤ 30
  case neg =>
    have hd : decide ((l.length : Int) > 30) = true := by simp; omega
    have HE : Hid (foldE l = 2) := Orangery.foldE_many (by omega)
    have r0 := hR.at 0 rfl
    have r1 := hR.at 1 rfl
    have rf := hR.frz
    clear hlen
    go_enter Tryz.func76, Tryz.ntmps76
    go_wp2
    have hRf := hR.sets [Value.slice none 0 0, Value.slice none 0 0] rfl
    refine ret_cell_tmp Tryz.results76 rfl rfl (hRf.load Tryz.underlying27 rfl sizeHist) ?_
    rw [HE.out]
    have hz := Orangery.fold_err (l := l) (by rw [HE.out]; decide)
    exact rfolds_err hz.1 hz.2 (below_sets hB w.heap.size (Nat.le_refl _) [Value.slice none 0 0, Value.slice none 0 0] 0)
  case pos =>
    have hd : decide ((l.length : Int) > 30) = false := by simp; omega
    go_enter Tryz.func76, Tryz.ntmps76
    go_wp2
    clear hW
    go_loopw [20] (fun i W => ∃ k : Nat, k ≤ l.length ∧ i = .int .i64 k ∧ firstE (l.drop k) = firstE l ∧ Below W0.heap.size W0 W) (fun i _ => l.length - (intOf i).toNat)
    case atStart => exact ⟨0, Nat.zero_le _, rfl, rfl, Below.refl _ _⟩
    case round =>
      obtain ⟨k, hk, rfl, hf, hb⟩ := hrel
      have hR1 := hR.keep hb
      have hB1 : Below w.heap.size w wr := hB.trans (hb.mono hB.size)
      by_cases hlt : k < l.length
      · obtain ⟨b, off, rfl, hbl, hr⟩ := (HH.out.below hB1).at opC_len k hlt
        obtain ⟨g0, g1, g2, g3, g4, g5, g6⟩ := op_cells hr
        obtain ⟨s1, s2⟩ := Orangery.firstE_drop l k hlt hf
        have H1 : Hid (checkOp l[k] ≠ 0 → firstE l = checkOp l[k]) := s1
        have H2 : Hid (checkOp l[k] = 0 → firstE (l.drop (k + 1)) = firstE l) := s2
        clear s1 s2 hf hr
        generalize l[k] = o at *
        obtain ⟨o1, o2, ⟨o3, o4, o5⟩, o6, o7⟩ := o
        simp only at g0 g1 g2 g3 g4 g5 g6
        obtain ⟨W2, hW2, hN, hBn, _⟩ := laid1 wr [Value.int IntKind.i64 o1, Value.int IntKind.i64 o2, Value.int IntKind.i64 o3, Value.int IntKind.i64 o4, Value.int IntKind.i64 o5, Value.int IntKind.i64 o6, Value.int IntKind.i64 o7] 35
        have n0 := hN.at 0 rfl
        have n1 := hN.at 1 rfl
        have n2 := hN.at 2 rfl
        have n3 := hN.at 3 rfl
        have n4 := hN.at 4 rfl
        have n5 := hN.at 5 rfl
        have n6 := hN.at 6 rfl
        have hR2 := hR1.keep hBn
        have HB2 : Hid (Below W0.heap.size W0 W2) := hb.trans (hBn.mono hb.size)
        clear hR1 hB1 hb hBn hN
        go_wp2_with fail
        refine (refCheckOp_any W2 (o1, o2, (o3, o4, o5), o6, o7)).mono ?_
        rintro e w3 ⟨rfl, hb3⟩
        have hR3 := hR2.keep hb3
        have HB3 : Hid (Below W0.heap.size W0 w3) := HB2.out.trans (hb3.mono HB2.out.size)
        clear hR2 HB2 hb3 hW2 n0 n1 n2 n3 n4 n5 n6 g0 g1 g2 g3 g4 g5 g6
        by_cases hz : checkOp (o1, o2, (o3, o4, o5), o6, o7) = 0
        · have HE := H2.out hz
          have HEE : Hid (firstE (l.drop (k + 1)) = firstE l) := HE
          rw [hz]
          clear HE H1 H2 hz
          go_wp2
          go_roundw
          case rel => exact ⟨k + 1, hlt, by go_num, HEE.out, HB3.out⟩
          case measure => simp [intOf]; omega
        · have hz' : (checkOp (o1, o2, (o3, o4, o5), o6, o7) != 0) = true := by simpa using hz
          have HZ : Hid (checkOp (o1, o2, (o3, o4, o5), o6, o7) ≠ 0) := hz
          have HE : Hid (firstE l = checkOp (o1, o2, (o3, o4, o5), o6, o7)) := H1.out hz
          have r0 := hR3.at 0 rfl
          have r1 := hR3.at 1 rfl
          have rf := hR3.frz
          clear hz H1 H2
          generalize checkOp (o1, o2, (o3, o4, o5), o6, o7) = E at *
          go_wp2
          have hRf := hR3.sets [Value.slice none 0 0, Value.slice none 0 0] rfl
          refine ret_cell_tmp Tryz.results76 rfl rfl (hRf.load Tryz.underlying27 rfl sizeHist) ?_
          have e0 : foldE l = E := by rw [Orangery.foldE_first hlen (by rw [HE.out]; exact HZ.out), HE.out]
          rw [e0]
          have hzz := Orangery.fold_err (l := l) (by rw [e0]; exact HZ.out)
          exact rfolds_err hzz.1 hzz.2 (below_sets (hB.trans (HB3.out.mono hB.size)) w.heap.size (Nat.le_refl _) [Value.slice none 0 0, Value.slice none 0 0] 0)
      · have hk' : k = l.length := by omega
        subst hk'
        have hok0 : firstE l = 0 := by rw [← hf, List.drop_of_length_le (Nat.le_refl _)]; rfl
        have HOK0 : Hid (firstE l = 0) := hok0
        have HOK : Hid (∀ o ∈ l, checkOp o = 0) := (Orangery.firstE_zero l).1 hok0
        rename World => WR
        obtain ⟨W1, hW1, hH1, hBn, hS1⟩ := laid1 WR [Value.slice none 0 0, Value.slice none 0 0] 27
        have hR2 := hR1.keep hBn
        have hB2 : Below w.heap.size w W1 := hB1.trans (hBn.mono hB1.size)
        have hwr : w.heap.size + 1 ≤ WR.heap.size := hR1.lt
        obtain ⟨bh, hbh⟩ : ∃ bh, WR.heap.size = bh := ⟨_, rfl⟩
        rw [hbh] at hH1 hwr
        clear hf hok0 hb hR hB hB1 hR1 HS0 hBn hS1
        go_wp2
        clear hW1
        go_loopw [8] (fun x W => ∃ (k : Nat) (vL : Value) (aT : Option Addr) (cT : Nat), k ≤ (srt l).length ∧ x = .int .i64 (lastR (srt l) k) ∧ Blk W w.heap.size [Value.slice none 0 0, Value.slice none 0 0] ∧ Blk W bh [vL, .slice aT (Orangery.runT [] ((srt l).take k)).length cT] ∧ OwnE stC 11 95 W (bh + 1) vL (Orangery.runS [] ((srt l).take k)) ∧ SlT W (bh + 1) aT (Orangery.runT [] ((srt l).take k)) ∧ Below w.heap.size w W) (fun _ W => l.length - hLen W bh)
        case atStart => exact ⟨0, _, none, 0, Nat.zero_le _, by rw [Orangery.lastR_zero], hR2, hH1, OwnE.nil _ _, Or.inl rfl, hB2⟩
        case round =>
          clear hR2 hH1 hB2
          obtain ⟨k, vL, aT, cT, hk, rfl, hR, hH, hL, hT, hb⟩ := hrel
          rename World => WO
          obtain ⟨aL, cL, rfl, _, _⟩ := hL.val
          have hSk : (Orangery.runS [] ((srt l).take k)).length = k := by rw [Orangery.runS_len]; simp; omega
          have hsl := (Orangery.srt_len l).1
          have HT1 : Hid (∀ h : k < (srt l).length, (srt l).take (k + 1) = (srt l).take k ++ [(srt l)[k]]) := fun h => List.take_succ_eq_append_getElem h
          have HRT : Hid (∀ h : k < (srt l).length, Orangery.runT [] ((srt l).take (k + 1)) = dT (Orangery.runT [] ((srt l).take k)) (srt l)[k]) := fun h => by rw [HT1.out h, Orangery.runT_append]; rfl
          have HRS : Hid (∀ h : k < (srt l).length, Orangery.runS [] ((srt l).take (k + 1)) = Orangery.runS [] ((srt l).take k) ++ [dS (Orangery.runT [] ((srt l).take k)) (srt l)[k]]) := fun h => by rw [HT1.out h, Orangery.runS_append]; rfl
          have HCT : Hid (check (Orangery.runT [] ((srt l).take k)) = 0) := Orangery.runT_check _ _ Orangery.check_empty (fun o ho => HOK.out o (Orangery.srt_mem l o (List.mem_of_mem_take ho)))
          have HEND : Hid (k = l.length → foldE l = 0 ∧ foldL l = Orangery.runS [] ((srt l).take k) ∧ foldT l = Orangery.runT [] ((srt l).take k)) := fun e => by
            have hn := Orangery.noTwo_of_srt (l := l) (by omega)
            have e0 := Orangery.foldE_ok hlen HOK0.out hn
            obtain ⟨f1, f2, _⟩ := Orangery.fold_ok e0
            have e2 : (srt l).take k = srt l := List.take_of_length_le (by omega)
            rw [e2]
            exact ⟨e0, f1, f2⟩
          have HBAD : Hid (k < l.length → k = (srt l).length → foldE l = 6) := fun h1 h2 => Orangery.foldE_twice hlen HOK0.out (Orangery.twice_of_srt (by omega))
          generalize Orangery.runS [] ((srt l).take k) = Sk at *
          generalize Orangery.runT [] ((srt l).take k) = Tk at *
          have hh0 := hH.at 0 rfl
          have hh1 := hH.at 1 rfl
          by_cases hlt : k < l.length
          · have hd2 : decide ((Sk.length : Int) < (l.length : Int)) = true := by simp; omega
            obtain ⟨la, hla⟩ : ∃ la, lastR (srt l) k = la := ⟨_, rfl⟩
            have HLA : Hid (lastR (srt l) k = la) := hla
            rw [hla]
            clear hla
            go_wp2
            go_loopw [9, 39] (fun x i W => ∃ (n : Nat) (be : Int), n ≤ l.length ∧ x = .int .i64 be ∧ i = .int .i64 n ∧ bestOk l la n be ∧ Below WO.heap.size WO W) (fun _ i _ => l.length - (intOf i).toNat)
            case atStart => exact ⟨0, -1, Nat.zero_le _, rfl, rfl, Orangery.best_start l la, Below.refl _ _⟩
            case round =>
              obtain ⟨n, be, hn, rfl, rfl, hbe, hb2⟩ := hrel
              have hb3 : Below w.heap.size w wr := hb.trans (hb2.mono hb.size)
              by_cases hlt2 : n < l.length
              · obtain ⟨b, off, rfl, hbl, hr⟩ := (HH.out.below hb3).at opC_len n hlt2
                obtain ⟨g0, g1, g2, g3, g4, g5, g6⟩ := op_cells hr
                have hco := HOK.out l[n] (List.getElem_mem hlt2)
                have HBN : Hid (¬ la < rk l[n] → bestOk l la (n + 1) be) := fun h => Orangery.best_no hlt2 hbe h
                have HBF : Hid (be = -1 → la < rk l[n] → bestOk l la (n + 1) n) := fun e h => Orangery.best_first hlt2 (by rw [← e]; exact hbe) h
                have HBL : Hid (∀ j : Nat, ∀ hj : j < l.length, be = j → la < rk l[n] → rk l[n] < rk l[j] → bestOk l la (n + 1) n) := fun j hj e h h' => Orangery.best_less hlt2 hj (by rw [← e]; exact hbe) h h'
                have HBK : Hid (∀ j : Nat, ∀ hj : j < l.length, be = j → ¬ rk l[n] < rk l[j] → bestOk l la (n + 1) be) := fun j hj e h' => by rw [e]; exact Orangery.best_keep hlt2 hj (by rw [← e]; exact hbe) h'
                have hcs := Orangery.best_cases hbe
                clear hr hbe
                generalize l[n] = o at *
                have HRA : Hid (∀ W, Calls Tryz.prog 99 #[.agg #[.int .i64 o.1, .int .i64 o.2.1]] W fun e w' => e = .returned (.int .i64 (rk o)) ∧ Below W.heap.size W w') := fun W => rank_any W o hco
                generalize rk o = r at *
                obtain ⟨o1, o2, ⟨o3, o4, o5⟩, o6, o7⟩ := o
                simp only at g0 g1 g2 g3 g4 g5 g6 HRA
                obtain ⟨W3, hW3, hN, hBn, hS3⟩ := laid1 wr [Value.int IntKind.i64 o1, Value.int IntKind.i64 o2, Value.int IntKind.i64 o3, Value.int IntKind.i64 o4, Value.int IntKind.i64 o5, Value.int IntKind.i64 o6, Value.int IntKind.i64 o7] 35
                have HB3 : Hid (Below WO.heap.size WO W3) := hb2.trans (hBn.mono hb2.size)
                have HW3 : Hid (Below w.heap.size w W3) := hb3.trans (hBn.mono hb3.size)
                clear hb2 hb3 hBn hS3
                go_upto_region 17 with fail
                clear hW3 g0 g1 g2 g3 g4 g5 g6
                have hS' : Below W3.heap.size W3 W3.drew := (Below.refl _ W3).drew
                have HBK0 : Hid (Blk W3 wr.heap.size [Value.int IntKind.i64 o1, Value.int IntKind.i64 o2, Value.int IntKind.i64 o3, Value.int IntKind.i64 o4, Value.int IntKind.i64 o5, Value.int IntKind.i64 o6, Value.int IntKind.i64 o7]) := hN
                clear hN
                by_cases hgt : la < r
                · have d1 : decide (r > la) = true := by simpa using hgt
                  rcases hcs with rfl | ⟨j, rfl, hj⟩
                  · skip
                    have KEEP : Hid (∀ w', Below W3.heap.size W3 w' → w'.cell? ⟨wr.heap.size, 0, none⟩ = some (.int .i64 o1) ∧ w'.cell? ⟨wr.heap.size, 1, none⟩ = some (.int .i64 o2)) := fun w' h => ⟨(HBK0.out.keep h).at 0 rfl, (HBK0.out.keep h).at 1 rfl⟩
                    refine wp_region_held_drew (S := fun w' => w'.cell? ⟨wr.heap.size, 0, none⟩ = some (.int .i64 o1) ∧ w'.cell? ⟨wr.heap.size, 1, none⟩ = some (.int .i64 o2)) (by kernel_rfl) (KEEP.out _ hS') (fun hHeld => ?_)
                    refine take_yes 0 44 (v := ?_) rfl rfl (by kernel_rfl) (by kernel_rfl) (by kernel_rfl) (fun _ _ _ h => h) (by rfl) ?_ (by assumption) ?_
                    rotate_left 1
                    · (intro w hSw; (try dsimp only at hSw); go_simp; try with_reducible rfl)
                    simp only [Act.put, List.setIfInBounds_toArray, List.set_cons_succ, List.set_cons_zero]
                    refine take_yes 1 45 (v := ?_) rfl rfl (by kernel_rfl) (by kernel_rfl) (by kernel_rfl) (fun _ _ _ h => h) (by rfl) ?_ (by assumption) ?_
                    rotate_left 1
                    · (intro w hSw; (try dsimp only at hSw); go_simp; try with_reducible rfl)
                    simp only [Act.put, List.setIfInBounds_toArray, List.set_cons_succ, List.set_cons_zero]
                    refine take_yes 3 47 (v := ?_) rfl rfl (by kernel_rfl) (by kernel_rfl) (by kernel_rfl) (fun _ _ _ h => h) (by rfl) ?_ (by assumption) ?_
                    rotate_left 1
                    · (intro w hSw; (try dsimp only at hSw); go_simp; try with_reducible rfl)
                    simp only [Act.put, List.setIfInBounds_toArray, List.set_cons_succ, List.set_cons_zero]
                    refine wpAnyH_ready (rs := [2]) (by kernel_rfl) (by simp) ?_
                    refine AllReadyH.cons rfl (fun K hK => ?_) AllReadyH.nil
                    go_simp
                    refine (HRA.out _).mono ?_
                    rintro e wn ⟨rfl, hb⟩
                    have hS' : Below W3.heap.size W3 wn := Below.trans hS' (hb.mono (Below.size hS'))
                    go_wp2_with fail
                    refine hK.out _ _ ?_ (fun hHeld => ?_)
                    · (try dsimp only); exact KEEP.out _ hS'
                    clear hK K
                    refine take_yes 4 48 (v := ?_) rfl rfl (by kernel_rfl) (by kernel_rfl) (by kernel_rfl) (fun _ _ _ h => h) (by rfl) ?_ (by assumption) ?_
                    rotate_left 1
                    · (intro w hSw; (try dsimp only at hSw); go_simp; try with_reducible rfl)
                    simp only [Act.put, List.setIfInBounds_toArray, List.set_cons_succ, List.set_cons_zero]
                    refine take_yes 5 49 (v := ?_) rfl rfl (by kernel_rfl) (by kernel_rfl) (by kernel_rfl) (fun _ _ _ h => h) (by rfl) ?_ (by assumption) ?_
                    rotate_left 1
                    · (intro w hSw; (try dsimp only at hSw); go_simp; try with_reducible rfl)
                    simp only [Act.put, List.setIfInBounds_toArray, List.set_cons_succ, List.set_cons_zero]
                    refine take_yes 6 50 (v := ?_) rfl rfl (by kernel_rfl) (by kernel_rfl) (by kernel_rfl) (fun _ _ _ h => h) (by rfl) ?_ (by assumption) ?_
                    rotate_left 1
                    · (intro w hSw; (try dsimp only at hSw); go_simp; try with_reducible rfl)
                    simp only [Act.put, List.setIfInBounds_toArray, List.set_cons_succ, List.set_cons_zero]
                    refine take_yes 7 51 (v := ?_) rfl rfl (by kernel_rfl) (by kernel_rfl) (by kernel_rfl) (fun _ _ _ h => h) (by rfl) ?_ (by assumption) ?_
                    rotate_left 1
                    · (intro w hSw; (try dsimp only at hSw); go_simp; try with_reducible rfl)
                    simp only [Act.put, List.setIfInBounds_toArray, List.set_cons_succ, List.set_cons_zero]
                    refine take_yes 8 52 (v := ?_) rfl rfl (by kernel_rfl) (by kernel_rfl) (by kernel_rfl) (fun _ _ _ h => h) (by rfl) ?_ (by assumption) ?_
                    rotate_left 1
                    · (intro w hSw; (try dsimp only at hSw); go_simp; try with_reducible rfl)
                    simp only [Act.put, List.setIfInBounds_toArray, List.set_cons_succ, List.set_cons_zero]
                    refine take_no 9 53 rfl rfl (by kernel_rfl) (by kernel_rfl) (by kernel_rfl) (fun _ _ _ h => h) (by rfl) (by assumption) ?_
                    simp only [Act.put, List.setIfInBounds_toArray, List.set_cons_succ, List.set_cons_zero]
                    refine take_no 10 54 rfl rfl (by kernel_rfl) (by kernel_rfl) (by kernel_rfl) (fun _ _ _ h => h) (by rfl) (by assumption) ?_
                    simp only [Act.put, List.setIfInBounds_toArray, List.set_cons_succ, List.set_cons_zero]
                    refine take_no 12 56 rfl rfl (by kernel_rfl) (by kernel_rfl) (by kernel_rfl) (fun _ _ _ h => h) (by rfl) (by assumption) ?_
                    simp only [Act.put, List.setIfInBounds_toArray, List.set_cons_succ, List.set_cons_zero]
                    refine take_no 13 57 rfl rfl (by kernel_rfl) (by kernel_rfl) (by kernel_rfl) (fun _ _ _ h => h) (by rfl) (by assumption) ?_
                    simp only [Act.put, List.setIfInBounds_toArray, List.set_cons_succ, List.set_cons_zero]
                    refine take_no 14 58 rfl rfl (by kernel_rfl) (by kernel_rfl) (by kernel_rfl) (fun _ _ _ h => h) (by rfl) (by assumption) ?_
                    simp only [Act.put, List.setIfInBounds_toArray, List.set_cons_succ, List.set_cons_zero]
                    refine take_no 15 59 rfl rfl (by kernel_rfl) (by kernel_rfl) (by kernel_rfl) (fun _ _ _ h => h) (by rfl) (by assumption) ?_
                    simp only [Act.put, List.setIfInBounds_toArray, List.set_cons_succ, List.set_cons_zero]
                    refine take_no 16 60 rfl rfl (by kernel_rfl) (by kernel_rfl) (by kernel_rfl) (fun _ _ _ h => h) (by rfl) (by assumption) ?_
                    simp only [Act.put, List.setIfInBounds_toArray, List.set_cons_succ, List.set_cons_zero]
                    refine take_no 11 55 rfl rfl (by kernel_rfl) (by kernel_rfl) (by kernel_rfl) (fun _ _ _ h => h) (by rfl) (by assumption) ?_
                    simp only [Act.put, List.setIfInBounds_toArray, List.set_cons_succ, List.set_cons_zero]
                    refine take_no 17 61 rfl rfl (by kernel_rfl) (by kernel_rfl) (by kernel_rfl) (fun _ _ _ h => h) (by rfl) (by assumption) ?_
                    simp only [Act.put, List.setIfInBounds_toArray, List.set_cons_succ, List.set_cons_zero]
                    refine take_no 18 62 rfl rfl (by kernel_rfl) (by kernel_rfl) (by kernel_rfl) (fun _ _ _ h => h) (by rfl) (by assumption) ?_
                    simp only [Act.put, List.setIfInBounds_toArray, List.set_cons_succ, List.set_cons_zero]
                    refine take_yes 19 63 (v := ?_) rfl rfl (by kernel_rfl) (by kernel_rfl) (by kernel_rfl) (fun _ _ _ h => h) (by rfl) ?_ (by assumption) ?_
                    rotate_left 1
                    · (intro w hSw; (try dsimp only at hSw); go_simp; try with_reducible rfl)
                    simp only [Act.put, List.setIfInBounds_toArray, List.set_cons_succ, List.set_cons_zero]
                    refine take_yes 20 64 (v := ?_) rfl rfl (by kernel_rfl) (by kernel_rfl) (by kernel_rfl) (fun _ _ _ h => h) (by rfl) ?_ (by assumption) ?_
                    rotate_left 1
                    · (intro w hSw; (try dsimp only at hSw); go_simp; try with_reducible rfl)
                    simp only [Act.put, List.setIfInBounds_toArray, List.set_cons_succ, List.set_cons_zero]
                    refine wpAnyH_done (by kernel_rfl) ?_ _
                    have HE : Hid (bestOk l la (n + 1) n) := HBF.out (by first | rfl | trivial) hgt
                    clear HBN HBF HBL HBK
                    go_wp2
                    go_roundw
                    case rel => exact ⟨n + 1, n, hlt2, rfl, by go_num, HE.out, HB3.out.trans (hS'.mono HB3.out.size)⟩
                    case measure => simp [intOf]; omega
                  · skip
                    obtain ⟨b', off', e', _, hr'⟩ := (HH.out.below HW3.out).at opC_len j hj
                    obtain ⟨rfl, rfl⟩ : b = b' ∧ off = off' := by simpa using e'
                    have hbW : b < W3.heap.size := by have := HW3.out.size; omega
                    have hcj := HOK.out l[j] (List.getElem_mem hj)
                    have HRJ : Hid (∀ W, Calls Tryz.prog 99 #[.agg #[.int .i64 l[j].1, .int .i64 l[j].2.1]] W fun e w' => e = .returned (.int .i64 (rk l[j])) ∧ Below W.heap.size W w') := fun W => rank_any W l[j] hcj
                    have HJ0 : Hid (∀ w', Below W3.heap.size W3 w' → w'.cell? ⟨b, off + j * 7, none⟩ = some (.int .i64 l[j].1)) := fun w' h => by rw [h.cell (by exact hbW)]; exact (op_cells hr').1
                    have HJ1 : Hid (∀ w', Below W3.heap.size W3 w' → w'.cell? ⟨b, off + j * 7 + 1, none⟩ = some (.int .i64 l[j].2.1)) := fun w' h => by rw [h.cell (by exact hbW)]; exact (op_cells hr').2.1
                    have HBL2 := HBL.out j hj rfl hgt
                    have HBK2 := HBK.out j hj rfl
                    have HL2 : Hid (r < rk l[j] → bestOk l la (n + 1) n) := HBL2
                    have HK2 : Hid (¬ r < rk l[j] → bestOk l la (n + 1) j) := HBK2
                    have hj1 : (j : Int) < (l.length : Int) := by omega
                    have d2 : decide ((j : Int) < 0) = false := by simp <;> omega
                    clear hr' e' hcj HBL HBK HBN HBF HBL2 HBK2
                    generalize l[j].1 = t1 at *
                    generalize l[j].2.1 = t2 at *
                    generalize rk l[j] = rj at *
                    by_cases hls : r < rj
                    · have d3 : decide (r < rj) = true := by simpa using hls
                      have KEEP : Hid (∀ w', Below W3.heap.size W3 w' → w'.cell? ⟨wr.heap.size, 0, none⟩ = some (.int .i64 o1) ∧ w'.cell? ⟨wr.heap.size, 1, none⟩ = some (.int .i64 o2) ∧ w'.cell? ⟨b, off + j * 7, none⟩ = some (.int .i64 t1) ∧ w'.cell? ⟨b, off + j * 7 + 1, none⟩ = some (.int .i64 t2)) := fun w' h => ⟨(HBK0.out.keep h).at 0 rfl, (HBK0.out.keep h).at 1 rfl, HJ0.out w' h, HJ1.out w' h⟩
                      refine wp_region_held_drew (S := fun w' => w'.cell? ⟨wr.heap.size, 0, none⟩ = some (.int .i64 o1) ∧ w'.cell? ⟨wr.heap.size, 1, none⟩ = some (.int .i64 o2) ∧ w'.cell? ⟨b, off + j * 7, none⟩ = some (.int .i64 t1) ∧ w'.cell? ⟨b, off + j * 7 + 1, none⟩ = some (.int .i64 t2)) (by kernel_rfl) (KEEP.out _ hS') (fun hHeld => ?_)
                      refine take_yes 0 44 (v := ?_) rfl rfl (by kernel_rfl) (by kernel_rfl) (by kernel_rfl) (fun _ _ _ h => h) (by rfl) ?_ (by assumption) ?_
                      rotate_left 1
                      · (intro w hSw; (try dsimp only at hSw); go_simp; try with_reducible rfl)
                      simp only [Act.put, List.setIfInBounds_toArray, List.set_cons_succ, List.set_cons_zero]
                      refine take_yes 1 45 (v := ?_) rfl rfl (by kernel_rfl) (by kernel_rfl) (by kernel_rfl) (fun _ _ _ h => h) (by rfl) ?_ (by assumption) ?_
                      rotate_left 1
                      · (intro w hSw; (try dsimp only at hSw); go_simp; try with_reducible rfl)
                      simp only [Act.put, List.setIfInBounds_toArray, List.set_cons_succ, List.set_cons_zero]
                      refine take_yes 3 47 (v := ?_) rfl rfl (by kernel_rfl) (by kernel_rfl) (by kernel_rfl) (fun _ _ _ h => h) (by rfl) ?_ (by assumption) ?_
                      rotate_left 1
                      · (intro w hSw; (try dsimp only at hSw); go_simp; try with_reducible rfl)
                      simp only [Act.put, List.setIfInBounds_toArray, List.set_cons_succ, List.set_cons_zero]
                      refine wpAnyH_ready (rs := [2]) (by kernel_rfl) (by simp) ?_
                      refine AllReadyH.cons rfl (fun K hK => ?_) AllReadyH.nil
                      go_simp
                      refine (HRA.out _).mono ?_
                      rintro e wn ⟨rfl, hb⟩
                      have hS' : Below W3.heap.size W3 wn := Below.trans hS' (hb.mono (Below.size hS'))
                      go_wp2_with fail
                      refine hK.out _ _ ?_ (fun hHeld => ?_)
                      · (try dsimp only); exact KEEP.out _ hS'
                      clear hK K
                      refine take_yes 4 48 (v := ?_) rfl rfl (by kernel_rfl) (by kernel_rfl) (by kernel_rfl) (fun _ _ _ h => h) (by rfl) ?_ (by assumption) ?_
                      rotate_left 1
                      · (intro w hSw; (try dsimp only at hSw); go_simp; try with_reducible rfl)
                      simp only [Act.put, List.setIfInBounds_toArray, List.set_cons_succ, List.set_cons_zero]
                      refine take_yes 5 49 (v := ?_) rfl rfl (by kernel_rfl) (by kernel_rfl) (by kernel_rfl) (fun _ _ _ h => h) (by rfl) ?_ (by assumption) ?_
                      rotate_left 1
                      · (intro w hSw; (try dsimp only at hSw); go_simp; try with_reducible rfl)
                      simp only [Act.put, List.setIfInBounds_toArray, List.set_cons_succ, List.set_cons_zero]
                      refine take_yes 6 50 (v := ?_) rfl rfl (by kernel_rfl) (by kernel_rfl) (by kernel_rfl) (fun _ _ _ h => h) (by rfl) ?_ (by assumption) ?_
                      rotate_left 1
                      · (intro w hSw; (try dsimp only at hSw); go_simp; try with_reducible rfl)
                      simp only [Act.put, List.setIfInBounds_toArray, List.set_cons_succ, List.set_cons_zero]
                      refine take_yes 7 51 (v := ?_) rfl rfl (by kernel_rfl) (by kernel_rfl) (by kernel_rfl) (fun _ _ _ h => h) (by rfl) ?_ (by assumption) ?_
                      rotate_left 1
                      · (intro w hSw; (try dsimp only at hSw); go_simp; try with_reducible rfl)
                      simp only [Act.put, List.setIfInBounds_toArray, List.set_cons_succ, List.set_cons_zero]
                      refine take_yes 8 52 (v := ?_) rfl rfl (by kernel_rfl) (by kernel_rfl) (by kernel_rfl) (fun _ _ _ h => h) (by rfl) ?_ (by assumption) ?_
                      rotate_left 1
                      · (intro w hSw; (try dsimp only at hSw); go_simp; try with_reducible rfl)
                      simp only [Act.put, List.setIfInBounds_toArray, List.set_cons_succ, List.set_cons_zero]
                      refine take_yes 9 53 (v := ?_) rfl rfl (by kernel_rfl) (by kernel_rfl) (by kernel_rfl) (fun _ _ _ h => h) (by rfl) ?_ (by assumption) ?_
                      rotate_left 1
                      · (intro w hSw; (try dsimp only at hSw); go_simp; try with_reducible rfl)
                      simp only [Act.put, List.setIfInBounds_toArray, List.set_cons_succ, List.set_cons_zero]
                      refine take_yes 10 54 (v := ?_) rfl rfl (by kernel_rfl) (by kernel_rfl) (by kernel_rfl) (fun _ _ _ h => h) (by rfl) ?_ (by assumption) ?_
                      rotate_left 1
                      · (intro w hSw; (try dsimp only at hSw); go_simp; try with_reducible rfl)
                      simp only [Act.put, List.setIfInBounds_toArray, List.set_cons_succ, List.set_cons_zero]
                      refine take_yes 12 56 (v := ?_) rfl rfl (by kernel_rfl) (by kernel_rfl) (by kernel_rfl) (fun _ _ _ h => h) (by rfl) ?_ (by assumption) ?_
                      rotate_left 1
                      · (intro w hSw; (try dsimp only at hSw); go_simp; try with_reducible rfl)
                      simp only [Act.put, List.setIfInBounds_toArray, List.set_cons_succ, List.set_cons_zero]
                      refine take_yes 13 57 (v := ?_) rfl rfl (by kernel_rfl) (by kernel_rfl) (by kernel_rfl) (fun _ _ _ h => h) (by rfl) ?_ (by assumption) ?_
                      rotate_left 1
                      · (intro w hSw; (try dsimp only at hSw); go_simp; try with_reducible rfl)
                      simp only [Act.put, List.setIfInBounds_toArray, List.set_cons_succ, List.set_cons_zero]
                      refine take_yes 14 58 (v := ?_) rfl rfl (by kernel_rfl) (by kernel_rfl) (by kernel_rfl) (fun _ _ _ h => h) (by rfl) ?_ (by assumption) ?_
                      rotate_left 1
                      · (intro w hSw; (try dsimp only at hSw); go_simp; try with_reducible rfl)
                      simp only [Act.put, List.setIfInBounds_toArray, List.set_cons_succ, List.set_cons_zero]
                      refine take_yes 15 59 (v := ?_) rfl rfl (by kernel_rfl) (by kernel_rfl) (by kernel_rfl) (fun _ _ _ h => h) (by rfl) ?_ (by assumption) ?_
                      rotate_left 1
                      · (intro w hSw; (try dsimp only at hSw); go_simp; try with_reducible rfl)
                      simp only [Act.put, List.setIfInBounds_toArray, List.set_cons_succ, List.set_cons_zero]
                      refine take_yes 16 60 (v := ?_) rfl rfl (by kernel_rfl) (by kernel_rfl) (by kernel_rfl) (fun _ _ _ h => h) (by rfl) ?_ (by assumption) ?_
                      rotate_left 1
                      · (intro w hSw; (try dsimp only at hSw); go_simp; try with_reducible rfl)
                      simp only [Act.put, List.setIfInBounds_toArray, List.set_cons_succ, List.set_cons_zero]
                      refine wpAnyH_ready (rs := [11]) (by kernel_rfl) (by simp) ?_
                      refine AllReadyH.cons rfl (fun K hK => ?_) AllReadyH.nil
                      go_simp
                      refine (HRA.out _).mono ?_
                      rintro e wn ⟨rfl, hb⟩
                      have hS' : Below W3.heap.size W3 wn := Below.trans hS' (hb.mono (Below.size hS'))
                      go_wp2_with fail
                      refine hK.out _ _ ?_ (fun hHeld => ?_)
                      · (try dsimp only); exact KEEP.out _ hS'
                      clear hK K
                      refine wpAnyH_ready (rs := [17]) (by kernel_rfl) (by simp) ?_
                      refine AllReadyH.cons rfl (fun K hK => ?_) AllReadyH.nil
                      go_simp
                      refine (HRJ.out _).mono ?_
                      rintro e wn ⟨rfl, hb⟩
                      have hS' : Below W3.heap.size W3 wn := Below.trans hS' (hb.mono (Below.size hS'))
                      go_wp2_with fail
                      refine hK.out _ _ ?_ (fun hHeld => ?_)
                      · (try dsimp only); exact KEEP.out _ hS'
                      clear hK K
                      refine take_yes 18 62 (v := ?_) rfl rfl (by kernel_rfl) (by kernel_rfl) (by kernel_rfl) (fun _ _ _ h => h) (by rfl) ?_ (by assumption) ?_
                      rotate_left 1
                      · (intro w hSw; (try dsimp only at hSw); go_simp; try with_reducible rfl)
                      simp only [Act.put, List.setIfInBounds_toArray, List.set_cons_succ, List.set_cons_zero]
                      refine take_yes 19 63 (v := ?_) rfl rfl (by kernel_rfl) (by kernel_rfl) (by kernel_rfl) (fun _ _ _ h => h) (by rfl) ?_ (by assumption) ?_
                      rotate_left 1
                      · (intro w hSw; (try dsimp only at hSw); go_simp; try with_reducible rfl)
                      simp only [Act.put, List.setIfInBounds_toArray, List.set_cons_succ, List.set_cons_zero]
                      refine take_yes 20 64 (v := ?_) rfl rfl (by kernel_rfl) (by kernel_rfl) (by kernel_rfl) (fun _ _ _ h => h) (by rfl) ?_ (by assumption) ?_
                      rotate_left 1
                      · (intro w hSw; (try dsimp only at hSw); go_simp; try with_reducible rfl)
                      simp only [Act.put, List.setIfInBounds_toArray, List.set_cons_succ, List.set_cons_zero]
                      refine wpAnyH_done (by kernel_rfl) ?_ _
                      have HE : Hid (bestOk l la (n + 1) n) := HL2.out hls
                      clear HL2 HK2
                      go_wp2
                      go_roundw
                      case rel => exact ⟨n + 1, n, hlt2, rfl, by go_num, HE.out, HB3.out.trans (hS'.mono HB3.out.size)⟩
                      case measure => simp [intOf]; omega
                    · have d3 : decide (r < rj) = false := by simpa using hls
                      have KEEP : Hid (∀ w', Below W3.heap.size W3 w' → w'.cell? ⟨wr.heap.size, 0, none⟩ = some (.int .i64 o1) ∧ w'.cell? ⟨wr.heap.size, 1, none⟩ = some (.int .i64 o2) ∧ w'.cell? ⟨b, off + j * 7, none⟩ = some (.int .i64 t1) ∧ w'.cell? ⟨b, off + j * 7 + 1, none⟩ = some (.int .i64 t2)) := fun w' h => ⟨(HBK0.out.keep h).at 0 rfl, (HBK0.out.keep h).at 1 rfl, HJ0.out w' h, HJ1.out w' h⟩
                      refine wp_region_held_drew (S := fun w' => w'.cell? ⟨wr.heap.size, 0, none⟩ = some (.int .i64 o1) ∧ w'.cell? ⟨wr.heap.size, 1, none⟩ = some (.int .i64 o2) ∧ w'.cell? ⟨b, off + j * 7, none⟩ = some (.int .i64 t1) ∧ w'.cell? ⟨b, off + j * 7 + 1, none⟩ = some (.int .i64 t2)) (by kernel_rfl) (KEEP.out _ hS') (fun hHeld => ?_)
                      refine take_yes 0 44 (v := ?_) rfl rfl (by kernel_rfl) (by kernel_rfl) (by kernel_rfl) (fun _ _ _ h => h) (by rfl) ?_ (by assumption) ?_
                      rotate_left 1
                      · (intro w hSw; (try dsimp only at hSw); go_simp; try with_reducible rfl)
                      simp only [Act.put, List.setIfInBounds_toArray, List.set_cons_succ, List.set_cons_zero]
                      refine take_yes 1 45 (v := ?_) rfl rfl (by kernel_rfl) (by kernel_rfl) (by kernel_rfl) (fun _ _ _ h => h) (by rfl) ?_ (by assumption) ?_
                      rotate_left 1
                      · (intro w hSw; (try dsimp only at hSw); go_simp; try with_reducible rfl)
                      simp only [Act.put, List.setIfInBounds_toArray, List.set_cons_succ, List.set_cons_zero]
                      refine take_yes 3 47 (v := ?_) rfl rfl (by kernel_rfl) (by kernel_rfl) (by kernel_rfl) (fun _ _ _ h => h) (by rfl) ?_ (by assumption) ?_
                      rotate_left 1
                      · (intro w hSw; (try dsimp only at hSw); go_simp; try with_reducible rfl)
                      simp only [Act.put, List.setIfInBounds_toArray, List.set_cons_succ, List.set_cons_zero]
                      refine wpAnyH_ready (rs := [2]) (by kernel_rfl) (by simp) ?_
                      refine AllReadyH.cons rfl (fun K hK => ?_) AllReadyH.nil
                      go_simp
                      refine (HRA.out _).mono ?_
                      rintro e wn ⟨rfl, hb⟩
                      have hS' : Below W3.heap.size W3 wn := Below.trans hS' (hb.mono (Below.size hS'))
                      go_wp2_with fail
                      refine hK.out _ _ ?_ (fun hHeld => ?_)
                      · (try dsimp only); exact KEEP.out _ hS'
                      clear hK K
                      refine take_yes 4 48 (v := ?_) rfl rfl (by kernel_rfl) (by kernel_rfl) (by kernel_rfl) (fun _ _ _ h => h) (by rfl) ?_ (by assumption) ?_
                      rotate_left 1
                      · (intro w hSw; (try dsimp only at hSw); go_simp; try with_reducible rfl)
                      simp only [Act.put, List.setIfInBounds_toArray, List.set_cons_succ, List.set_cons_zero]
                      refine take_yes 5 49 (v := ?_) rfl rfl (by kernel_rfl) (by kernel_rfl) (by kernel_rfl) (fun _ _ _ h => h) (by rfl) ?_ (by assumption) ?_
                      rotate_left 1
                      · (intro w hSw; (try dsimp only at hSw); go_simp; try with_reducible rfl)
                      simp only [Act.put, List.setIfInBounds_toArray, List.set_cons_succ, List.set_cons_zero]
                      refine take_yes 6 50 (v := ?_) rfl rfl (by kernel_rfl) (by kernel_rfl) (by kernel_rfl) (fun _ _ _ h => h) (by rfl) ?_ (by assumption) ?_
                      rotate_left 1
                      · (intro w hSw; (try dsimp only at hSw); go_simp; try with_reducible rfl)
                      simp only [Act.put, List.setIfInBounds_toArray, List.set_cons_succ, List.set_cons_zero]
                      refine take_yes 7 51 (v := ?_) rfl rfl (by kernel_rfl) (by kernel_rfl) (by kernel_rfl) (fun _ _ _ h => h) (by rfl) ?_ (by assumption) ?_
                      rotate_left 1
                      · (intro w hSw; (try dsimp only at hSw); go_simp; try with_reducible rfl)
                      simp only [Act.put, List.setIfInBounds_toArray, List.set_cons_succ, List.set_cons_zero]
                      refine take_yes 8 52 (v := ?_) rfl rfl (by kernel_rfl) (by kernel_rfl) (by kernel_rfl) (fun _ _ _ h => h) (by rfl) ?_ (by assumption) ?_
                      rotate_left 1
                      · (intro w hSw; (try dsimp only at hSw); go_simp; try with_reducible rfl)
                      simp only [Act.put, List.setIfInBounds_toArray, List.set_cons_succ, List.set_cons_zero]
                      refine take_yes 9 53 (v := ?_) rfl rfl (by kernel_rfl) (by kernel_rfl) (by kernel_rfl) (fun _ _ _ h => h) (by rfl) ?_ (by assumption) ?_
                      rotate_left 1
                      · (intro w hSw; (try dsimp only at hSw); go_simp; try with_reducible rfl)
                      simp only [Act.put, List.setIfInBounds_toArray, List.set_cons_succ, List.set_cons_zero]
                      refine take_yes 10 54 (v := ?_) rfl rfl (by kernel_rfl) (by kernel_rfl) (by kernel_rfl) (fun _ _ _ h => h) (by rfl) ?_ (by assumption) ?_
                      rotate_left 1
                      · (intro w hSw; (try dsimp only at hSw); go_simp; try with_reducible rfl)
                      simp only [Act.put, List.setIfInBounds_toArray, List.set_cons_succ, List.set_cons_zero]
                      refine take_yes 12 56 (v := ?_) rfl rfl (by kernel_rfl) (by kernel_rfl) (by kernel_rfl) (fun _ _ _ h => h) (by rfl) ?_ (by assumption) ?_
                      rotate_left 1
                      · (intro w hSw; (try dsimp only at hSw); go_simp; try with_reducible rfl)
                      simp only [Act.put, List.setIfInBounds_toArray, List.set_cons_succ, List.set_cons_zero]
                      refine take_yes 13 57 (v := ?_) rfl rfl (by kernel_rfl) (by kernel_rfl) (by kernel_rfl) (fun _ _ _ h => h) (by rfl) ?_ (by assumption) ?_
                      rotate_left 1
                      · (intro w hSw; (try dsimp only at hSw); go_simp; try with_reducible rfl)
                      simp only [Act.put, List.setIfInBounds_toArray, List.set_cons_succ, List.set_cons_zero]
                      refine take_yes 14 58 (v := ?_) rfl rfl (by kernel_rfl) (by kernel_rfl) (by kernel_rfl) (fun _ _ _ h => h) (by rfl) ?_ (by assumption) ?_
                      rotate_left 1
                      · (intro w hSw; (try dsimp only at hSw); go_simp; try with_reducible rfl)
                      simp only [Act.put, List.setIfInBounds_toArray, List.set_cons_succ, List.set_cons_zero]
                      refine take_yes 15 59 (v := ?_) rfl rfl (by kernel_rfl) (by kernel_rfl) (by kernel_rfl) (fun _ _ _ h => h) (by rfl) ?_ (by assumption) ?_
                      rotate_left 1
                      · (intro w hSw; (try dsimp only at hSw); go_simp; try with_reducible rfl)
                      simp only [Act.put, List.setIfInBounds_toArray, List.set_cons_succ, List.set_cons_zero]
                      refine take_yes 16 60 (v := ?_) rfl rfl (by kernel_rfl) (by kernel_rfl) (by kernel_rfl) (fun _ _ _ h => h) (by rfl) ?_ (by assumption) ?_
                      rotate_left 1
                      · (intro w hSw; (try dsimp only at hSw); go_simp; try with_reducible rfl)
                      simp only [Act.put, List.setIfInBounds_toArray, List.set_cons_succ, List.set_cons_zero]
                      refine wpAnyH_ready (rs := [11]) (by kernel_rfl) (by simp) ?_
                      refine AllReadyH.cons rfl (fun K hK => ?_) AllReadyH.nil
                      go_simp
                      refine (HRA.out _).mono ?_
                      rintro e wn ⟨rfl, hb⟩
                      have hS' : Below W3.heap.size W3 wn := Below.trans hS' (hb.mono (Below.size hS'))
                      go_wp2_with fail
                      refine hK.out _ _ ?_ (fun hHeld => ?_)
                      · (try dsimp only); exact KEEP.out _ hS'
                      clear hK K
                      refine wpAnyH_ready (rs := [17]) (by kernel_rfl) (by simp) ?_
                      refine AllReadyH.cons rfl (fun K hK => ?_) AllReadyH.nil
                      go_simp
                      refine (HRJ.out _).mono ?_
                      rintro e wn ⟨rfl, hb⟩
                      have hS' : Below W3.heap.size W3 wn := Below.trans hS' (hb.mono (Below.size hS'))
                      go_wp2_with fail
                      refine hK.out _ _ ?_ (fun hHeld => ?_)
                      · (try dsimp only); exact KEEP.out _ hS'
                      clear hK K
                      refine take_yes 18 62 (v := ?_) rfl rfl (by kernel_rfl) (by kernel_rfl) (by kernel_rfl) (fun _ _ _ h => h) (by rfl) ?_ (by assumption) ?_
                      rotate_left 1
                      · (intro w hSw; (try dsimp only at hSw); go_simp; try with_reducible rfl)
                      simp only [Act.put, List.setIfInBounds_toArray, List.set_cons_succ, List.set_cons_zero]
                      refine take_yes 19 63 (v := ?_) rfl rfl (by kernel_rfl) (by kernel_rfl) (by kernel_rfl) (fun _ _ _ h => h) (by rfl) ?_ (by assumption) ?_
                      rotate_left 1
                      · (intro w hSw; (try dsimp only at hSw); go_simp; try with_reducible rfl)
                      simp only [Act.put, List.setIfInBounds_toArray, List.set_cons_succ, List.set_cons_zero]
                      refine take_yes 20 64 (v := ?_) rfl rfl (by kernel_rfl) (by kernel_rfl) (by kernel_rfl) (fun _ _ _ h => h) (by rfl) ?_ (by assumption) ?_
                      rotate_left 1
                      · (intro w hSw; (try dsimp only at hSw); go_simp; try with_reducible rfl)
                      simp only [Act.put, List.setIfInBounds_toArray, List.set_cons_succ, List.set_cons_zero]
                      refine wpAnyH_done (by kernel_rfl) ?_ _
                      have HE : Hid (bestOk l la (n + 1) j) := HK2.out hls
                      clear HL2 HK2
                      go_wp2
                      go_roundw
                      case rel => exact ⟨n + 1, j, hlt2, rfl, by go_num, HE.out, HB3.out.trans (hS'.mono HB3.out.size)⟩
                      case measure => simp [intOf]; omega
                · have d1 : decide (r > la) = false := by simpa using hgt
                  have KEEP : Hid (∀ w', Below W3.heap.size W3 w' → w'.cell? ⟨wr.heap.size, 0, none⟩ = some (.int .i64 o1) ∧ w'.cell? ⟨wr.heap.size, 1, none⟩ = some (.int .i64 o2)) := fun w' h => ⟨(HBK0.out.keep h).at 0 rfl, (HBK0.out.keep h).at 1 rfl⟩
                  refine wp_region_held_drew (S := fun w' => w'.cell? ⟨wr.heap.size, 0, none⟩ = some (.int .i64 o1) ∧ w'.cell? ⟨wr.heap.size, 1, none⟩ = some (.int .i64 o2)) (by kernel_rfl) (KEEP.out _ hS') (fun hHeld => ?_)
                  refine take_yes 0 44 (v := ?_) rfl rfl (by kernel_rfl) (by kernel_rfl) (by kernel_rfl) (fun _ _ _ h => h) (by rfl) ?_ (by assumption) ?_
                  rotate_left 1
                  · (intro w hSw; (try dsimp only at hSw); go_simp; try with_reducible rfl)
                  simp only [Act.put, List.setIfInBounds_toArray, List.set_cons_succ, List.set_cons_zero]
                  refine take_yes 1 45 (v := ?_) rfl rfl (by kernel_rfl) (by kernel_rfl) (by kernel_rfl) (fun _ _ _ h => h) (by rfl) ?_ (by assumption) ?_
                  rotate_left 1
                  · (intro w hSw; (try dsimp only at hSw); go_simp; try with_reducible rfl)
                  simp only [Act.put, List.setIfInBounds_toArray, List.set_cons_succ, List.set_cons_zero]
                  refine take_yes 3 47 (v := ?_) rfl rfl (by kernel_rfl) (by kernel_rfl) (by kernel_rfl) (fun _ _ _ h => h) (by rfl) ?_ (by assumption) ?_
                  rotate_left 1
                  · (intro w hSw; (try dsimp only at hSw); go_simp; try with_reducible rfl)
                  simp only [Act.put, List.setIfInBounds_toArray, List.set_cons_succ, List.set_cons_zero]
                  refine wpAnyH_ready (rs := [2]) (by kernel_rfl) (by simp) ?_
                  refine AllReadyH.cons rfl (fun K hK => ?_) AllReadyH.nil
                  go_simp
                  refine (HRA.out _).mono ?_
                  rintro e wn ⟨rfl, hb⟩
                  have hS' : Below W3.heap.size W3 wn := Below.trans hS' (hb.mono (Below.size hS'))
                  go_wp2_with fail
                  refine hK.out _ _ ?_ (fun hHeld => ?_)
                  · (try dsimp only); exact KEEP.out _ hS'
                  clear hK K
                  refine take_yes 4 48 (v := ?_) rfl rfl (by kernel_rfl) (by kernel_rfl) (by kernel_rfl) (fun _ _ _ h => h) (by rfl) ?_ (by assumption) ?_
                  rotate_left 1
                  · (intro w hSw; (try dsimp only at hSw); go_simp; try with_reducible rfl)
                  simp only [Act.put, List.setIfInBounds_toArray, List.set_cons_succ, List.set_cons_zero]
                  refine take_yes 5 49 (v := ?_) rfl rfl (by kernel_rfl) (by kernel_rfl) (by kernel_rfl) (fun _ _ _ h => h) (by rfl) ?_ (by assumption) ?_
                  rotate_left 1
                  · (intro w hSw; (try dsimp only at hSw); go_simp; try with_reducible rfl)
                  simp only [Act.put, List.setIfInBounds_toArray, List.set_cons_succ, List.set_cons_zero]
                  refine take_no 6 50 rfl rfl (by kernel_rfl) (by kernel_rfl) (by kernel_rfl) (fun _ _ _ h => h) (by rfl) (by assumption) ?_
                  simp only [Act.put, List.setIfInBounds_toArray, List.set_cons_succ, List.set_cons_zero]
                  refine take_no 7 51 rfl rfl (by kernel_rfl) (by kernel_rfl) (by kernel_rfl) (fun _ _ _ h => h) (by rfl) (by assumption) ?_
                  simp only [Act.put, List.setIfInBounds_toArray, List.set_cons_succ, List.set_cons_zero]
                  refine take_no 8 52 rfl rfl (by kernel_rfl) (by kernel_rfl) (by kernel_rfl) (fun _ _ _ h => h) (by rfl) (by assumption) ?_
                  simp only [Act.put, List.setIfInBounds_toArray, List.set_cons_succ, List.set_cons_zero]
                  refine take_no 9 53 rfl rfl (by kernel_rfl) (by kernel_rfl) (by kernel_rfl) (fun _ _ _ h => h) (by rfl) (by assumption) ?_
                  simp only [Act.put, List.setIfInBounds_toArray, List.set_cons_succ, List.set_cons_zero]
                  refine take_no 10 54 rfl rfl (by kernel_rfl) (by kernel_rfl) (by kernel_rfl) (fun _ _ _ h => h) (by rfl) (by assumption) ?_
                  simp only [Act.put, List.setIfInBounds_toArray, List.set_cons_succ, List.set_cons_zero]
                  refine take_no 12 56 rfl rfl (by kernel_rfl) (by kernel_rfl) (by kernel_rfl) (fun _ _ _ h => h) (by rfl) (by assumption) ?_
                  simp only [Act.put, List.setIfInBounds_toArray, List.set_cons_succ, List.set_cons_zero]
                  refine take_no 13 57 rfl rfl (by kernel_rfl) (by kernel_rfl) (by kernel_rfl) (fun _ _ _ h => h) (by rfl) (by assumption) ?_
                  simp only [Act.put, List.setIfInBounds_toArray, List.set_cons_succ, List.set_cons_zero]
                  refine take_no 14 58 rfl rfl (by kernel_rfl) (by kernel_rfl) (by kernel_rfl) (fun _ _ _ h => h) (by rfl) (by assumption) ?_
                  simp only [Act.put, List.setIfInBounds_toArray, List.set_cons_succ, List.set_cons_zero]
                  refine take_no 15 59 rfl rfl (by kernel_rfl) (by kernel_rfl) (by kernel_rfl) (fun _ _ _ h => h) (by rfl) (by assumption) ?_
                  simp only [Act.put, List.setIfInBounds_toArray, List.set_cons_succ, List.set_cons_zero]
                  refine take_no 16 60 rfl rfl (by kernel_rfl) (by kernel_rfl) (by kernel_rfl) (fun _ _ _ h => h) (by rfl) (by assumption) ?_
                  simp only [Act.put, List.setIfInBounds_toArray, List.set_cons_succ, List.set_cons_zero]
                  refine take_no 11 55 rfl rfl (by kernel_rfl) (by kernel_rfl) (by kernel_rfl) (fun _ _ _ h => h) (by rfl) (by assumption) ?_
                  simp only [Act.put, List.setIfInBounds_toArray, List.set_cons_succ, List.set_cons_zero]
                  refine take_no 17 61 rfl rfl (by kernel_rfl) (by kernel_rfl) (by kernel_rfl) (fun _ _ _ h => h) (by rfl) (by assumption) ?_
                  simp only [Act.put, List.setIfInBounds_toArray, List.set_cons_succ, List.set_cons_zero]
                  refine take_no 18 62 rfl rfl (by kernel_rfl) (by kernel_rfl) (by kernel_rfl) (fun _ _ _ h => h) (by rfl) (by assumption) ?_
                  simp only [Act.put, List.setIfInBounds_toArray, List.set_cons_succ, List.set_cons_zero]
                  refine take_no 19 63 rfl rfl (by kernel_rfl) (by kernel_rfl) (by kernel_rfl) (fun _ _ _ h => h) (by rfl) (by assumption) ?_
                  simp only [Act.put, List.setIfInBounds_toArray, List.set_cons_succ, List.set_cons_zero]
                  refine take_yes 20 64 (v := ?_) rfl rfl (by kernel_rfl) (by kernel_rfl) (by kernel_rfl) (fun _ _ _ h => h) (by rfl) ?_ (by assumption) ?_
                  rotate_left 1
                  · (intro w hSw; (try dsimp only at hSw); go_simp; try with_reducible rfl)
                  simp only [Act.put, List.setIfInBounds_toArray, List.set_cons_succ, List.set_cons_zero]
                  refine wpAnyH_done (by kernel_rfl) ?_ _
                  have HE : Hid (bestOk l la (n + 1) be) := HBN.out hgt
                  clear HBN HBF HBL HBK
                  go_wp2
                  go_roundw
                  case rel => exact ⟨n + 1, be, hlt2, rfl, by go_num, HE.out, HB3.out.trans (hS'.mono HB3.out.size)⟩
                  case measure => simp [intOf]; omega
              · have hn' : n = l.length := by omega
                subst hn'
                rename World => WI
                have hR3 := hR.keep hb2
                have hH3 := hH.keep hb2
                have hL3 := hL.keep hb2
                have hT3 := hT.below hb2
                have HBW : Hid (Below w.heap.size w WI) := hb3
                have HM0 : Hid (hLen WO bh = k) := by show _ = _; unfold hLen; rw [hh0]; exact hSk
                clear hb2 hb3 hh0 hh1 hR hH hL hT hb
                rcases Orangery.best_cases hbe with rfl | ⟨j, rfl, hj⟩
                · have hkk : k = (srt l).length := Orangery.best_none hk HOK.out (by rw [HLA.out]; exact hbe)
                  have HE : Hid (foldE l = 6) := HBAD.out hlt hkk
                  have r0 := hR3.at 0 rfl
                  have r1 := hR3.at 1 rfl
                  have rf := hR3.frz
                  clear hkk hbe
                  go_wp2
                  have hRf := hR3.sets [Value.slice none 0 0, Value.slice none 0 0] rfl
                  refine ret_cell_tmp Tryz.results76 rfl rfl (hRf.load Tryz.underlying27 rfl sizeHist) ?_
                  rw [HE.out]
                  have hzz := Orangery.fold_err (l := l) (by rw [HE.out]; decide)
                  exact rfolds_err hzz.1 hzz.2 (below_sets HBW.out w.heap.size (Nat.le_refl _) [Value.slice none 0 0, Value.slice none 0 0] 0)
                · obtain ⟨_, hks, hsj⟩ := Orangery.best_next hk HOK.out (by rw [HLA.out]; exact hbe)
                  have hcj := HOK.out l[j] (List.getElem_mem hj)
                  have hz := Orangery.doE_of HCT.out hcj
                  obtain ⟨hdT, hdS⟩ := Orangery.dT_eq hz
                  have HRT1 : Hid (Orangery.runT [] ((srt l).take (k + 1)) = dT Tk l[j]) := by show _ = _; rw [HRT.out hks, hsj]
                  have HRS1 : Hid (Orangery.runS [] ((srt l).take (k + 1)) = Sk ++ [dS Tk l[j]]) := by show _ = _; rw [HRS.out hks, hsj]
                  have HLR : Hid (lastR (srt l) (k + 1) = rk l[j]) := by show _ = _; rw [Orangery.lastR_succ _ _ hks, hsj]
                  have hTl := Orangery.check_len _ HCT.out
                  have HDO : Hid (∀ W, SlP W aT Tk → Calls Tryz.prog 100 #[.slice aT Tk.length cT, opV l[j]] W fun e w' => ∃ a' c', e = .returned (.tuple #[.slice a' (dT Tk l[j]).length c', stV (dS Tk l[j])]) ∧ ((a' = aT ∧ dT Tk l[j] = Tk) ∨ OwnS w' W.heap.size (.slice a' (dT Tk l[j]).length c') (dT Tk l[j])) ∧ Below W.heap.size W w') := fun W hPW => by
                    have := rdone_any W aT cT Tk l[j] (by unfold maxLen; omega) hPW hz
                    rw [hdT, hdS] at this
                    exact this
                  have HRJ : Hid (∀ W, Calls Tryz.prog 99 #[.agg #[.int .i64 l[j].1, .int .i64 l[j].2.1]] W fun e w' => e = .returned (.int .i64 (rk l[j])) ∧ Below W.heap.size W w') := fun W => rank_any W l[j] hcj
                  obtain ⟨b, off, rfl, hbl, hr⟩ := HH.out.at opC_len j hj
                  have HCJ : Hid (∀ w', Below w.heap.size w w' → w'.rangeAt b (off + j * 7) (opC l[j])) := fun w' h i v hv => by rw [h.cell (by exact hbl)]; exact hr i v hv
                  have hj1 : (j : Int) < (l.length : Int) := by omega
                  clear hr hcj hz hdT hdS hbe hsj HRT HRS HT1 HEND HBAD HLA
                  generalize l[j] = o at *
                  generalize dT Tk o = Tn at *
                  generalize dS Tk o = st at *
                  generalize rk o = rj at *
                  obtain ⟨o1, o2, ⟨o3, o4, o5⟩, o6, o7⟩ := o
                  obtain ⟨⟨q1, q2, ⟨q3, q4, q5⟩, q6, q7⟩, d, ⟨p1, p2, p3⟩⟩ := st
                  simp only at HRJ
                  have d2 : decide ((j : Int) < 0) = false := by simp <;> omega
                  have hbW : w.heap.size ≤ WI.heap.size := HBW.out.size
                  have hbhW : bh < WI.heap.size := hH3.lt
                  have hS' : Below WI.heap.size WI WI.drew := (Below.refl _ WI).drew
                  have KEEP : Hid (∀ w', Below WI.heap.size WI w' → w'.cell? ⟨bh, 1, none⟩ = some (.slice aT Tk.length cT) ∧ w'.cell? ⟨b, off + j * 7, none⟩ = some (.int .i64 o1) ∧ w'.cell? ⟨b, off + j * 7 + 1, none⟩ = some (.int .i64 o2) ∧ w'.cell? ⟨b, off + j * 7 + 2, none⟩ = some (.int .i64 o3) ∧ w'.cell? ⟨b, off + j * 7 + 3, none⟩ = some (.int .i64 o4) ∧ w'.cell? ⟨b, off + j * 7 + 4, none⟩ = some (.int .i64 o5) ∧ w'.cell? ⟨b, off + j * 7 + 5, none⟩ = some (.int .i64 o6) ∧ w'.cell? ⟨b, off + j * 7 + 6, none⟩ = some (.int .i64 o7)) := fun w' h => by
                    have h2 := op_cells (HCJ.out w' (HBW.out.trans (h.mono hbW)))
                    exact ⟨(hH3.keep h).at 1 rfl, h2⟩
                  go_upto_region 22 with fail
                  go_cut [12, 13] from 70 to 80 (fun x y wc => ∃ a' c' bs, x = .slice a' Tn.length c' ∧ y = .pointer (some ⟨bs, 0, none⟩) ∧ Blk wc bs [Value.int IntKind.i64 q1, Value.int IntKind.i64 q2, Value.int IntKind.i64 q3, Value.int IntKind.i64 q4, Value.int IntKind.i64 q5, Value.int IntKind.i64 q6, Value.int IntKind.i64 q7, Value.bool d, Value.int IntKind.i64 p1, Value.int IntKind.i64 p2, Value.int IntKind.i64 p3] ∧ SlT wc (bh + 1) a' Tn ∧ Below WI.heap.size WI wc)
                  case first =>
                    refine wp_region_held_drew (S := fun w' => w'.cell? ⟨bh, 1, none⟩ = some (.slice aT Tk.length cT) ∧ w'.cell? ⟨b, off + j * 7, none⟩ = some (.int .i64 o1) ∧ w'.cell? ⟨b, off + j * 7 + 1, none⟩ = some (.int .i64 o2) ∧ w'.cell? ⟨b, off + j * 7 + 2, none⟩ = some (.int .i64 o3) ∧ w'.cell? ⟨b, off + j * 7 + 3, none⟩ = some (.int .i64 o4) ∧ w'.cell? ⟨b, off + j * 7 + 4, none⟩ = some (.int .i64 o5) ∧ w'.cell? ⟨b, off + j * 7 + 5, none⟩ = some (.int .i64 o6) ∧ w'.cell? ⟨b, off + j * 7 + 6, none⟩ = some (.int .i64 o7)) (by kernel_rfl) (KEEP.out _ hS') (fun hHeld => ?_)
                    refine take_yes 0 71 (v := ?_) rfl rfl (by kernel_rfl) (by kernel_rfl) (by kernel_rfl) (fun _ _ _ h => h) (by rfl) ?_ hHeld ?_
                    rotate_left 1
                    · (intro w hSw; (try dsimp only at hSw); go_simp; try with_reducible rfl)
                    simp only [Act.put, List.setIfInBounds_toArray, List.set_cons_succ, List.set_cons_zero]
                    refine take_yes 1 72 (v := ?_) rfl rfl (by kernel_rfl) (by kernel_rfl) (by kernel_rfl) (fun _ _ _ h => h) (by rfl) ?_ hHeld ?_
                    rotate_left 1
                    · (intro w hSw; (try dsimp only at hSw); go_simp; try with_reducible rfl)
                    simp only [Act.put, List.setIfInBounds_toArray, List.set_cons_succ, List.set_cons_zero]
                    refine take_yes 2 73 (v := ?_) rfl rfl (by kernel_rfl) (by kernel_rfl) (by kernel_rfl) (fun _ _ _ h => h) (by rfl) ?_ hHeld ?_
                    rotate_left 1
                    · (intro w hSw; (try dsimp only at hSw); go_simp; try with_reducible rfl)
                    simp only [Act.put, List.setIfInBounds_toArray, List.set_cons_succ, List.set_cons_zero]
                    refine take_yes 3 74 (v := ?_) rfl rfl (by kernel_rfl) (by kernel_rfl) (by kernel_rfl) (fun _ _ _ h => h) (by rfl) ?_ hHeld ?_
                    rotate_left 1
                    · (intro w hSw; (try dsimp only at hSw); go_simp; try with_reducible rfl)
                    simp only [Act.put, List.setIfInBounds_toArray, List.set_cons_succ, List.set_cons_zero]
                    refine take_yes 4 75 (v := ?_) rfl rfl (by kernel_rfl) (by kernel_rfl) (by kernel_rfl) (fun _ _ _ h => h) (by rfl) ?_ hHeld ?_
                    rotate_left 1
                    · (intro w hSw; (try dsimp only at hSw); go_simp; try with_reducible rfl)
                    simp only [Act.put, List.setIfInBounds_toArray, List.set_cons_succ, List.set_cons_zero]
                    refine take_yes 5 76 (v := ?_) rfl rfl (by kernel_rfl) (by kernel_rfl) (by kernel_rfl) (fun _ _ _ h => h) (by rfl) ?_ hHeld ?_
                    rotate_left 1
                    · (intro w hSw; (try dsimp only at hSw); go_simp; try with_reducible rfl)
                    simp only [Act.put, List.setIfInBounds_toArray, List.set_cons_succ, List.set_cons_zero]
                    refine take_yes 6 77 (v := ?_) rfl rfl (by kernel_rfl) (by kernel_rfl) (by kernel_rfl) (fun _ _ _ h => h) (by rfl) ?_ hHeld ?_
                    rotate_left 1
                    · (intro w hSw; (try dsimp only at hSw); go_simp; try with_reducible rfl)
                    simp only [Act.put, List.setIfInBounds_toArray, List.set_cons_succ, List.set_cons_zero]
                    refine wpAnyH_ready (rs := [7, 11]) (by kernel_rfl) (by simp) ?_
                    refine AllReadyH.cons rfl (fun K hK => ?_) (AllReadyH.cons rfl (fun K hK => ?_) AllReadyH.nil)
                    · skip
                      go_simp
                      refine (HDO.out _ (hT3.slp.below hS')).mono ?_
                      rintro e w5 ⟨a', c', rfl, hor, hb5⟩
                      have hS5 : Below WI.heap.size WI w5 := hS'.trans (hb5.mono hS'.size)
                      go_wp2_with fail
                      refine hK.out _ _ (KEEP.out _ hS5) (fun hHeld => ?_)
                      clear hK K
                      refine take_yes 8 70 (v := ?_) rfl rfl (by kernel_rfl) (by kernel_rfl) (by kernel_rfl) (fun _ _ _ h => h) (by rfl) ?_ hHeld ?_
                      rotate_left 1
                      · (intro w hSw; (try dsimp only at hSw); go_simp; try with_reducible rfl)
                      simp only [Act.put, List.setIfInBounds_toArray, List.set_cons_succ, List.set_cons_zero]
                      refine take_yes 9 79 (v := ?_) rfl rfl (by kernel_rfl) (by kernel_rfl) (by kernel_rfl) (fun _ _ _ h => h) (by rfl) ?_ hHeld ?_
                      rotate_left 1
                      · (intro w hSw; (try dsimp only at hSw); go_simp; try with_reducible rfl)
                      simp only [Act.put, List.setIfInBounds_toArray, List.set_cons_succ, List.set_cons_zero]
                      refine take_yes 10 80 (v := ?_) rfl rfl (by kernel_rfl) (by kernel_rfl) (by kernel_rfl) (fun _ _ _ h => h) (by rfl) ?_ hHeld ?_
                      rotate_left 1
                      · (intro w hSw; (try dsimp only at hSw); go_simp; try with_reducible rfl)
                      simp only [Act.put, List.setIfInBounds_toArray, List.set_cons_succ, List.set_cons_zero]
                      refine wpAnyH_ready (rs := [11]) (by kernel_rfl) (by simp) ?_
                      refine AllReadyH.cons rfl (fun K hK => ?_) AllReadyH.nil
                      go_simp
                      have hN := Blk.new w5 [Value.int IntKind.i64 0, Value.int IntKind.i64 0, Value.int IntKind.i64 0, Value.int IntKind.i64 0, Value.int IntKind.i64 0, Value.int IntKind.i64 0, Value.int IntKind.i64 0, Value.bool false, Value.int IntKind.i64 0, Value.int IntKind.i64 0, Value.int IntKind.i64 0] 95
                      have hSA : Below WI.heap.size WI (w5.alloc (Obj.cells #[Value.int IntKind.i64 0, Value.int IntKind.i64 0, Value.int IntKind.i64 0, Value.int IntKind.i64 0, Value.int IntKind.i64 0, Value.int IntKind.i64 0, Value.int IntKind.i64 0, Value.bool false, Value.int IntKind.i64 0, Value.int IntKind.i64 0, Value.int IntKind.i64 0] 95)) := hS5.alloc hS5.size _
                      have hgt5 := hS5.size
                      refine hK.out _ _ (KEEP.out _ hSA) (fun hHeld => ?_)
                      clear hK K
                      refine take_yes 12 12 (v := ?_) rfl rfl (by kernel_rfl) (by kernel_rfl) (by kernel_rfl) (fun _ _ _ h => h) (by rfl) ?_ hHeld ?_
                      rotate_left 1
                      · (intro w hSw; (try dsimp only at hSw); go_simp; try with_reducible rfl)
                      simp only [Act.put, List.setIfInBounds_toArray, List.set_cons_succ, List.set_cons_zero]
                      have hSF : Below WI.heap.size WI ((w5.alloc (Obj.cells #[Value.int IntKind.i64 0, Value.int IntKind.i64 0, Value.int IntKind.i64 0, Value.int IntKind.i64 0, Value.int IntKind.i64 0, Value.int IntKind.i64 0, Value.int IntKind.i64 0, Value.bool false, Value.int IntKind.i64 0, Value.int IntKind.i64 0, Value.int IntKind.i64 0] 95)).setCells w5.heap.size 0 [Value.int IntKind.i64 q1, Value.int IntKind.i64 q2, Value.int IntKind.i64 q3, Value.int IntKind.i64 q4, Value.int IntKind.i64 q5, Value.int IntKind.i64 q6, Value.int IntKind.i64 q7, Value.bool d, Value.int IntKind.i64 p1, Value.int IntKind.i64 p2, Value.int IntKind.i64 p3]) := below_sets hSA w5.heap.size (by omega) [Value.int IntKind.i64 q1, Value.int IntKind.i64 q2, Value.int IntKind.i64 q3, Value.int IntKind.i64 q4, Value.int IntKind.i64 q5, Value.int IntKind.i64 q6, Value.int IntKind.i64 q7, Value.bool d, Value.int IntKind.i64 p1, Value.int IntKind.i64 p2, Value.int IntKind.i64 p3] 0
                      refine step_store 13 95 w5.heap.size [Value.int IntKind.i64 q1, Value.int IntKind.i64 q2, Value.int IntKind.i64 q3, Value.int IntKind.i64 q4, Value.int IntKind.i64 q5, Value.int IntKind.i64 q6, Value.int IntKind.i64 q7, Value.bool d, Value.int IntKind.i64 p1, Value.int IntKind.i64 p2, Value.int IntKind.i64 p3] (by kernel_rfl) rfl rfl (by rfl) (by rfl) (by rfl) (by rfl) hN.there sizeStep (stC_one ((q1, q2, (q3, q4, q5), q6, q7), d, (p1, p2, p3))) (KEEP.out _ hSF) ?_
                      refine wpAnyH_done (by kernel_rfl) ?_ _
                      have HSF : Hid (Below WI.heap.size WI ((w5.alloc (Obj.cells #[Value.int IntKind.i64 0, Value.int IntKind.i64 0, Value.int IntKind.i64 0, Value.int IntKind.i64 0, Value.int IntKind.i64 0, Value.int IntKind.i64 0, Value.int IntKind.i64 0, Value.bool false, Value.int IntKind.i64 0, Value.int IntKind.i64 0, Value.int IntKind.i64 0] 95)).setCells w5.heap.size 0 [Value.int IntKind.i64 q1, Value.int IntKind.i64 q2, Value.int IntKind.i64 q3, Value.int IntKind.i64 q4, Value.int IntKind.i64 q5, Value.int IntKind.i64 q6, Value.int IntKind.i64 q7, Value.bool d, Value.int IntKind.i64 p1, Value.int IntKind.i64 p2, Value.int IntKind.i64 p3])) := hSF
                      clear hSF hHeld
                      go_wp2
                      go_meet
                      case rel =>
                        refine ⟨a', c', _, rfl, rfl, hN.sets [Value.int IntKind.i64 q1, Value.int IntKind.i64 q2, Value.int IntKind.i64 q3, Value.int IntKind.i64 q4, Value.int IntKind.i64 q5, Value.int IntKind.i64 q6, Value.int IntKind.i64 q7, Value.bool d, Value.int IntKind.i64 p1, Value.int IntKind.i64 p2, Value.int IntKind.i64 p3] rfl, ?_, HSF.out⟩
                        exact slt_end hor (hT3.below HSF.out) (fun h => h.below (below_sets (Go.Joins.below_alloc1 w5 _) w5.heap.size (Nat.le_refl _) [Value.int IntKind.i64 q1, Value.int IntKind.i64 q2, Value.int IntKind.i64 q3, Value.int IntKind.i64 q4, Value.int IntKind.i64 q5, Value.int IntKind.i64 q6, Value.int IntKind.i64 q7, Value.bool d, Value.int IntKind.i64 p1, Value.int IntKind.i64 p2, Value.int IntKind.i64 p3] 0)) (by first | omega | (show bh + 1 ≤ WI.heap.size; omega))
                    · skip
                      go_simp
                      have hN := (Blk.new WI [Value.int IntKind.i64 0, Value.int IntKind.i64 0, Value.int IntKind.i64 0, Value.int IntKind.i64 0, Value.int IntKind.i64 0, Value.int IntKind.i64 0, Value.int IntKind.i64 0, Value.bool false, Value.int IntKind.i64 0, Value.int IntKind.i64 0, Value.int IntKind.i64 0] 95).drew
                      have hSA : Below WI.heap.size WI (WI.alloc (Obj.cells #[Value.int IntKind.i64 0, Value.int IntKind.i64 0, Value.int IntKind.i64 0, Value.int IntKind.i64 0, Value.int IntKind.i64 0, Value.int IntKind.i64 0, Value.int IntKind.i64 0, Value.bool false, Value.int IntKind.i64 0, Value.int IntKind.i64 0, Value.int IntKind.i64 0] 95)).drew := ((Below.refl _ WI).alloc (Nat.le_refl _) _).drew
                      refine hK.out _ _ (KEEP.out _ hSA) (fun hHeld => ?_)
                      clear hK K
                      refine wpAnyH_ready (rs := [7]) (by kernel_rfl) (by simp) ?_
                      refine AllReadyH.cons rfl (fun K hK => ?_) AllReadyH.nil
                      go_simp
                      refine (HDO.out _ (hT3.slp.below hSA)).mono ?_
                      rintro e w5 ⟨a', c', rfl, hor, hb5⟩
                      have hS5 : Below WI.heap.size WI w5 := hSA.trans (hb5.mono hSA.size)
                      go_wp2_with fail
                      refine hK.out _ _ (KEEP.out _ hS5) (fun hHeld => ?_)
                      clear hK K
                      have hN5 := hN.keep hb5
                      refine take_yes 8 70 (v := ?_) rfl rfl (by kernel_rfl) (by kernel_rfl) (by kernel_rfl) (fun _ _ _ h => h) (by rfl) ?_ hHeld ?_
                      rotate_left 1
                      · (intro w hSw; (try dsimp only at hSw); go_simp; try with_reducible rfl)
                      simp only [Act.put, List.setIfInBounds_toArray, List.set_cons_succ, List.set_cons_zero]
                      refine take_yes 9 79 (v := ?_) rfl rfl (by kernel_rfl) (by kernel_rfl) (by kernel_rfl) (fun _ _ _ h => h) (by rfl) ?_ hHeld ?_
                      rotate_left 1
                      · (intro w hSw; (try dsimp only at hSw); go_simp; try with_reducible rfl)
                      simp only [Act.put, List.setIfInBounds_toArray, List.set_cons_succ, List.set_cons_zero]
                      refine take_yes 10 80 (v := ?_) rfl rfl (by kernel_rfl) (by kernel_rfl) (by kernel_rfl) (fun _ _ _ h => h) (by rfl) ?_ hHeld ?_
                      rotate_left 1
                      · (intro w hSw; (try dsimp only at hSw); go_simp; try with_reducible rfl)
                      simp only [Act.put, List.setIfInBounds_toArray, List.set_cons_succ, List.set_cons_zero]
                      refine take_yes 12 12 (v := ?_) rfl rfl (by kernel_rfl) (by kernel_rfl) (by kernel_rfl) (fun _ _ _ h => h) (by rfl) ?_ hHeld ?_
                      rotate_left 1
                      · (intro w hSw; (try dsimp only at hSw); go_simp; try with_reducible rfl)
                      simp only [Act.put, List.setIfInBounds_toArray, List.set_cons_succ, List.set_cons_zero]
                      have hSF : Below WI.heap.size WI (w5.setCells WI.heap.size 0 [Value.int IntKind.i64 q1, Value.int IntKind.i64 q2, Value.int IntKind.i64 q3, Value.int IntKind.i64 q4, Value.int IntKind.i64 q5, Value.int IntKind.i64 q6, Value.int IntKind.i64 q7, Value.bool d, Value.int IntKind.i64 p1, Value.int IntKind.i64 p2, Value.int IntKind.i64 p3]) := below_sets hS5 WI.heap.size (by omega) [Value.int IntKind.i64 q1, Value.int IntKind.i64 q2, Value.int IntKind.i64 q3, Value.int IntKind.i64 q4, Value.int IntKind.i64 q5, Value.int IntKind.i64 q6, Value.int IntKind.i64 q7, Value.bool d, Value.int IntKind.i64 p1, Value.int IntKind.i64 p2, Value.int IntKind.i64 p3] 0
                      refine step_store 13 95 WI.heap.size [Value.int IntKind.i64 q1, Value.int IntKind.i64 q2, Value.int IntKind.i64 q3, Value.int IntKind.i64 q4, Value.int IntKind.i64 q5, Value.int IntKind.i64 q6, Value.int IntKind.i64 q7, Value.bool d, Value.int IntKind.i64 p1, Value.int IntKind.i64 p2, Value.int IntKind.i64 p3] (by kernel_rfl) rfl rfl (by rfl) (by rfl) (by rfl) (by rfl) hN5.there sizeStep (stC_one ((q1, q2, (q3, q4, q5), q6, q7), d, (p1, p2, p3))) (KEEP.out _ hSF) ?_
                      refine wpAnyH_done (by kernel_rfl) ?_ _
                      have HSF : Hid (Below WI.heap.size WI (w5.setCells WI.heap.size 0 [Value.int IntKind.i64 q1, Value.int IntKind.i64 q2, Value.int IntKind.i64 q3, Value.int IntKind.i64 q4, Value.int IntKind.i64 q5, Value.int IntKind.i64 q6, Value.int IntKind.i64 q7, Value.bool d, Value.int IntKind.i64 p1, Value.int IntKind.i64 p2, Value.int IntKind.i64 p3])) := hSF
                      clear hSF hHeld
                      go_wp2
                      go_meet
                      case rel =>
                        refine ⟨a', c', _, rfl, rfl, hN5.sets [Value.int IntKind.i64 q1, Value.int IntKind.i64 q2, Value.int IntKind.i64 q3, Value.int IntKind.i64 q4, Value.int IntKind.i64 q5, Value.int IntKind.i64 q6, Value.int IntKind.i64 q7, Value.bool d, Value.int IntKind.i64 p1, Value.int IntKind.i64 p2, Value.int IntKind.i64 p3] rfl, ?_, HSF.out⟩
                        exact slt_end hor (hT3.below HSF.out) (fun h => OwnS.others WI.heap.size (by show _ < (WI.alloc _).heap.size; simp) [Value.int IntKind.i64 q1, Value.int IntKind.i64 q2, Value.int IntKind.i64 q3, Value.int IntKind.i64 q4, Value.int IntKind.i64 q5, Value.int IntKind.i64 q6, Value.int IntKind.i64 q7, Value.bool d, Value.int IntKind.i64 p1, Value.int IntKind.i64 p2, Value.int IntKind.i64 p3] 0 w5 h) (by show bh + 1 ≤ (WI.alloc _).heap.size; simp; omega)
                  case rest =>
                    obtain ⟨a', c', bs, rfl, rfl, hSB, hTn, hb6⟩ := hcut
                    have hR6 := hR3.keep hb6
                    have hH6 := hH3.keep hb6
                    have hL6 := hL3.keep hb6
                    have HB6 : Hid (Below w.heap.size w wc) := HBW.out.trans (hb6.mono HBW.out.size)
                    have hbc : bh < wc.heap.size := hH6.lt
                    clear hR3 hH3 hL3 hT3 HBW KEEP hS' hb6
                    obtain ⟨W7, hW7, hN7, hBn7, hS7⟩ := laid1 wc [Value.int IntKind.i64 q1, Value.int IntKind.i64 q2, Value.int IntKind.i64 q3, Value.int IntKind.i64 q4, Value.int IntKind.i64 q5, Value.int IntKind.i64 q6, Value.int IntKind.i64 q7, Value.bool d, Value.int IntKind.i64 p1, Value.int IntKind.i64 p2, Value.int IntKind.i64 p3] 95
                    have HN7 : Hid (Blk W7 wc.heap.size [Value.int IntKind.i64 q1, Value.int IntKind.i64 q2, Value.int IntKind.i64 q3, Value.int IntKind.i64 q4, Value.int IntKind.i64 q5, Value.int IntKind.i64 q6, Value.int IntKind.i64 q7, Value.bool d, Value.int IntKind.i64 p1, Value.int IntKind.i64 p2, Value.int IntKind.i64 p3]) := hN7
                    have hown7 : W7.ownsRow (bh + 1) 95 11 (.slice aL Sk.length cL) Sk.length (Sk.flatMap stC) := hL6.keep hBn7
                    have HR7 : Hid (Blk W7 w.heap.size [Value.slice none 0 0, Value.slice none 0 0]) := hR6.keep hBn7
                    have HH7 : Hid (Blk W7 bh [.slice aL Sk.length cL, .slice aT Tk.length cT]) := hH6.keep hBn7
                    have HT7 : Hid (SlT W7 (bh + 1) a' Tn) := hTn.below hBn7
                    have HB7 : Hid (Below w.heap.size w W7) := HB6.out.trans (hBn7.mono HB6.out.size)
                    have hsz7 : bh + 1 ≤ W7.heap.size := by have := hBn7.size; omega
                    have s0 := hSB.at 0 rfl
                    have s1 := hSB.at 1 rfl
                    have s2 := hSB.at 2 rfl
                    have s3 := hSB.at 3 rfl
                    have s4 := hSB.at 4 rfl
                    have s5 := hSB.at 5 rfl
                    have s6 := hSB.at 6 rfl
                    have s7 := hSB.at 7 rfl
                    have s8 := hSB.at 8 rfl
                    have s9 := hSB.at 9 rfl
                    have s10 := hSB.at 10 rfl
                    have x0 := hH6.at 0 rfl
                    have x1 := hH6.at 1 rfl
                    clear hN7 hBn7 hS7 hR6 hH6 hL6 hTn HB6 hSB
                    have HSl : Hid (Sk.length = k) := hSk
                    have hSl : Sk.length ≤ 30 := by omega
                    clear hSk hd2
                    go_wp2_with (at_builtin; refine wpList_append_own _ rfl _ _ 22 rfl (bh + 1) 95 i0 _ 11 88 Tryz.underlying22 hi hz0 hz1 hz2 rfl (by decide) _ _ _ rfl hown7 ⟨wc.heap.size, 0, none⟩ 1 1 [Value.int IntKind.i64 q1, Value.int IntKind.i64 q2, Value.int IntKind.i64 q3, Value.int IntKind.i64 q4, Value.int IntKind.i64 q5, Value.int IntKind.i64 q6, Value.int IntKind.i64 q7, Value.bool d, Value.int IntKind.i64 p1, Value.int IntKind.i64 p2, Value.int IntKind.i64 p3] rfl rfl ?c1 ?c2 ?c3 ?c4 ?c5 ?_)
                    case c1 => intro i u hi; first | exact HN7.out.at i hi | (rw [Addr.add_mid, Nat.zero_add]; exact HN7.out.at i hi)
                    case c2 => first | exact stC_one ((q1, q2, (q3, q4, q5), q6, q7), d, (p1, p2, p3)) | exact ⟨rfl, rfl, rfl, rfl, rfl, rfl, rfl, rfl, rfl, rfl, rfl⟩
                    case c3 => unfold maxLen; omega
                    case c4 => omega
                    case c5 => omega
                    intro v8 w8 hown' hgrow _
                    obtain ⟨Sn, hSn⟩ : ∃ Sn, Sn = Sk ++ [((q1, q2, (q3, q4, q5), q6, q7), d, (p1, p2, p3))] := ⟨_, rfl⟩
                    have hL8 : OwnE stC 11 95 w8 (bh + 1) v8 Sn := by
                      show World.ownsRow _ _ _ _ _ _ _
                      rw [hSn]
                      simpa [stC] using hown'
                    have HSN : Hid (Sn = Sk ++ [((q1, q2, (q3, q4, q5), q6, q7), d, (p1, p2, p3))]) := hSn
                    have hgb : ∀ g, (Value.slice aL Sk.length cL).ownBlock = some g → bh + 1 ≤ g := fun g hg => (hown7.lt g hg).1
                    have hH8 := HH7.out.grown hgrow (by intro e; have := hgb _ e.symm; omega)
                    have hR8 := HR7.out.grown hgrow (by intro e; have := hgb _ e.symm; omega)
                    have hT8 := HT7.out.grown hown7 hgrow
                    have HB8 : Hid (Below w.heap.size w w8) := HB7.out.grown hgrow (by omega) (fun g hg => by have := hgb g hg; omega)
                    obtain ⟨a8, c8, rfl, _, _⟩ := hL8.val
                    have hc8 := op_cells (HCJ.out w8 HB8.out)
                    obtain ⟨y0, y1, _⟩ := hc8
                    clear hSn hown' hown7 hgrow hgb HH7 HR7 HT7 HB7 HN7 s0 s1 s2 s3 s4 s5 s6 s7 s8 s9 s10 x0 x1 hW7
                    have z0 := hH8.at 0 rfl
                    have z1 := hH8.at 1 rfl
                    have zf := hH8.frz
                    have hne1 : ¬ bh = b := by omega
                    have hne2 : ¬ b = bh := by omega
                    go_wp2_with fail
                    refine (HRJ.out _).mono ?_
                    rintro e w10 ⟨rfl, hb10⟩
                    have hH9 := ((hH8.set 1 (by simp) (.slice a' Tn.length c')).set 0 (by simp) (.slice a8 Sn.length c8)).keep hb10
                    have hR9 := ((hR8.other (g := bh) (by omega) 1 (.slice a' Tn.length c')).other (g := bh) (by omega) 0 (.slice a8 Sn.length c8)).keep hb10
                    have hL9 := ((hL8.other bh (by omega) 1 (.slice a' Tn.length c')).other bh (by omega) 0 (.slice a8 Sn.length c8)).keep hb10
                    have hT9 := ((hT8.other bh (by omega) 1 (.slice a' Tn.length c')).other bh (by omega) 0 (.slice a8 Sn.length c8)).below hb10
                    have hB9 : Below w.heap.size w ((w8.setCell ⟨bh, 1, none⟩ (.slice a' Tn.length c')).setCell ⟨bh, 0, none⟩ (.slice a8 Sn.length c8)) := (HB8.out.setCell (by show w.heap.size ≤ bh; omega) _).setCell (by show w.heap.size ≤ bh; omega) _
                    have HB10 : Hid (Below w.heap.size w w10) := hB9.trans (hb10.mono hB9.size)
                    have HM1 : Hid (hLen w10 bh = k + 1) := by
                      show _ = _
                      unfold hLen
                      rw [hH9.at 0 rfl]
                      show Sn.length = k + 1
                      rw [HSN.out, List.length_append, HSl.out]
                      rfl
                    clear hb10 hB9 hH8 hR8 hL8 hT8 HB8 z0 z1 zf y0 y1
                    go_wp2
                    go_roundw
                    case rel =>
                      refine ⟨k + 1, .slice a8 Sn.length c8, a', c', hks, by rw [HLR.out], hR9, ?_, ?_, ?_, HB10.out⟩
                      · rw [HRT1.out]; exact hH9
                      · rw [HRS1.out, ← HSN.out]; exact hL9
                      · rw [HRT1.out]; exact hT9
                    case measure =>
                      show l.length - hLen w10 bh < l.length - hLen WO bh
                      rw [HM1.out, HM0.out]
                      omega
          · have hkl : k = l.length := by omega
            have HE : Hid (foldE l = 0 ∧ foldL l = Sk ∧ foldT l = Tk) := HEND.out hkl
            have hd2 : decide ((Sk.length : Int) < (l.length : Int)) = false := by simp; omega
            have hd3 : decide (Sk.length < l.length) = false := by simp; omega
            have r0 := hR.at 0 rfl
            have r1 := hR.at 1 rfl
            have rf := hR.frz
            clear HEND HBAD hkl hlt hSk
            go_wp2
            have hRf := hR.sets [Value.slice aL Sk.length cL, Value.slice aT Tk.length cT] rfl
            refine ret_cell_tmp Tryz.results76 rfl rfl (hRf.load Tryz.underlying27 rfl sizeHist) ?_
            rw [HE.out.1, HE.out.2.1, HE.out.2.2]
            exact ⟨_, aT, cT, rfl, (OwnE.others w.heap.size (by omega) [Value.slice aL Sk.length cL, Value.slice aT Tk.length cT] 0 WO hL).mono (by omega), (SlT.others w.heap.size (by omega) [Value.slice aL Sk.length cL, Value.slice aT Tk.length cT] 0 WO hT).mono (by omega), below_sets hb w.heap.size (Nat.le_refl _) [Value.slice aL Sk.length cL, Value.slice aT Tk.length cT] 0⟩
end Go.Proofs.YthlhnokgcnieeadGreat

