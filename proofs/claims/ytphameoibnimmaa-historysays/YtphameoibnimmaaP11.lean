/- 3 texts of the proof: orangeryref.CheckHistory. orangeryref.Inserted. orangerylaw.HistorySays: the walk. -/
import Derived.Test.YtphameoibnimmaaP10
import Derived.Test.YtphameoibnimmaaP07
import Derived.Test.YtphameoibnimmaaP08
/- orangeryref.CheckHistory. -/
namespace Go.Proofs.Ytphameoibnimmaa
open Go.ChangeShapes Go.WideShapes Go.ChangeAt Go.RowKit
open Orangery (Pl Mv Stp check checkOp foldE foldL foldT histE sameB)

set_option maxHeartbeats 2000000 in
set_option maxRecDepth 100000 in
theorem rcheck_any (w : World) (a p : Option Addr) (c d : Nat) (l : List Stp) (t : List Pl) (hl : l.length * 88 ≤ 140737488351232) (h1 : SlE stC w a l) (h3 : SlP w p t) :
    Calls Try.prog 35 #[hiV (.slice a l.length c) (.slice p t.length d)] w
      fun e w' => e = .returned (.int .i64 (histE l t)) ∧ Below w.heap.size w w' := by
  obtain ⟨W0, hW, hH, hB, hS⟩ := laid1 w [Value.slice a l.length c, Value.slice p t.length d] 62
  have hP := h1.below hB
  have hT := h3.below hB
  have x0 := hH.at 0 rfl
  have x1 := hH.at 1 rfl
  have HB : Hid (Below w.heap.size w W0) := hB
  have hlen : (l.map (·.1)).length ≤ maxLen := by simp; unfold maxLen; omega
  clear h1 h3 hB
  go_enter Try.func35, Try.ntmps35
  go_wp2_with fail
  refine (rops_any W0 a c l (.slice p t.length d) hl hP).mono ?_
  rintro e w1 ⟨v1, rfl, hO1, hb1⟩
  obtain ⟨a1, c1, rfl, hP1, hc1⟩ := hO1.val
  have hH1 := hH.keep hb1
  have hPa := hP.below hb1
  have hTa := hT.below hb1
  have HB1 : Hid (Below w.heap.size w w1) := HB.out.trans (hb1.mono HB.out.size)
  generalize hm : l.map (·.1) = m at *
  have HM : Hid (l.map (·.1) = m) := hm
  clear hm hO1 hb1 hH hP hT HB hS hW x0 x1
  go_wp2_with fail
  refine (rfold_any w1 a1 c1 m hlen hP1).mono ?_
  rintro e w2 ⟨vL, aT, cT, rfl, hL2, hST, hb2⟩
  have hPT := hST.slp
  clear hST
  obtain ⟨aL, cL, rfl, hPL, _⟩ := hL2.val
  have hH2 := hH1.keep hb2
  have hPb := hPa.below hb2
  have hTb := hTa.below hb2
  have HB2 : Hid (Below w.heap.size w w2) := HB1.out.trans (hb2.mono HB1.out.size)
  have hLl := foldL_len m
  have hTl := foldT_len m
  clear hL2 hP1 hPa hTa HB1 hH1 hb2 hlen hc1
  by_cases hz : foldE m = 0
  · have HE : Hid (histE l t = if sameB (foldL m) l (foldT m) t = true then 0 else 4) := by show _ = _; rw [histE_ok HM.out hz, sameB_comm]
    rw [hz]
    clear hz HM
    generalize foldL m = L at *
    generalize foldT m = T at *
    obtain ⟨W3, hW3, hN, hBn, _⟩ := laid1 w2 [Value.slice aL L.length cL, Value.slice aT T.length cT] 62
    have hH3 := hH2.keep hBn
    have x0 := hH3.at 0 rfl
    have x1 := hH3.at 1 rfl
    have y0 := hN.at 0 rfl
    have y1 := hN.at 1 rfl
    have hl2 : L.length ≤ maxLen := by unfold maxLen; omega
    have hl3 : T.length ≤ maxLen := by unfold maxLen; omega
    have HB3 : Hid (Below w.heap.size w W3) := HB2.out.trans (hBn.mono HB2.out.size)
    have hPL3 := hPL.below hBn
    have hPT3 := hPT.below hBn
    have hPb3 := hPb.below hBn
    have hTb3 := hTb.below hBn
    clear hH2 hH3 hN hBn hPL hPT hPb hTb HB2
    go_wp2_with fail
    refine (rsame_any W3 aL a aT p cL c cT d L l T t hl2 hl3 hPL3 hPb3 hPT3 hTb3).mono ?_
    rintro e w4 ⟨rfl, hb4⟩
    have HB4 : Hid (Below w.heap.size w w4) := HB3.out.trans (hb4.mono HB3.out.size)
    clear hb4 hPL3 hPT3 hPb3 hTb3 HB3 x0 x1 y0 y1
    cases hq : sameB L l T t
    · go_wp2
      go_ret
      exact ⟨ret_int (by rw [HE.out, hq]; rfl), HB4.out⟩
    · go_wp2
      go_ret
      exact ⟨ret_int (by rw [HE.out, hq]; rfl), HB4.out⟩
  · have hz' : (foldE m == 0) = false := by simpa using hz
    have HE : Hid (histE l t = foldE m) := histE_bad HM.out hz
    have HBx : Hid (Below w.heap.size w (w2.alloc (.cells #[Value.slice aL (foldL m).length cL, Value.slice aT (foldT m).length cT] 62))) := HB2.out.alloc HB2.out.size _
    clear hz HM
    generalize foldE m = E at *
    go_wp2
    go_ret
    exact ⟨ret_int (by rw [HE.out]), HBx.out⟩
end Go.Proofs.Ytphameoibnimmaa

/- orangeryref.Inserted. -/
namespace Go.Proofs.Ytphameoibnimmaa
open Go.ChangeShapes Go.WideShapes Go.ChangeAt Go.RowKit
open Orangery (Pl Mv Stp check checkOp foldE foldL foldT histE hasM thereB insE insL insT orI)

theorem insE_hist {l : List Stp} {t : List Pl} {o : Mv} (h : histE l t ≠ 0) : insE l t o = histE l t := by unfold insE; rw [if_pos h]
theorem insE_op {l : List Stp} {t : List Pl} {o : Mv} (h1 : histE l t = 0) (h : checkOp o ≠ 0) : insE l t o = checkOp o := by unfold insE; rw [if_neg (by simp [h1]), if_pos h]
theorem or_of {x y : Int} (hx : x = 0) (hy : y = 0) : orI x y = 0 := by unfold orI; rw [if_neg (by simp [hx]), hy]

set_option maxHeartbeats 4000000 in
set_option maxRecDepth 100000 in
theorem rinsert_any (w : World) (a p : Option Addr) (c d : Nat) (l : List Stp) (t : List Pl) (o : Mv) (hl : l.length * 88 ≤ 140737488351232) (h1 : SlE stC w a l) (h3 : SlP w p t) :
    Calls Try.prog 32 #[hiV (.slice a l.length c) (.slice p t.length d), opV o] w fun e w' => RFolds w (insL l t o) (insT l t o) (insE l t o) e w' := by
  obtain ⟨i0, hi, hz0, hz1, hz2⟩ := info_parts infoOp
  obtain ⟨m, hm⟩ : ∃ m, l.map (·.1) = m := ⟨_, rfl⟩
  have HM : Hid (l.map (·.1) = m) := hm
  have HML : Hid (m.length = l.length) := by show _ = _; rw [← hm]; simp
  have HBAD1 : Hid (histE l t ≠ 0 → insE l t o = histE l t) := insE_hist
  have HBAD2 : Hid (histE l t = 0 → checkOp o ≠ 0 → insE l t o = checkOp o) := insE_op
  have HGO : Hid (histE l t = 0 → checkOp o = 0 → (hasM m o.1 o.2.1 = true → insE l t o = 6) ∧ (hasM m o.1 o.2.1 = false → insE l t o = foldE (m ++ [o]) ∧ insL l t o = foldL (m ++ [o]) ∧ insT l t o = foldT (m ++ [o]))) := fun e1 e2 => insE_go hm (or_of e1 e2)
  have HLEN : Hid (histE l t = 0 → l.length ≤ 30) := fun h => hist_len h
  have HHAS : Hid (hasM m o.1 o.2.1 = true ↔ ∃ k, ∃ h : k < l.length, l[k].1.1 = o.1 ∧ l[k].1.2.1 = o.2.1) := by
    show _ ↔ _
    rw [Orangery.hasM_iff, ← hm]
    constructor
    · rintro ⟨x, hx, e⟩
      obtain ⟨s, hs, rfl⟩ := List.mem_map.1 hx
      obtain ⟨k, hk, rfl⟩ := List.getElem_of_mem hs
      exact ⟨k, hk, e⟩
    · rintro ⟨k, hk, e⟩
      exact ⟨l[k].1, List.mem_map.2 ⟨l[k], List.getElem_mem hk, rfl⟩, e⟩
  clear hm
  obtain ⟨o1, o2, ⟨o3, o4, o5⟩, o6, o7⟩ := o
  simp only at HGO HHAS
  obtain ⟨W0, hW, hH, hO, hR, hB, hS⟩ := laid3 w [Value.slice a l.length c, Value.slice p t.length d] 62 [Value.int IntKind.i64 o1, Value.int IntKind.i64 o2, Value.int IntKind.i64 o3, Value.int IntKind.i64 o4, Value.int IntKind.i64 o5, Value.int IntKind.i64 o6, Value.int IntKind.i64 o7] 49 [Value.slice none 0 0, Value.slice none 0 0] 62
  have hP := h1.below hB
  have hT := h3.below hB
  have hsz0 : w.heap.size + 3 ≤ W0.heap.size := by omega
  have HB : Hid (Below w.heap.size w W0) := hB
  have x0 := hH.at 0 rfl
  have x1 := hH.at 1 rfl
  have HPW : Hid (SlE stC w a l) := h1
  clear h1 h3 hS hB
  go_enter Try.func32, Try.ntmps32
  go_wp2_with fail
  clear hW
  refine (rcheck_any W0 a p c d l t hl hP hT).mono ?_
  rintro e w1 ⟨rfl, hb1⟩
  have hH1 := hH.keep hb1
  have hO1 := hO.keep hb1
  have hR1 := hR.keep hb1
  have HB1 : Hid (Below w.heap.size w w1) := HB.out.trans (hb1.mono HB.out.size)
  have hsz1 : w.heap.size + 3 ≤ w1.heap.size := by have := hb1.size; omega
  clear hH hO hR hP hT HB hb1 x0 x1 hsz0
  by_cases hz : histE l t = 0
  case neg =>
    have HE : Hid (insE l t (o1, o2, (o3, o4, o5), o6, o7) = histE l t) := HBAD1.out hz
    have HZ : Hid (histE l t ≠ 0) := hz
    have hz' : (histE l t != 0) = true := by simpa using hz
    have r0 := hR1.at 0 rfl
    have r1 := hR1.at 1 rfl
    have rf := hR1.frz
    clear HBAD1 HBAD2 HGO HLEN HHAS hz
    generalize histE l t = E at *
    go_wp2
    have hRf := hR1.sets [Value.slice none 0 0, Value.slice none 0 0] rfl
    refine ret_cell_tmp Try.results32 rfl rfl (hRf.load Try.underlying62 rfl sizeHist) ?_
    have hzz := ins_err (l := l) (t := t) (o := (o1, o2, (o3, o4, o5), o6, o7)) (by rw [HE.out]; exact HZ.out)
    rw [HE.out]
    exact rfolds_err hzz.1 hzz.2 (below_sets HB1.out (w.heap.size + 1 + 1) (by omega) [Value.slice none 0 0, Value.slice none 0 0] 0)
  case pos =>
    have HB2E := HBAD2.out hz
    have HG := HGO.out hz
    have hll := HLEN.out hz
    have HBE : Hid (checkOp (o1, o2, (o3, o4, o5), o6, o7) ≠ 0 → insE l t (o1, o2, (o3, o4, o5), o6, o7) = checkOp (o1, o2, (o3, o4, o5), o6, o7)) := HB2E
    have HGE : Hid (checkOp (o1, o2, (o3, o4, o5), o6, o7) = 0 → (hasM m o1 o2 = true → insE l t (o1, o2, (o3, o4, o5), o6, o7) = 6) ∧ (hasM m o1 o2 = false → insE l t (o1, o2, (o3, o4, o5), o6, o7) = foldE (m ++ [(o1, o2, (o3, o4, o5), o6, o7)]) ∧ insL l t (o1, o2, (o3, o4, o5), o6, o7) = foldL (m ++ [(o1, o2, (o3, o4, o5), o6, o7)]) ∧ insT l t (o1, o2, (o3, o4, o5), o6, o7) = foldT (m ++ [(o1, o2, (o3, o4, o5), o6, o7)]))) := HG
    rw [hz]
    clear hz HB2E HG HBAD1 HBAD2 HGO HLEN
    have m0 := hO1.at 0 rfl
    have m1 := hO1.at 1 rfl
    have m2 := hO1.at 2 rfl
    have m3 := hO1.at 3 rfl
    have m4 := hO1.at 4 rfl
    have m5 := hO1.at 5 rfl
    have m6 := hO1.at 6 rfl
    go_wp2_with fail
    refine (refCheckOp_any w1 (o1, o2, (o3, o4, o5), o6, o7)).mono ?_
    rintro e w2 ⟨rfl, hb2⟩
    have hH2 := hH1.keep hb2
    have hO2 := hO1.keep hb2
    have hR2 := hR1.keep hb2
    have HB2 : Hid (Below w.heap.size w w2) := HB1.out.trans (hb2.mono HB1.out.size)
    have hsz2 : w.heap.size + 3 ≤ w2.heap.size := by have := hb2.size; omega
    clear hH1 hO1 hR1 HB1 hb2 m0 m1 m2 m3 m4 m5 m6 hsz1
    by_cases hz : checkOp (o1, o2, (o3, o4, o5), o6, o7) = 0
    case neg =>
      have HE : Hid (insE l t (o1, o2, (o3, o4, o5), o6, o7) = checkOp (o1, o2, (o3, o4, o5), o6, o7)) := HBE.out hz
      have HZ : Hid (checkOp (o1, o2, (o3, o4, o5), o6, o7) ≠ 0) := hz
      have hz' : (checkOp (o1, o2, (o3, o4, o5), o6, o7) != 0) = true := by simpa using hz
      have r0 := hR2.at 0 rfl
      have r1 := hR2.at 1 rfl
      have rf := hR2.frz
      clear HBE HGE HHAS hz
      generalize checkOp (o1, o2, (o3, o4, o5), o6, o7) = E at *
      go_wp2
      have hRf := hR2.sets [Value.slice none 0 0, Value.slice none 0 0] rfl
      refine ret_cell_tmp Try.results32 rfl rfl (hRf.load Try.underlying62 rfl sizeHist) ?_
      have hzz := ins_err (l := l) (t := t) (o := (o1, o2, (o3, o4, o5), o6, o7)) (by rw [HE.out]; exact HZ.out)
      rw [HE.out]
      exact rfolds_err hzz.1 hzz.2 (below_sets HB2.out (w.heap.size + 1 + 1) (by omega) [Value.slice none 0 0, Value.slice none 0 0] 0)
    case pos =>
      obtain ⟨hg1, hg2⟩ := HGE.out hz
      have HG1 : Hid (hasM m o1 o2 = true → insE l t (o1, o2, (o3, o4, o5), o6, o7) = 6) := hg1
      have HG2 : Hid (hasM m o1 o2 = false → insE l t (o1, o2, (o3, o4, o5), o6, o7) = foldE (m ++ [(o1, o2, (o3, o4, o5), o6, o7)]) ∧ insL l t (o1, o2, (o3, o4, o5), o6, o7) = foldL (m ++ [(o1, o2, (o3, o4, o5), o6, o7)]) ∧ insT l t (o1, o2, (o3, o4, o5), o6, o7) = foldT (m ++ [(o1, o2, (o3, o4, o5), o6, o7)])) := hg2
      rw [hz]
      clear hz hg1 hg2 HGE HBE
      have x0 := hH2.at 0 rfl
      go_wp2
      go_loopw [25] (fun i W => ∃ k : Nat, k ≤ l.length ∧ i = .int .i64 k ∧ (∀ j, (hj : j < l.length) → j < k → ¬ (l[j].1.1 = o1 ∧ l[j].1.2.1 = o2)) ∧ Below w2.heap.size w2 W) (fun i _ => l.length - (intOf i).toNat)
      case atStart => exact ⟨0, Nat.zero_le _, rfl, fun j _ hj => absurd hj (Nat.not_lt_zero _), Below.refl _ _⟩
      case round =>
        obtain ⟨k, hk, rfl, hno, hb⟩ := hrel
        have HNO : Hid (∀ j, (hj : j < l.length) → j < k → ¬ (l[j].1.1 = o1 ∧ l[j].1.2.1 = o2)) := hno
        clear hno
        have hR3 := hR2.keep hb
        have hO3 := hO2.keep hb
        have hH3 := hH2.keep hb
        have HB3 : Hid (Below w.heap.size w wr) := HB2.out.trans (hb.mono HB2.out.size)
        have hsz3 : w.heap.size + 3 ≤ wr.heap.size := by have := hb.size; omega
        by_cases hlt : k < l.length
        · obtain ⟨b, off, rfl, hbl, hr⟩ := (HPW.out.below HB3.out).at stC_len k hlt
          obtain ⟨g0, g1, g2, g3, g4, g5, g6, g7, g8, g9, g10⟩ := st_cells hr
          have HK : Hid ((l[k].1.1 = o1 ∧ l[k].1.2.1 = o2) → hasM m o1 o2 = true) := fun h => HHAS.out.2 ⟨k, hlt, h⟩
          have HKE : Hid (∀ j, (hj : j < l.length) → j = k → l[j].1.1 = l[k].1.1 ∧ l[j].1.2.1 = l[k].1.2.1) := fun j hj e => by subst e; exact ⟨rfl, rfl⟩
          have he := run_eql_stamp
          have hgd := guard_stamp
          clear hr
          generalize l[k] = s at *
          obtain ⟨⟨q1, q2, ⟨q3, q4, q5⟩, q6, q7⟩, d', ⟨p1, p2, p3⟩⟩ := s
          simp only at g0 g1 g2 g3 g4 g5 g6 g7 g8 g9 g10 HK HKE
          obtain ⟨W4, hW4, hN, hBn, hS4⟩ := laid1 wr [Value.int IntKind.i64 q1, Value.int IntKind.i64 q2, Value.int IntKind.i64 q3, Value.int IntKind.i64 q4, Value.int IntKind.i64 q5, Value.int IntKind.i64 q6, Value.int IntKind.i64 q7, Value.bool d', Value.int IntKind.i64 p1, Value.int IntKind.i64 p2, Value.int IntKind.i64 p3] 51
          have hR4 := hR3.keep hBn
          have hO4 := hO3.keep hBn
          have HB4 : Hid (Below w2.heap.size w2 W4) := hb.trans (hBn.mono hb.size)
          have HBW4 : Hid (Below w.heap.size w W4) := HB3.out.trans (hBn.mono HB3.out.size)
          have n0 := hN.at 0 rfl
          have n1 := hN.at 1 rfl
          have m0 := hO4.at 0 rfl
          have m1 := hO4.at 1 rfl
          have r0 := hR4.at 0 rfl
          have r1 := hR4.at 1 rfl
          have rf := hR4.frz
          clear hR3 hO3 hH3 HB3 hBn hS4 hb hN
          by_cases hq : q1 = o1 ∧ q2 = o2
          · have hq1 : decide (q1 = o1) = true := by simp [hq.1]
            have hq2 : decide (q2 = o2) = true := by simp [hq.2]
            have HE : Hid (insE l t (o1, o2, (o3, o4, o5), o6, o7) = 6) := HG1.out (HK.out hq)
            clear hq HK HG1 HG2 HHAS
            go_wp2
            have hRf := hR4.sets [Value.slice none 0 0, Value.slice none 0 0] rfl
            refine ret_cell_tmp Try.results32 rfl rfl (hRf.load Try.underlying62 rfl sizeHist) ?_
            have hzz := ins_err (l := l) (t := t) (o := (o1, o2, (o3, o4, o5), o6, o7)) (by rw [HE.out]; decide)
            rw [HE.out]
            exact rfolds_err hzz.1 hzz.2 (below_sets HBW4.out (w.heap.size + 1 + 1) (by omega) [Value.slice none 0 0, Value.slice none 0 0] 0)
          · have hqf : (decide (q1 = o1) && decide (q2 = o2)) = false := by simpa using hq
            have HQ : Hid (¬ (q1 = o1 ∧ q2 = o2)) := hq
            clear hq HK
            go_wp2
            go_roundw
            case rel =>
              refine ⟨k + 1, hlt, by go_num, fun j hj hjk => ?_, HB4.out⟩
              by_cases hjk' : j < k
              · exact HNO.out j hj hjk'
              · obtain ⟨e1, e2⟩ := HKE.out j hj (by omega)
                rw [e1, e2]
                exact HQ.out
            case measure => simp [intOf]; omega
        · have HF : Hid (hasM m o1 o2 = false) := by
            show _ = _
            cases hq : hasM m o1 o2
            · rfl
            · obtain ⟨j, hj, e⟩ := HHAS.out.1 hq
              exact absurd e (HNO.out j hj (by omega))
          have HE : Hid (insE l t (o1, o2, (o3, o4, o5), o6, o7) = foldE (m ++ [(o1, o2, (o3, o4, o5), o6, o7)]) ∧ insL l t (o1, o2, (o3, o4, o5), o6, o7) = foldL (m ++ [(o1, o2, (o3, o4, o5), o6, o7)]) ∧ insT l t (o1, o2, (o3, o4, o5), o6, o7) = foldT (m ++ [(o1, o2, (o3, o4, o5), o6, o7)])) := HG2.out HF.out
          have hPS := HPW.out.below HB3.out
          have hml : m.length ≤ 30 := by rw [HML.out]; exact hll
          clear HG1 HG2 HHAS HNO HF hb hR2 hO2 hH2 HB2 hsz2 x0
          rename World => WI
          go_upto_region 13 with fail
          have hS' : Below WI.heap.size WI WI.drew := (Below.refl _ WI).drew
          refine wp_region_held_drew (S := fun w' => Blk w' w.heap.size [Value.slice a l.length c, Value.slice p t.length d] ∧ Blk w' (w.heap.size + 1) [Value.int IntKind.i64 o1, Value.int IntKind.i64 o2, Value.int IntKind.i64 o3, Value.int IntKind.i64 o4, Value.int IntKind.i64 o5, Value.int IntKind.i64 o6, Value.int IntKind.i64 o7]) (by kernel_rfl) ⟨hH3.drew, hO3.drew⟩ (fun hHeld => ?_)
          refine take_load 0 37 62 w.heap.size [Value.slice a l.length c, Value.slice p t.length d] rfl rfl (by kernel_rfl) (by kernel_rfl) (by kernel_rfl) (fun _ _ _ h => h) (by rfl) (by rfl) (by rfl) (fun w hw => hw.1.range) Try.underlying62 rfl sizeHist hHeld ?_
          simp only [Act.put, List.setIfInBounds_toArray, List.set_cons_succ, List.set_cons_zero]
          refine take_load 2 39 49 (w.heap.size + 1) [Value.int IntKind.i64 o1, Value.int IntKind.i64 o2, Value.int IntKind.i64 o3, Value.int IntKind.i64 o4, Value.int IntKind.i64 o5, Value.int IntKind.i64 o6, Value.int IntKind.i64 o7] rfl rfl (by kernel_rfl) (by kernel_rfl) (by kernel_rfl) (fun _ _ _ h => h) (by rfl) (by rfl) (by rfl) (fun w hw => hw.2.range) Try.underlying49 rfl sizeOp hHeld ?_
          simp only [Act.put, List.setIfInBounds_toArray, List.set_cons_succ, List.set_cons_zero]
          refine wpAnyH_ready (rs := [1, 3]) (by kernel_rfl) (by simp) ?_
          refine AllReadyH.cons rfl (fun K hK => ?_) (AllReadyH.cons rfl (fun K hK => ?_) AllReadyH.nil)
          · go_simp
            refine (rops_any _ a c l (.slice p t.length d) hl (hPS.below hS')).mono ?_
            rintro e w5 ⟨v5, rfl, hO5, hb5⟩
            rw [HM.out] at hO5
            obtain ⟨a5, c5, rfl, _, _⟩ := hO5.val
            have hS5 : Below WI.heap.size WI w5 := hS'.trans (hb5.mono hS'.size)
            go_wp2_with fail
            refine hK.out _ _ ⟨hH3.keep hS5, hO3.keep hS5⟩ (fun hHeld => ?_)
            clear hK K
            refine wpAnyH_ready (rs := [3]) (by kernel_rfl) (by simp) (AllReadyH.cons rfl (fun K hK => ?_) AllReadyH.nil)
            go_simp
            refine hK.out _ _ ⟨hHeld.1.alloc _, hHeld.2.alloc _⟩ (fun hHeld => ?_)
            clear hK K
            have hN6 := Blk.new w5 [Value.int IntKind.i64 o1, Value.int IntKind.i64 o2, Value.int IntKind.i64 o3, Value.int IntKind.i64 o4, Value.int IntKind.i64 o5, Value.int IntKind.i64 o6, Value.int IntKind.i64 o7] 49
            have hS6 : Below WI.heap.size WI (w5.alloc (.cells [Value.int IntKind.i64 o1, Value.int IntKind.i64 o2, Value.int IntKind.i64 o3, Value.int IntKind.i64 o4, Value.int IntKind.i64 o5, Value.int IntKind.i64 o6, Value.int IntKind.i64 o7].toArray 49)) := hS5.alloc hS5.size _
            have hown6 : (w5.alloc (.cells [Value.int IntKind.i64 o1, Value.int IntKind.i64 o2, Value.int IntKind.i64 o3, Value.int IntKind.i64 o4, Value.int IntKind.i64 o5, Value.int IntKind.i64 o6, Value.int IntKind.i64 o7].toArray 49)).ownsRow WI.heap.size 49 7 (.slice a5 m.length c5) m.length (m.flatMap opC) := (hO5.alloc _).row
            have hsz6 := hS6.size
            refine step_append (s := Operand.tmp 38) (x := Operand.tmp 40) 4 41 59 ?x0 rfl ?x2 ?x3 ?x4 WI.heap.size 49 i0 _ 7 56 Try.underlying59 hi hz0 hz1 hz2 ?x5 ?x6 (.slice a5 m.length c5) m.length (m.flatMap opC) ?x7 hown6 ⟨w5.heap.size, 0, none⟩ 1 1 [Value.int IntKind.i64 o1, Value.int IntKind.i64 o2, Value.int IntKind.i64 o3, Value.int IntKind.i64 o4, Value.int IntKind.i64 o5, Value.int IntKind.i64 o6, Value.int IntKind.i64 o7] ?x8 ?x9 ?xa ?xb ?xc ?xd ?xe ?_
            case x0 => kernel_rfl
            case x2 => rfl
            case x3 => rfl
            case x4 => rfl
            case x5 => rfl
            case x6 => decide
            case x7 => rfl
            case x8 => rfl
            case x9 => rfl
            case xa => intro j u hj; rw [Addr.add_mid, Nat.zero_add]; exact hN6.at j hj
            case xb => exact opC_one (o1, o2, (o3, o4, o5), o6, o7)
            case xc => unfold maxLen; omega
            case xd => omega
            case xe => exact hsz6
            intro v7 w7 hown' hgrow
            obtain ⟨Mn, hMn⟩ : ∃ Mn, Mn = m ++ [(o1, o2, (o3, o4, o5), o6, o7)] := ⟨_, rfl⟩
            have hO7 : OwnE opC 7 49 w7 WI.heap.size v7 Mn := by
              show World.ownsRow _ _ _ _ _ _ _
              rw [hMn]
              simpa [opC] using hown'
            have hgb : ∀ g, (Value.slice a5 m.length c5).ownBlock = some g → WI.heap.size ≤ g := fun g hg => (hown6.lt g hg).1
            have hS7 : Below WI.heap.size WI w7 := hS6.grown hgrow hsz6 hgb
            have HMN : Hid (Mn = m ++ [(o1, o2, (o3, o4, o5), o6, o7)]) := hMn
            have hlen7 : Mn.length ≤ maxLen := by rw [hMn]; simp; unfold maxLen; omega
            obtain ⟨a7, c7, rfl, hP7, _⟩ := hO7.val
            refine ⟨⟨hH3.keep hS7, hO3.keep hS7⟩, ?_⟩
            replace hHeld : Blk w7 w.heap.size [Value.slice a l.length c, Value.slice p t.length d] ∧ Blk w7 (w.heap.size + 1) [Value.int IntKind.i64 o1, Value.int IntKind.i64 o2, Value.int IntKind.i64 o3, Value.int IntKind.i64 o4, Value.int IntKind.i64 o5, Value.int IntKind.i64 o6, Value.int IntKind.i64 o7] := ⟨hH3.keep hS7, hO3.keep hS7⟩
            simp only [Act.put, List.setIfInBounds_toArray, List.set_cons_succ, List.set_cons_zero]
            clear hMn hown' hown6 hgrow hgb hO7
            refine wpAnyH_ready (rs := [5]) (by kernel_rfl) (by simp) (AllReadyH.cons rfl (fun K hK => ?_) AllReadyH.nil)
            go_simp
            refine (rfold_any w7 a7 c7 Mn hlen7 hP7).mono ?_
            rintro e w8 ⟨vL, aT, cT, rfl, hL8, hT8, hb8⟩
            have hS8 : Below WI.heap.size WI w8 := hS7.trans (hb8.mono hS7.size)
            have hsz7 := hS7.size
            have hL9 := hL8.mono (base' := WI.heap.size) hsz7
            obtain ⟨aL, cL, rfl, hPL8, _⟩ := hL9.val
            go_wp2_with fail
            refine hK.out _ _ ⟨hH3.keep hS8, hO3.keep hS8⟩ (fun hHeld => ?_)
            clear hK K
            refine take_yes 6 43 (v := ?_) rfl rfl (by kernel_rfl) (by kernel_rfl) (by kernel_rfl) (fun _ _ _ h => h) (by rfl) ?_ hHeld ?_
            rotate_left 1
            · (intro w hSw; (try dsimp only at hSw); go_simp; try with_reducible rfl)
            simp only [Act.put, List.setIfInBounds_toArray, List.set_cons_succ, List.set_cons_zero]
            refine take_yes 7 44 (v := ?_) rfl rfl (by kernel_rfl) (by kernel_rfl) (by kernel_rfl) (fun _ _ _ h => h) (by rfl) ?_ hHeld ?_
            rotate_left 1
            · (intro w hSw; (try dsimp only at hSw); go_simp; try with_reducible rfl)
            simp only [Act.put, List.setIfInBounds_toArray, List.set_cons_succ, List.set_cons_zero]
            have hR8 := hR3.keep hS8
            have HB8 : Hid (Below w.heap.size w w8) := HB3.out.trans (hS8.mono HB3.out.size)
            refine step_store 8 62 (w.heap.size + 1 + 1) [Value.slice aL (foldL Mn).length cL, Value.slice aT (foldT Mn).length cT] (by kernel_rfl) rfl rfl (by rfl) (by rfl) (by rfl) (by rfl) hR8.there sizeHist ?_ ⟨hHeld.1.others (by omega) _ _, hHeld.2.others (by omega) _ _⟩ ?_
            · intro v hv; simp at hv; rcases hv with rfl | rfl <;> rfl
            replace hHeld : Blk (w8.setCells (w.heap.size + 1 + 1) 0 [Value.slice aL (foldL Mn).length cL, Value.slice aT (foldT Mn).length cT]) w.heap.size [Value.slice a l.length c, Value.slice p t.length d] ∧ Blk (w8.setCells (w.heap.size + 1 + 1) 0 [Value.slice aL (foldL Mn).length cL, Value.slice aT (foldT Mn).length cT]) (w.heap.size + 1) [Value.int IntKind.i64 o1, Value.int IntKind.i64 o2, Value.int IntKind.i64 o3, Value.int IntKind.i64 o4, Value.int IntKind.i64 o5, Value.int IntKind.i64 o6, Value.int IntKind.i64 o7] := ⟨hHeld.1.others (by omega) _ _, hHeld.2.others (by omega) _ _⟩
            refine take_yes 9 5 (v := ?_) rfl rfl (by kernel_rfl) (by kernel_rfl) (by kernel_rfl) (fun _ _ _ h => h) (by rfl) ?_ hHeld ?_
            rotate_left 1
            · (intro w hSw; (try dsimp only at hSw); go_simp; try with_reducible rfl)
            simp only [Act.put, List.setIfInBounds_toArray, List.set_cons_succ, List.set_cons_zero]
            refine wpAnyH_done (by kernel_rfl) ?_ _
            clear hHeld
            go_wp2
            have hRf := hR8.sets [Value.slice aL (foldL Mn).length cL, Value.slice aT (foldT Mn).length cT] rfl
            refine ret_cell_tmp Try.results32 rfl rfl (hRf.load Try.underlying62 rfl sizeHist) ?_
            rw [HE.out.1, HE.out.2.1, HE.out.2.2, ← HMN.out]
            have e1 := (OwnE.others (w.heap.size + 1 + 1) (by omega) [Value.slice aL (foldL Mn).length cL, Value.slice aT (foldT Mn).length cT] 0 w8 hL9).mono (base' := w.heap.size) (by omega)
            exact ⟨_, aT, cT, rfl, e1, (SlT.others (w.heap.size + 1 + 1) (by omega) [Value.slice aL (foldL Mn).length cL, Value.slice aT (foldT Mn).length cT] 0 w8 (hT8.mono (base' := WI.heap.size) hsz7)).mono (by omega), below_sets HB8.out (w.heap.size + 1 + 1) (by omega) [Value.slice aL (foldL Mn).length cL, Value.slice aT (foldT Mn).length cT] 0⟩
          · go_simp
            refine hK.out _ _ ⟨hHeld.1.alloc _, hHeld.2.alloc _⟩ (fun hHeld => ?_)
            clear hK K
            have hN5 := (Blk.new WI [Value.int IntKind.i64 o1, Value.int IntKind.i64 o2, Value.int IntKind.i64 o3, Value.int IntKind.i64 o4, Value.int IntKind.i64 o5, Value.int IntKind.i64 o6, Value.int IntKind.i64 o7] 49).drew
            have hSA : Below WI.heap.size WI (WI.alloc (.cells [Value.int IntKind.i64 o1, Value.int IntKind.i64 o2, Value.int IntKind.i64 o3, Value.int IntKind.i64 o4, Value.int IntKind.i64 o5, Value.int IntKind.i64 o6, Value.int IntKind.i64 o7].toArray 49)).drew := ((Below.refl _ WI).alloc (Nat.le_refl _) _).drew
            refine wpAnyH_ready (rs := [1]) (by kernel_rfl) (by simp) (AllReadyH.cons rfl (fun K hK => ?_) AllReadyH.nil)
            go_simp
            refine (rops_any _ a c l (.slice p t.length d) hl (hPS.below hSA)).mono ?_
            rintro e w5 ⟨v5, rfl, hO5', hb5⟩
            rw [HM.out] at hO5'
            have hO5 := hO5'.mono (base' := WI.heap.size) (by show _ ≤ (WI.alloc _).heap.size; simp)
            obtain ⟨a5, c5, rfl, _, _⟩ := hO5.val
            have hS6 : Below WI.heap.size WI w5 := hSA.trans (hb5.mono hSA.size)
            have hN6 := hN5.keep hb5
            go_wp2_with fail
            refine hK.out _ _ ⟨hH3.keep hS6, hO3.keep hS6⟩ (fun hHeld => ?_)
            clear hK K
            have hown6 : w5.ownsRow WI.heap.size 49 7 (.slice a5 m.length c5) m.length (m.flatMap opC) := hO5.row
            have hsz6 := hS6.size
            refine step_append (s := Operand.tmp 38) (x := Operand.tmp 40) 4 41 59 ?y0 rfl ?y2 ?y3 ?y4 WI.heap.size 49 i0 _ 7 56 Try.underlying59 hi hz0 hz1 hz2 ?y5 ?y6 (.slice a5 m.length c5) m.length (m.flatMap opC) ?y7 hown6 ⟨WI.heap.size, 0, none⟩ 1 1 [Value.int IntKind.i64 o1, Value.int IntKind.i64 o2, Value.int IntKind.i64 o3, Value.int IntKind.i64 o4, Value.int IntKind.i64 o5, Value.int IntKind.i64 o6, Value.int IntKind.i64 o7] ?y8 ?y9 ?ya ?yb ?yc ?yd ?ye ?_
            case y0 => kernel_rfl
            case y2 => rfl
            case y3 => rfl
            case y4 => rfl
            case y5 => rfl
            case y6 => decide
            case y7 => rfl
            case y8 => rfl
            case y9 => rfl
            case ya => intro j u hj; rw [Addr.add_mid, Nat.zero_add]; exact hN6.at j hj
            case yb => exact opC_one (o1, o2, (o3, o4, o5), o6, o7)
            case yc => unfold maxLen; omega
            case yd => omega
            case ye => exact hsz6
            intro v7 w7 hown' hgrow
            obtain ⟨Mn, hMn⟩ : ∃ Mn, Mn = m ++ [(o1, o2, (o3, o4, o5), o6, o7)] := ⟨_, rfl⟩
            have hO7 : OwnE opC 7 49 w7 WI.heap.size v7 Mn := by
              show World.ownsRow _ _ _ _ _ _ _
              rw [hMn]
              simpa [opC] using hown'
            have hgb : ∀ g, (Value.slice a5 m.length c5).ownBlock = some g → WI.heap.size ≤ g := fun g hg => (hown6.lt g hg).1
            have hS7 : Below WI.heap.size WI w7 := hS6.grown hgrow hsz6 hgb
            have HMN : Hid (Mn = m ++ [(o1, o2, (o3, o4, o5), o6, o7)]) := hMn
            have hlen7 : Mn.length ≤ maxLen := by rw [hMn]; simp; unfold maxLen; omega
            obtain ⟨a7, c7, rfl, hP7, _⟩ := hO7.val
            refine ⟨⟨hH3.keep hS7, hO3.keep hS7⟩, ?_⟩
            replace hHeld : Blk w7 w.heap.size [Value.slice a l.length c, Value.slice p t.length d] ∧ Blk w7 (w.heap.size + 1) [Value.int IntKind.i64 o1, Value.int IntKind.i64 o2, Value.int IntKind.i64 o3, Value.int IntKind.i64 o4, Value.int IntKind.i64 o5, Value.int IntKind.i64 o6, Value.int IntKind.i64 o7] := ⟨hH3.keep hS7, hO3.keep hS7⟩
            simp only [Act.put, List.setIfInBounds_toArray, List.set_cons_succ, List.set_cons_zero]
            clear hMn hown' hown6 hgrow hgb hO7
            refine wpAnyH_ready (rs := [5]) (by kernel_rfl) (by simp) (AllReadyH.cons rfl (fun K hK => ?_) AllReadyH.nil)
            go_simp
            refine (rfold_any w7 a7 c7 Mn hlen7 hP7).mono ?_
            rintro e w8 ⟨vL, aT, cT, rfl, hL8, hT8, hb8⟩
            have hS8 : Below WI.heap.size WI w8 := hS7.trans (hb8.mono hS7.size)
            have hsz7 := hS7.size
            have hL9 := hL8.mono (base' := WI.heap.size) hsz7
            obtain ⟨aL, cL, rfl, hPL8, _⟩ := hL9.val
            go_wp2_with fail
            refine hK.out _ _ ⟨hH3.keep hS8, hO3.keep hS8⟩ (fun hHeld => ?_)
            clear hK K
            refine take_yes 6 43 (v := ?_) rfl rfl (by kernel_rfl) (by kernel_rfl) (by kernel_rfl) (fun _ _ _ h => h) (by rfl) ?_ hHeld ?_
            rotate_left 1
            · (intro w hSw; (try dsimp only at hSw); go_simp; try with_reducible rfl)
            simp only [Act.put, List.setIfInBounds_toArray, List.set_cons_succ, List.set_cons_zero]
            refine take_yes 7 44 (v := ?_) rfl rfl (by kernel_rfl) (by kernel_rfl) (by kernel_rfl) (fun _ _ _ h => h) (by rfl) ?_ hHeld ?_
            rotate_left 1
            · (intro w hSw; (try dsimp only at hSw); go_simp; try with_reducible rfl)
            simp only [Act.put, List.setIfInBounds_toArray, List.set_cons_succ, List.set_cons_zero]
            have hR8 := hR3.keep hS8
            have HB8 : Hid (Below w.heap.size w w8) := HB3.out.trans (hS8.mono HB3.out.size)
            refine step_store 8 62 (w.heap.size + 1 + 1) [Value.slice aL (foldL Mn).length cL, Value.slice aT (foldT Mn).length cT] (by kernel_rfl) rfl rfl (by rfl) (by rfl) (by rfl) (by rfl) hR8.there sizeHist ?_ ⟨hHeld.1.others (by omega) _ _, hHeld.2.others (by omega) _ _⟩ ?_
            · intro v hv; simp at hv; rcases hv with rfl | rfl <;> rfl
            replace hHeld : Blk (w8.setCells (w.heap.size + 1 + 1) 0 [Value.slice aL (foldL Mn).length cL, Value.slice aT (foldT Mn).length cT]) w.heap.size [Value.slice a l.length c, Value.slice p t.length d] ∧ Blk (w8.setCells (w.heap.size + 1 + 1) 0 [Value.slice aL (foldL Mn).length cL, Value.slice aT (foldT Mn).length cT]) (w.heap.size + 1) [Value.int IntKind.i64 o1, Value.int IntKind.i64 o2, Value.int IntKind.i64 o3, Value.int IntKind.i64 o4, Value.int IntKind.i64 o5, Value.int IntKind.i64 o6, Value.int IntKind.i64 o7] := ⟨hHeld.1.others (by omega) _ _, hHeld.2.others (by omega) _ _⟩
            refine take_yes 9 5 (v := ?_) rfl rfl (by kernel_rfl) (by kernel_rfl) (by kernel_rfl) (fun _ _ _ h => h) (by rfl) ?_ hHeld ?_
            rotate_left 1
            · (intro w hSw; (try dsimp only at hSw); go_simp; try with_reducible rfl)
            simp only [Act.put, List.setIfInBounds_toArray, List.set_cons_succ, List.set_cons_zero]
            refine wpAnyH_done (by kernel_rfl) ?_ _
            clear hHeld
            go_wp2
            have hRf := hR8.sets [Value.slice aL (foldL Mn).length cL, Value.slice aT (foldT Mn).length cT] rfl
            refine ret_cell_tmp Try.results32 rfl rfl (hRf.load Try.underlying62 rfl sizeHist) ?_
            rw [HE.out.1, HE.out.2.1, HE.out.2.2, ← HMN.out]
            have e1 := (OwnE.others (w.heap.size + 1 + 1) (by omega) [Value.slice aL (foldL Mn).length cL, Value.slice aT (foldT Mn).length cT] 0 w8 hL9).mono (base' := w.heap.size) (by omega)
            exact ⟨_, aT, cT, rfl, e1, (SlT.others (w.heap.size + 1 + 1) (by omega) [Value.slice aL (foldL Mn).length cL, Value.slice aT (foldT Mn).length cT] 0 w8 (hT8.mono (base' := WI.heap.size) hsz7)).mono (by omega), below_sets HB8.out (w.heap.size + 1 + 1) (by omega) [Value.slice aL (foldL Mn).length cL, Value.slice aT (foldT Mn).length cT] 0⟩
end Go.Proofs.Ytphameoibnimmaa

/- orangerylaw.HistorySays: the walk. -/
namespace Go.Proofs.Ytphameoibnimmaa
open Go.ChangeShapes Go.WideShapes Go.ChangeAt Go.RowKit
open Orangery (Pl Mv Stp checkOp foldE foldL foldT histE insE insL insT sameB)

theorem sameB_self (l : List Stp) (t : List Pl) : sameB l l t t = true := (Orangery.sameB_iff l l t t).2 ⟨rfl, rfl⟩
theorem insL_len (l : List Stp) (t : List Pl) (o : Mv) : (insL l t o).length ≤ 30 := by
  unfold insL
  split
  · simp
  · exact foldL_len _
theorem insT_len (l : List Stp) (t : List Pl) (o : Mv) : (insT l t o).length ≤ 15 := by
  unfold insT
  split
  · simp
  · exact foldT_len _

set_option maxHeartbeats 4000000 in
set_option maxRecDepth 100000 in
theorem historySays_any (w : World) (a : Option Addr) (c : Nat) (l : List Mv) (aL aT : Option Addr) (cL cT : Nat) (L : List Stp) (T : List Pl) (o : Mv) (aM aU : Option Addr) (cM cU : Nat) (M : List Stp) (U : List Pl)
    (hl : l.length ≤ maxLen) (hc : l.length ≤ c) (h : SlE opC w a l) (hL : L.length * 88 ≤ 140737488351232) (hT : T.length ≤ maxLen) (h1 : SlE stC w aL L) (h2 : SlP w aT T) (h3 : SlE stC w aM M) (h4 : SlP w aU U) :
    Calls Try.prog 8 #[.slice a l.length c, hiV (.slice aL L.length cL) (.slice aT T.length cT), opV o, hiV (.slice aM M.length cM) (.slice aU U.length cU)] w
      fun e w' => e = .returned (.bool true) ∧ Below w.heap.size w w' := by
  have hL2 : L.length ≤ maxLen := by unfold maxLen; omega
  have HLL : Hid (L.length * 88 ≤ 140737488351232) := hL
  have HLM : Hid (L.length ≤ maxLen) := hL2
  have HTM : Hid (T.length ≤ maxLen) := hT
  have HFL : Hid (∀ m : List Mv, (foldL m).length ≤ maxLen) := fun m => by have := foldL_len m; unfold maxLen; omega
  have HFT : Hid (∀ m : List Mv, (foldT m).length ≤ maxLen) := fun m => by have := foldT_len m; unfold maxLen; omega
  have HIL : Hid ((insL L T o).length ≤ maxLen) := by show _ ≤ _; have := insL_len L T o; unfold maxLen; omega
  have HIT : Hid ((insT L T o).length ≤ maxLen) := by show _ ≤ _; have := insT_len L T o; unfold maxLen; omega
  obtain ⟨W0, hW, BH, BO, BG, hb, hS⟩ := laid3 w [Value.slice aL L.length cL, Value.slice aT T.length cT] 62 [Value.int IntKind.i64 o.1, Value.int IntKind.i64 o.2.1, Value.int IntKind.i64 o.2.2.1.1, Value.int IntKind.i64 o.2.2.1.2.1, Value.int IntKind.i64 o.2.2.1.2.2, Value.int IntKind.i64 o.2.2.2.1, Value.int IntKind.i64 o.2.2.2.2] 49 [Value.slice aM M.length cM, Value.slice aU U.length cU] 62
  have HB0 : Hid (Below w.heap.size w W0) := hb
  have PA0 := h.below hb
  have PL0 := h1.below hb
  have PT0 := h2.below hb
  have PM0 := h3.below hb
  have PU0 := h4.below hb
  have BH0 := BH
  have BO0 := BO
  have BG0 := BG
  clear h h1 h2 h3 h4 hb hS BH BO BG hL hT hL2
  go_enter Try.func8, Try.ntmps8
  go_wp2_with fail
  clear hW
  refine (fold_any W0 a c l hl hc PA0).mono ?_
  rintro e w1 ⟨vL, vT, rfl, hL, hT, hb⟩
  obtain ⟨aFL, cFL, rfl, q1, _⟩ := hL.val
  obtain ⟨aFT, cFT, rfl⟩ := hT.val
  have q2 := hT.read
  clear hL hT
  have PA1 := PA0.below hb
  have PL1 := PL0.below hb
  have PT1 := PT0.below hb
  have PM1 := PM0.below hb
  have PU1 := PU0.below hb
  have BH1 := BH0.keep hb
  have BO1 := BO0.keep hb
  have BG1 := BG0.keep hb
  have HB1 : Hid (Below w.heap.size w w1) := HB0.out.trans (hb.mono HB0.out.size)
  clear PA0 PL0 PT0 PM0 PU0 BH0 BO0 BG0 HB0
  have QFL1 := q1
  have QFT1 := q2
  clear q1 q2 hb
  obtain ⟨WF, hWF, BF_, hb, hSF⟩ := laid1 w1 [Value.slice aFL (foldL l).length cFL, Value.slice aFT (foldT l).length cFT] 62
  have PA2 := PA1.below hb
  have PL2 := PL1.below hb
  have PT2 := PT1.below hb
  have PM2 := PM1.below hb
  have PU2 := PU1.below hb
  have BH2 := BH1.keep hb
  have BO2 := BO1.keep hb
  have BG2 := BG1.keep hb
  have QFL2 := QFL1.below hb
  have QFT2 := QFT1.below hb
  have HB2 : Hid (Below w.heap.size w WF) := HB1.out.trans (hb.mono HB1.out.size)
  clear PA1 PL1 PT1 PM1 PU1 BH1 BO1 BG1 QFL1 QFT1 HB1
  have BF2 := BF_
  clear BF_ hSF
  clear hb
  have m0 := BO2.at 0 rfl
  have m1 := BO2.at 1 rfl
  have m2 := BO2.at 2 rfl
  have m3 := BO2.at 3 rfl
  have m4 := BO2.at 4 rfl
  have m5 := BO2.at 5 rfl
  have m6 := BO2.at 6 rfl
  have x0 := BH2.at 0 rfl
  have x1 := BH2.at 1 rfl
  go_wp2_with fail
  clear hWF
  refine (insert_any WF aL aT cL cT L T o HLL.out HTM.out PL2 PT2).mono ?_
  clear m0 m1 m2 m3 m4 m5 m6 x0 x1
  rintro e w2 ⟨vL, vT, rfl, hL, hT, hb⟩
  obtain ⟨aIL, cIL, rfl, q1, _⟩ := hL.val
  obtain ⟨aIT, cIT, rfl⟩ := hT.val
  have q2 := hT.read
  clear hL hT
  have PA3 := PA2.below hb
  have PL3 := PL2.below hb
  have PT3 := PT2.below hb
  have PM3 := PM2.below hb
  have PU3 := PU2.below hb
  have BH3 := BH2.keep hb
  have BO3 := BO2.keep hb
  have BG3 := BG2.keep hb
  have QFL3 := QFL2.below hb
  have QFT3 := QFT2.below hb
  have BF3 := BF2.keep hb
  have HB3 : Hid (Below w.heap.size w w2) := HB2.out.trans (hb.mono HB2.out.size)
  clear PA2 PL2 PT2 PM2 PU2 BH2 BO2 BG2 QFL2 QFT2 BF2 HB2
  have QIL3 := q1
  have QIT3 := q2
  clear q1 q2 hb
  obtain ⟨WI, hWI, BI_, hb, hSI⟩ := laid1 w2 [Value.slice aIL (insL L T o).length cIL, Value.slice aIT (insT L T o).length cIT] 62
  have PA4 := PA3.below hb
  have PL4 := PL3.below hb
  have PT4 := PT3.below hb
  have PM4 := PM3.below hb
  have PU4 := PU3.below hb
  have BH4 := BH3.keep hb
  have BO4 := BO3.keep hb
  have BG4 := BG3.keep hb
  have QFL4 := QFL3.below hb
  have QFT4 := QFT3.below hb
  have BF4 := BF3.keep hb
  have QIL4 := QIL3.below hb
  have QIT4 := QIT3.below hb
  have HB4 : Hid (Below w.heap.size w WI) := HB3.out.trans (hb.mono HB3.out.size)
  clear PA3 PL3 PT3 PM3 PU3 BH3 BO3 BG3 QFL3 QFT3 BF3 QIL3 QIT3 HB3
  have BI4 := BI_
  clear BI_ hSI
  clear hb
  go_wp2_with fail
  clear hWI
  refine (rfold_any WI a c l hl PA4).mono ?_
  rintro e w3 ⟨vL, aRT, cRT, rfl, hL, hT, hb⟩
  obtain ⟨aRL, cRL, rfl, q1, _⟩ := hL.val
  have q2 := hT.slp
  clear hL hT
  have PA5 := PA4.below hb
  have PL5 := PL4.below hb
  have PT5 := PT4.below hb
  have PM5 := PM4.below hb
  have PU5 := PU4.below hb
  have BH5 := BH4.keep hb
  have BO5 := BO4.keep hb
  have BG5 := BG4.keep hb
  have QFL5 := QFL4.below hb
  have QFT5 := QFT4.below hb
  have BF5 := BF4.keep hb
  have QIL5 := QIL4.below hb
  have QIT5 := QIT4.below hb
  have BI5 := BI4.keep hb
  have HB5 : Hid (Below w.heap.size w w3) := HB4.out.trans (hb.mono HB4.out.size)
  clear PA4 PL4 PT4 PM4 PU4 BH4 BO4 BG4 QFL4 QFT4 BF4 QIL4 QIT4 BI4 HB4
  have QRL5 := q1
  have QRT5 := q2
  clear q1 q2 hb
  obtain ⟨WR, hWR, BR_, hb, hSR⟩ := laid1 w3 [Value.slice aRL (foldL l).length cRL, Value.slice aRT (foldT l).length cRT] 62
  have PA6 := PA5.below hb
  have PL6 := PL5.below hb
  have PT6 := PT5.below hb
  have PM6 := PM5.below hb
  have PU6 := PU5.below hb
  have BH6 := BH5.keep hb
  have BO6 := BO5.keep hb
  have BG6 := BG5.keep hb
  have QFL6 := QFL5.below hb
  have QFT6 := QFT5.below hb
  have BF6 := BF5.keep hb
  have QIL6 := QIL5.below hb
  have QIT6 := QIT5.below hb
  have BI6 := BI5.keep hb
  have QRL6 := QRL5.below hb
  have QRT6 := QRT5.below hb
  have HB6 : Hid (Below w.heap.size w WR) := HB5.out.trans (hb.mono HB5.out.size)
  clear PA5 PL5 PT5 PM5 PU5 BH5 BO5 BG5 QFL5 QFT5 BF5 QIL5 QIT5 BI5 QRL5 QRT5 HB5
  have BR6 := BR_
  clear BR_ hSR
  clear hb
  have m0 := BO6.at 0 rfl
  have m1 := BO6.at 1 rfl
  have m2 := BO6.at 2 rfl
  have m3 := BO6.at 3 rfl
  have m4 := BO6.at 4 rfl
  have m5 := BO6.at 5 rfl
  have m6 := BO6.at 6 rfl
  have x0 := BH6.at 0 rfl
  have x1 := BH6.at 1 rfl
  go_wp2_with fail
  clear hWR
  refine (rinsert_any WR aL aT cL cT L T o HLL.out PL6 PT6).mono ?_
  clear m0 m1 m2 m3 m4 m5 m6 x0 x1
  rintro e w4 ⟨vL, aST, cST, rfl, hL, hT, hb⟩
  obtain ⟨aSL, cSL, rfl, q1, _⟩ := hL.val
  have q2 := hT.slp
  clear hL hT
  have PA7 := PA6.below hb
  have PL7 := PL6.below hb
  have PT7 := PT6.below hb
  have PM7 := PM6.below hb
  have PU7 := PU6.below hb
  have BH7 := BH6.keep hb
  have BO7 := BO6.keep hb
  have BG7 := BG6.keep hb
  have QFL7 := QFL6.below hb
  have QFT7 := QFT6.below hb
  have BF7 := BF6.keep hb
  have QIL7 := QIL6.below hb
  have QIT7 := QIT6.below hb
  have BI7 := BI6.keep hb
  have QRL7 := QRL6.below hb
  have QRT7 := QRT6.below hb
  have BR7 := BR6.keep hb
  have HB7 : Hid (Below w.heap.size w w4) := HB6.out.trans (hb.mono HB6.out.size)
  clear PA6 PL6 PT6 PM6 PU6 BH6 BO6 BG6 QFL6 QFT6 BF6 QIL6 QIT6 BI6 QRL6 QRT6 BR6 HB6
  have QSL7 := q1
  have QST7 := q2
  clear q1 q2 hb
  obtain ⟨WS, hWS, BS_, hb, hSS⟩ := laid1 w4 [Value.slice aSL (insL L T o).length cSL, Value.slice aST (insT L T o).length cST] 62
  have PA8 := PA7.below hb
  have PL8 := PL7.below hb
  have PT8 := PT7.below hb
  have PM8 := PM7.below hb
  have PU8 := PU7.below hb
  have BH8 := BH7.keep hb
  have BO8 := BO7.keep hb
  have BG8 := BG7.keep hb
  have QFL8 := QFL7.below hb
  have QFT8 := QFT7.below hb
  have BF8 := BF7.keep hb
  have QIL8 := QIL7.below hb
  have QIT8 := QIT7.below hb
  have BI8 := BI7.keep hb
  have QRL8 := QRL7.below hb
  have QRT8 := QRT7.below hb
  have BR8 := BR7.keep hb
  have QSL8 := QSL7.below hb
  have QST8 := QST7.below hb
  have HB8 : Hid (Below w.heap.size w WS) := HB7.out.trans (hb.mono HB7.out.size)
  clear PA7 PL7 PT7 PM7 PU7 BH7 BO7 BG7 QFL7 QFT7 BF7 QIL7 QIT7 BI7 QRL7 QRT7 BR7 QSL7 QST7 HB7
  have BS8 := BS_
  clear BS_ hSS
  clear hb
  go_upto_region 5 with fail
  clear hWS
  have HPA : Hid (SlE opC WS a l) := PA8
  have HPL : Hid (SlE stC WS aL L) := PL8
  have HPT : Hid (SlP WS aT T) := PT8
  have HPM : Hid (SlE stC WS aM M) := PM8
  have HPU : Hid (SlP WS aU U) := PU8
  have HBH : Hid (Blk WS w.heap.size [Value.slice aL L.length cL, Value.slice aT T.length cT]) := BH8
  have HBG : Hid (Blk WS (w.heap.size + 1 + 1) [Value.slice aM M.length cM, Value.slice aU U.length cU]) := BG8
  have HQFL : Hid (SlE stC WS aFL (foldL l)) := QFL8
  have HQFT : Hid (SlP WS aFT (foldT l)) := QFT8
  have HBF : Hid (Blk WS w1.heap.size [Value.slice aFL (foldL l).length cFL, Value.slice aFT (foldT l).length cFT]) := BF8
  have HQIL : Hid (SlE stC WS aIL (insL L T o)) := QIL8
  have HQIT : Hid (SlP WS aIT (insT L T o)) := QIT8
  have HBI : Hid (Blk WS w2.heap.size [Value.slice aIL (insL L T o).length cIL, Value.slice aIT (insT L T o).length cIT]) := BI8
  have HQRL : Hid (SlE stC WS aRL (foldL l)) := QRL8
  have HQRT : Hid (SlP WS aRT (foldT l)) := QRT8
  have HBR : Hid (Blk WS w3.heap.size [Value.slice aRL (foldL l).length cRL, Value.slice aRT (foldT l).length cRT]) := BR8
  have HQSL : Hid (SlE stC WS aSL (insL L T o)) := QSL8
  have HQST : Hid (SlP WS aST (insT L T o)) := QST8
  have HBS : Hid (Blk WS w4.heap.size [Value.slice aSL (insL L T o).length cSL, Value.slice aST (insT L T o).length cST]) := BS8
  clear PA8 PL8 PT8 PM8 PU8 BH8 BO8 BG8 QFL8 QFT8 BF8 QIL8 QIT8 BI8 QRL8 QRT8 BR8 QSL8 QST8 BS8
  have hS' : Below WS.heap.size WS WS.drew := (Below.refl _ WS).drew
  refine wp_region_held_drew (S := fun w' => Below WS.heap.size WS w') (by kernel_rfl) hS' (fun hHeld => ?_)
  refine wpAnyH_ready (rs := [0]) (by kernel_rfl) (by simp) ?_
  refine AllReadyH.cons rfl (fun K hK => ?_) AllReadyH.nil
  go_simp
  refine (folded_any _).mono ?_
  rintro e wn ⟨rfl, hb⟩
  have hS' : Below WS.heap.size WS wn := Below.trans hS' (hb.mono (Below.size hS'))
  go_wp2_with fail
  refine hK.out _ _ hS' (fun hHeld => ?_)
  clear hK K
  refine take_yes 1 40 (v := ?_) rfl rfl (by kernel_rfl) (by kernel_rfl) (by kernel_rfl) (fun _ _ _ h => h) (by rfl) ?_ hHeld ?_
  rotate_left 1
  · (intro w hSw; go_simp; try with_reducible rfl)
  simp only [Act.put, List.setIfInBounds_toArray, List.set_cons_succ, List.set_cons_zero]
  refine take_load 2 41 62 w.heap.size [Value.slice aL L.length cL, Value.slice aT T.length cT] rfl rfl (by kernel_rfl) (by kernel_rfl) (by kernel_rfl) (fun _ _ _ h => h) (by rfl) (by rfl) (by rfl) (fun w hw => (HBH.out.keep hw).range) Try.underlying62 rfl sizeHist hHeld ?_
  simp only [Act.put, List.setIfInBounds_toArray, List.set_cons_succ, List.set_cons_zero]
  refine take_load 4 43 62 w.heap.size [Value.slice aL L.length cL, Value.slice aT T.length cT] rfl rfl (by kernel_rfl) (by kernel_rfl) (by kernel_rfl) (fun _ _ _ h => h) (by rfl) (by rfl) (by rfl) (fun w hw => (HBH.out.keep hw).range) Try.underlying62 rfl sizeHist hHeld ?_
  simp only [Act.put, List.setIfInBounds_toArray, List.set_cons_succ, List.set_cons_zero]
  refine wpAnyH_ready (rs := [3]) (by kernel_rfl) (by simp) ?_
  refine AllReadyH.cons rfl (fun K hK => ?_) AllReadyH.nil
  go_simp
  refine (hcheck_any _ aL aT cL cT L T HLL.out HTM.out (HPL.out.below hS') (HPT.out.below hS')).mono ?_
  rintro e wn ⟨rfl, hb⟩
  have hS' : Below WS.heap.size WS wn := Below.trans hS' (hb.mono (Below.size hS'))
  go_wp2_with fail
  refine hK.out _ _ hS' (fun hHeld => ?_)
  clear hK K
  refine wpAnyH_ready (rs := [5]) (by kernel_rfl) (by simp) ?_
  refine AllReadyH.cons rfl (fun K hK => ?_) AllReadyH.nil
  go_simp
  refine (rcheck_any _ aL aT cL cT L T HLL.out (HPL.out.below hS') (HPT.out.below hS')).mono ?_
  rintro e wn ⟨rfl, hb⟩
  have hS' : Below WS.heap.size WS wn := Below.trans hS' (hb.mono (Below.size hS'))
  go_wp2_with fail
  refine hK.out _ _ hS' (fun hHeld => ?_)
  clear hK K
  refine take_yes 6 45 (v := ?_) rfl rfl (by kernel_rfl) (by kernel_rfl) (by kernel_rfl) (fun _ _ _ h => h) (by rfl) ?_ hHeld ?_
  rotate_left 1
  · (intro w hSw; go_simp; try with_reducible rfl)
  simp only [Act.put, List.setIfInBounds_toArray, List.set_cons_succ, List.set_cons_zero]
  refine take_yes 7 46 (v := ?_) rfl rfl (by kernel_rfl) (by kernel_rfl) (by kernel_rfl) (fun _ _ _ h => h) (by rfl) ?_ hHeld ?_
  rotate_left 1
  · (intro w hSw; go_simp; try with_reducible rfl)
  simp only [Act.put, List.setIfInBounds_toArray, List.set_cons_succ, List.set_cons_zero]
  refine take_yes 8 47 (v := ?_) rfl rfl (by kernel_rfl) (by kernel_rfl) (by kernel_rfl) (fun _ _ _ h => h) (by rfl) ?_ hHeld ?_
  rotate_left 1
  · (intro w hSw; go_simp; try with_reducible rfl)
  simp only [Act.put, List.setIfInBounds_toArray, List.set_cons_succ, List.set_cons_zero]
  refine take_load 9 48 62 w.heap.size [Value.slice aL L.length cL, Value.slice aT T.length cT] rfl rfl (by kernel_rfl) (by kernel_rfl) (by kernel_rfl) (fun _ _ _ h => h) (by rfl) (by rfl) (by rfl) (fun w hw => (HBH.out.keep hw).range) Try.underlying62 rfl sizeHist hHeld ?_
  simp only [Act.put, List.setIfInBounds_toArray, List.set_cons_succ, List.set_cons_zero]
  refine take_load 10 49 62 (w.heap.size + 1 + 1) [Value.slice aM M.length cM, Value.slice aU U.length cU] rfl rfl (by kernel_rfl) (by kernel_rfl) (by kernel_rfl) (fun _ _ _ h => h) (by rfl) (by rfl) (by rfl) (fun w hw => (HBG.out.keep hw).range) Try.underlying62 rfl sizeHist hHeld ?_
  simp only [Act.put, List.setIfInBounds_toArray, List.set_cons_succ, List.set_cons_zero]
  refine take_load 12 51 62 w.heap.size [Value.slice aL L.length cL, Value.slice aT T.length cT] rfl rfl (by kernel_rfl) (by kernel_rfl) (by kernel_rfl) (fun _ _ _ h => h) (by rfl) (by rfl) (by rfl) (fun w hw => (HBH.out.keep hw).range) Try.underlying62 rfl sizeHist hHeld ?_
  simp only [Act.put, List.setIfInBounds_toArray, List.set_cons_succ, List.set_cons_zero]
  refine take_load 13 52 62 (w.heap.size + 1 + 1) [Value.slice aM M.length cM, Value.slice aU U.length cU] rfl rfl (by kernel_rfl) (by kernel_rfl) (by kernel_rfl) (fun _ _ _ h => h) (by rfl) (by rfl) (by rfl) (fun w hw => (HBG.out.keep hw).range) Try.underlying62 rfl sizeHist hHeld ?_
  simp only [Act.put, List.setIfInBounds_toArray, List.set_cons_succ, List.set_cons_zero]
  refine wpAnyH_ready (rs := [11]) (by kernel_rfl) (by simp) ?_
  refine AllReadyH.cons rfl (fun K hK => ?_) AllReadyH.nil
  go_simp
  refine (same_any _ aL aM aT aU cL cM cT cU L M T U HLM.out HTM.out (HPL.out.below hS') (HPM.out.below hS') (HPT.out.below hS') (HPU.out.below hS')).mono ?_
  rintro e wn ⟨rfl, hb⟩
  have hS' : Below WS.heap.size WS wn := Below.trans hS' (hb.mono (Below.size hS'))
  go_wp2_with fail
  refine hK.out _ _ hS' (fun hHeld => ?_)
  clear hK K
  refine wpAnyH_ready (rs := [14]) (by kernel_rfl) (by simp) ?_
  refine AllReadyH.cons rfl (fun K hK => ?_) AllReadyH.nil
  go_simp
  refine (rsame_any _ aL aM aT aU cL cM cT cU L M T U HLM.out HTM.out (HPL.out.below hS') (HPM.out.below hS') (HPT.out.below hS') (HPU.out.below hS')).mono ?_
  rintro e wn ⟨rfl, hb⟩
  have hS' : Below WS.heap.size WS wn := Below.trans hS' (hb.mono (Below.size hS'))
  go_wp2_with fail
  refine hK.out _ _ hS' (fun hHeld => ?_)
  clear hK K
  refine take_yes 15 54 (v := ?_) rfl rfl (by kernel_rfl) (by kernel_rfl) (by kernel_rfl) (fun _ _ _ h => h) (by rfl) ?_ hHeld ?_
  rotate_left 1
  · (intro w hSw; go_simp; try with_reducible rfl)
  simp only [Act.put, List.setIfInBounds_toArray, List.set_cons_succ, List.set_cons_zero]
  refine take_yes 16 55 (v := ?_) rfl rfl (by kernel_rfl) (by kernel_rfl) (by kernel_rfl) (fun _ _ _ h => h) (by rfl) ?_ hHeld ?_
  rotate_left 1
  · (intro w hSw; go_simp; try with_reducible rfl)
  simp only [Act.put, List.setIfInBounds_toArray, List.set_cons_succ, List.set_cons_zero]
  refine take_yes 17 56 (v := ?_) rfl rfl (by kernel_rfl) (by kernel_rfl) (by kernel_rfl) (fun _ _ _ h => h) (by rfl) ?_ hHeld ?_
  rotate_left 1
  · (intro w hSw; go_simp; try with_reducible rfl)
  simp only [Act.put, List.setIfInBounds_toArray, List.set_cons_succ, List.set_cons_zero]
  refine take_yes 18 57 (v := ?_) rfl rfl (by kernel_rfl) (by kernel_rfl) (by kernel_rfl) (fun _ _ _ h => h) (by rfl) ?_ hHeld ?_
  rotate_left 1
  · (intro w hSw; go_simp; try with_reducible rfl)
  simp only [Act.put, List.setIfInBounds_toArray, List.set_cons_succ, List.set_cons_zero]
  refine take_yes 19 58 (v := ?_) rfl rfl (by kernel_rfl) (by kernel_rfl) (by kernel_rfl) (fun _ _ _ h => h) (by rfl) ?_ hHeld ?_
  rotate_left 1
  · (intro w hSw; go_simp; try with_reducible rfl)
  simp only [Act.put, List.setIfInBounds_toArray, List.set_cons_succ, List.set_cons_zero]
  refine take_yes 20 59 (v := ?_) rfl rfl (by kernel_rfl) (by kernel_rfl) (by kernel_rfl) (fun _ _ _ h => h) (by rfl) ?_ hHeld ?_
  rotate_left 1
  · (intro w hSw; go_simp; try with_reducible rfl)
  simp only [Act.put, List.setIfInBounds_toArray, List.set_cons_succ, List.set_cons_zero]
  refine take_yes 21 60 (v := ?_) rfl rfl (by kernel_rfl) (by kernel_rfl) (by kernel_rfl) (fun _ _ _ h => h) (by rfl) ?_ hHeld ?_
  rotate_left 1
  · (intro w hSw; go_simp; try with_reducible rfl)
  simp only [Act.put, List.setIfInBounds_toArray, List.set_cons_succ, List.set_cons_zero]
  refine take_yes 22 61 (v := ?_) rfl rfl (by kernel_rfl) (by kernel_rfl) (by kernel_rfl) (fun _ _ _ h => h) (by rfl) ?_ hHeld ?_
  rotate_left 1
  · (intro w hSw; go_simp; try with_reducible rfl)
  simp only [Act.put, List.setIfInBounds_toArray, List.set_cons_succ, List.set_cons_zero]
  refine take_load 23 62 62 w1.heap.size [Value.slice aFL (foldL l).length cFL, Value.slice aFT (foldT l).length cFT] rfl rfl (by kernel_rfl) (by kernel_rfl) (by kernel_rfl) (fun _ _ _ h => h) (by rfl) (by rfl) (by rfl) (fun w hw => (HBF.out.keep hw).range) Try.underlying62 rfl sizeHist hHeld ?_
  simp only [Act.put, List.setIfInBounds_toArray, List.set_cons_succ, List.set_cons_zero]
  refine take_load 24 63 62 w3.heap.size [Value.slice aRL (foldL l).length cRL, Value.slice aRT (foldT l).length cRT] rfl rfl (by kernel_rfl) (by kernel_rfl) (by kernel_rfl) (fun _ _ _ h => h) (by rfl) (by rfl) (by rfl) (fun w hw => (HBR.out.keep hw).range) Try.underlying62 rfl sizeHist hHeld ?_
  simp only [Act.put, List.setIfInBounds_toArray, List.set_cons_succ, List.set_cons_zero]
  refine wpAnyH_ready (rs := [25]) (by kernel_rfl) (by simp) ?_
  refine AllReadyH.cons rfl (fun K hK => ?_) AllReadyH.nil
  go_simp
  refine (rsame_any _ aFL aRL aFT aRT cFL cRL cFT cRT (foldL l) (foldL l) (foldT l) (foldT l) (HFL.out l) (HFT.out l) (HQFL.out.below hS') (HQRL.out.below hS') (HQFT.out.below hS') (HQRT.out.below hS')).mono ?_
  rintro e wn ⟨rfl, hb⟩
  rw [sameB_self]
  have hS' : Below WS.heap.size WS wn := Below.trans hS' (hb.mono (Below.size hS'))
  go_wp2_with fail
  refine hK.out _ _ hS' (fun hHeld => ?_)
  clear hK K
  refine take_yes 26 65 (v := ?_) rfl rfl (by kernel_rfl) (by kernel_rfl) (by kernel_rfl) (fun _ _ _ h => h) (by rfl) ?_ hHeld ?_
  rotate_left 1
  · (intro w hSw; go_simp; try with_reducible rfl)
  simp only [Act.put, List.setIfInBounds_toArray, List.set_cons_succ, List.set_cons_zero]
  refine take_yes 27 66 (v := ?_) rfl rfl (by kernel_rfl) (by kernel_rfl) (by kernel_rfl) (fun _ _ _ h => h) (by rfl) ?_ hHeld ?_
  rotate_left 1
  · (intro w hSw; go_simp; try with_reducible rfl)
  simp only [Act.put, List.setIfInBounds_toArray, List.set_cons_succ, List.set_cons_zero]
  refine take_yes 28 67 (v := ?_) rfl rfl (by kernel_rfl) (by kernel_rfl) (by kernel_rfl) (fun _ _ _ h => h) (by rfl) ?_ hHeld ?_
  rotate_left 1
  · (intro w hSw; go_simp; try with_reducible rfl)
  simp only [Act.put, List.setIfInBounds_toArray, List.set_cons_succ, List.set_cons_zero]
  refine take_yes 29 68 (v := ?_) rfl rfl (by kernel_rfl) (by kernel_rfl) (by kernel_rfl) (fun _ _ _ h => h) (by rfl) ?_ hHeld ?_
  rotate_left 1
  · (intro w hSw; go_simp; try with_reducible rfl)
  simp only [Act.put, List.setIfInBounds_toArray, List.set_cons_succ, List.set_cons_zero]
  refine take_yes 30 69 (v := ?_) rfl rfl (by kernel_rfl) (by kernel_rfl) (by kernel_rfl) (fun _ _ _ h => h) (by rfl) ?_ hHeld ?_
  rotate_left 1
  · (intro w hSw; go_simp; try with_reducible rfl)
  simp only [Act.put, List.setIfInBounds_toArray, List.set_cons_succ, List.set_cons_zero]
  refine take_yes 31 70 (v := ?_) rfl rfl (by kernel_rfl) (by kernel_rfl) (by kernel_rfl) (fun _ _ _ h => h) (by rfl) ?_ hHeld ?_
  rotate_left 1
  · (intro w hSw; go_simp; try with_reducible rfl)
  simp only [Act.put, List.setIfInBounds_toArray, List.set_cons_succ, List.set_cons_zero]
  refine take_yes 32 71 (v := ?_) rfl rfl (by kernel_rfl) (by kernel_rfl) (by kernel_rfl) (fun _ _ _ h => h) (by rfl) ?_ hHeld ?_
  rotate_left 1
  · (intro w hSw; go_simp; try with_reducible rfl)
  simp only [Act.put, List.setIfInBounds_toArray, List.set_cons_succ, List.set_cons_zero]
  refine take_load 33 72 62 w2.heap.size [Value.slice aIL (insL L T o).length cIL, Value.slice aIT (insT L T o).length cIT] rfl rfl (by kernel_rfl) (by kernel_rfl) (by kernel_rfl) (fun _ _ _ h => h) (by rfl) (by rfl) (by rfl) (fun w hw => (HBI.out.keep hw).range) Try.underlying62 rfl sizeHist hHeld ?_
  simp only [Act.put, List.setIfInBounds_toArray, List.set_cons_succ, List.set_cons_zero]
  refine take_load 34 73 62 w4.heap.size [Value.slice aSL (insL L T o).length cSL, Value.slice aST (insT L T o).length cST] rfl rfl (by kernel_rfl) (by kernel_rfl) (by kernel_rfl) (fun _ _ _ h => h) (by rfl) (by rfl) (by rfl) (fun w hw => (HBS.out.keep hw).range) Try.underlying62 rfl sizeHist hHeld ?_
  simp only [Act.put, List.setIfInBounds_toArray, List.set_cons_succ, List.set_cons_zero]
  refine wpAnyH_ready (rs := [35]) (by kernel_rfl) (by simp) ?_
  refine AllReadyH.cons rfl (fun K hK => ?_) AllReadyH.nil
  go_simp
  refine (rsame_any _ aIL aSL aIT aST cIL cSL cIT cST (insL L T o) (insL L T o) (insT L T o) (insT L T o) HIL.out HIT.out (HQIL.out.below hS') (HQSL.out.below hS') (HQIT.out.below hS') (HQST.out.below hS')).mono ?_
  rintro e wn ⟨rfl, hb⟩
  rw [sameB_self]
  have hS' : Below WS.heap.size WS wn := Below.trans hS' (hb.mono (Below.size hS'))
  go_wp2_with fail
  refine hK.out _ _ hS' (fun hHeld => ?_)
  clear hK K
  refine take_yes 36 75 (v := ?_) rfl rfl (by kernel_rfl) (by kernel_rfl) (by kernel_rfl) (fun _ _ _ h => h) (by rfl) ?_ hHeld ?_
  rotate_left 1
  · (intro w hSw; go_simp; try with_reducible rfl)
  simp only [Act.put, List.setIfInBounds_toArray, List.set_cons_succ, List.set_cons_zero]
  refine take_yes 37 8 (v := ?_) rfl rfl (by kernel_rfl) (by kernel_rfl) (by kernel_rfl) (fun _ _ _ h => h) (by rfl) ?_ hHeld ?_
  rotate_left 1
  · (intro w hSw; go_simp; try with_reducible rfl)
  simp only [Act.put, List.setIfInBounds_toArray, List.set_cons_succ, List.set_cons_zero]
  refine wpAnyH_done (by kernel_rfl) ?_ _
  go_wp2
  go_ret
  exact ⟨rfl, HB8.out.trans (hS'.mono HB8.out.size)⟩

theorem historySays_any0 (w : World) (a : Option Addr) (c : Nat) (l : List Mv) (aL aT : Option Addr) (cL cT : Nat) (L : List Stp) (T : List Pl) (o : Mv) (aM aU : Option Addr) (cM cU : Nat) (M : List Stp) (U : List Pl)
    (hl : l.length ≤ maxLen) (hc : l.length ≤ c) (h : SlE opC w a l) (hL : L.length * 88 ≤ 140737488351232) (hT : T.length ≤ maxLen) (h1 : SlE stC w aL L) (h2 : SlP w aT T) (_ : M.length * 88 ≤ 140737488351232) (_ : U.length ≤ maxLen) (h3 : SlE stC w aM M) (h4 : SlP w aU U) :
    Calls Try.prog 8 #[.slice a l.length c, hiV (.slice aL L.length cL) (.slice aT T.length cT), opV o, hiV (.slice aM M.length cM) (.slice aU U.length cU)] w
      fun e w' => e = .returned (.bool true) ∧ Below w.heap.size w w' :=
  historySays_any w a c l aL aT cL cT L T o aM aU cM cU M U hl hc h hL hT h1 h2 h3 h4
end Go.Proofs.Ytphameoibnimmaa

