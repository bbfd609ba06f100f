/- orangeryref.Inserted. -/
import Derived.Test.YtphameoibnimmaaRCheck
import Derived.Test.YtphameoibnimmaaHInsert
namespace Go.Proofs.Ytphameoibnimmaa
open Go.ChangeShapes Go.WideShapes Go.ChangeAt Go.RowKit
open Orangery (Pl Mv Stp check checkOp foldE foldL foldT histE hasM thereB insE insL insT orI)

theorem insE_hist {l : List Stp} {t : List Pl} {o : Mv} (h : histE l t ≠ 0) : insE l t o = histE l t := by unfold insE; rw [if_pos h]
theorem insE_op {l : List Stp} {t : List Pl} {o : Mv} (h1 : histE l t = 0) (h : checkOp o ≠ 0) : insE l t o = checkOp o := by unfold insE; rw [if_neg (by simp [h1]), if_pos h]
theorem or_of {x y : Int} (hx : x = 0) (hy : y = 0) : orI x y = 0 := by unfold orI; rw [if_neg (by simp [hx]), hy]

set_option linter.unusedSimpArgs false in
set_option maxHeartbeats 4000000 in
set_option maxRecDepth 100000 in
theorem rinsert_any (w : World) (a p : Option Addr) (c d : Nat) (l : List Stp) (t : List Pl) (o : Mv) (hl : l.length * 88 ≤ 140737488351232) (h1 : SlE stC w a l) (h3 : SlP w p t) :
    Calls Try.prog 32 #[hiV (.slice a l.length c) (.slice p t.length d), opV o] w fun e w' => RFolds w (insL l t o) (insT l t o) (insE l t o) e w' := by
  obtain ⟨i0, hi, hz0, hz1, hz2⟩ := info_parts infoOp
  obtain ⟨m, hm⟩ : ∃ m, l.map (·.1) = m := ⟨_, rfl⟩
  have HM : Hid (l.map (·.1) = m) := hm
  have HML : Hid (m.length = l.length) := by show _ = _; rw [← hm]; simp
  have HBAD1 : Hid (histE l t ≠ 0 → insE l t o = histE l t) := insE_hist
  have HBAD2 : Hid (histE l t = 0 → checkOp o ≠ 0 → insE l t o = checkOp o) := insE_op
  have HGO : Hid (histE l t = 0 → checkOp o = 0 → (hasM m o.1 o.2.1 = true → insE l t o = 6) ∧ (hasM m o.1 o.2.1 = false → insE l t o = foldE (m ++ [o]) ∧ insL l t o = foldL (m ++ [o]) ∧ insT l t o = foldT (m ++ [o]))) := fun e1 e2 => insE_go hm (or_of e1 e2)
  have HLEN : Hid (histE l t = 0 → l.length ≤ 30) := fun h => hist_len h
  have HHAS : Hid (hasM m o.1 o.2.1 = true ↔ ∃ k, ∃ h : k < l.length, l[k].1.1 = o.1 ∧ l[k].1.2.1 = o.2.1) := by
    show _ ↔ _
    rw [Orangery.hasM_iff, ← hm]
    constructor
    · rintro ⟨x, hx, e⟩
      obtain ⟨s, hs, rfl⟩ := List.mem_map.1 hx
      obtain ⟨k, hk, rfl⟩ := List.getElem_of_mem hs
      exact ⟨k, hk, e⟩
    · rintro ⟨k, hk, e⟩
      exact ⟨l[k].1, List.mem_map.2 ⟨l[k], List.getElem_mem hk, rfl⟩, e⟩
  clear hm
  obtain ⟨o1, o2, ⟨o3, o4, o5⟩, o6, o7⟩ := o
  simp only at HGO HHAS
  obtain ⟨W0, hW, hH, hO, hR, hB, hS⟩ := laid3 w [Value.slice a l.length c, Value.slice p t.length d] 62 [Value.int IntKind.i64 o1, Value.int IntKind.i64 o2, Value.int IntKind.i64 o3, Value.int IntKind.i64 o4, Value.int IntKind.i64 o5, Value.int IntKind.i64 o6, Value.int IntKind.i64 o7] 49 [Value.slice none 0 0, Value.slice none 0 0] 62
  have hP := h1.below hB
  have hT := h3.below hB
  have hsz0 : w.heap.size + 3 ≤ W0.heap.size := by omega
  have HB : Hid (Below w.heap.size w W0) := hB
  have x0 := hH.at 0 rfl
  have x1 := hH.at 1 rfl
  have HPW : Hid (SlE stC w a l) := h1
  clear h1 h3 hS hB
  go_enter Try.func32, Try.ntmps32
  go_wp2_with fail
  clear hW
  refine (rcheck_any W0 a p c d l t hl hP hT).mono ?_
  rintro e w1 ⟨rfl, hb1⟩
  have hH1 := hH.keep hb1
  have hO1 := hO.keep hb1
  have hR1 := hR.keep hb1
  have HB1 : Hid (Below w.heap.size w w1) := HB.out.trans (hb1.mono HB.out.size)
  have hsz1 : w.heap.size + 3 ≤ w1.heap.size := by have := hb1.size; omega
  clear hH hO hR hP hT HB hb1 x0 x1 hsz0
  by_cases hz : histE l t = 0
  case neg =>
    have HE : Hid (insE l t (o1, o2, (o3, o4, o5), o6, o7) = histE l t) := HBAD1.out hz
    have HZ : Hid (histE l t ≠ 0) := hz
    have hz' : (histE l t != 0) = true := by simpa using hz
    have r0 := hR1.at 0 rfl
    have r1 := hR1.at 1 rfl
    have rf := hR1.frz
    clear HBAD1 HBAD2 HGO HLEN HHAS hz
    generalize histE l t = E at *
    go_wp2
    have hRf := hR1.sets [Value.slice none 0 0, Value.slice none 0 0] rfl
    refine ret_cell_tmp Try.results32 rfl rfl (hRf.load Try.underlying62 rfl sizeHist) ?_
    have hzz := ins_err (l := l) (t := t) (o := (o1, o2, (o3, o4, o5), o6, o7)) (by rw [HE.out]; exact HZ.out)
    rw [HE.out]
    exact rfolds_err hzz.1 hzz.2 (below_sets HB1.out (w.heap.size + 1 + 1) (by omega) [Value.slice none 0 0, Value.slice none 0 0] 0)
  case pos =>
    have HB2E := HBAD2.out hz
    have HG := HGO.out hz
    have hll := HLEN.out hz
    have HBE : Hid (checkOp (o1, o2, (o3, o4, o5), o6, o7) ≠ 0 → insE l t (o1, o2, (o3, o4, o5), o6, o7) = checkOp (o1, o2, (o3, o4, o5), o6, o7)) := HB2E
    have HGE : Hid (checkOp (o1, o2, (o3, o4, o5), o6, o7) = 0 → (hasM m o1 o2 = true → insE l t (o1, o2, (o3, o4, o5), o6, o7) = 6) ∧ (hasM m o1 o2 = false → insE l t (o1, o2, (o3, o4, o5), o6, o7) = foldE (m ++ [(o1, o2, (o3, o4, o5), o6, o7)]) ∧ insL l t (o1, o2, (o3, o4, o5), o6, o7) = foldL (m ++ [(o1, o2, (o3, o4, o5), o6, o7)]) ∧ insT l t (o1, o2, (o3, o4, o5), o6, o7) = foldT (m ++ [(o1, o2, (o3, o4, o5), o6, o7)]))) := HG
    rw [hz]
    clear hz HB2E HG HBAD1 HBAD2 HGO HLEN
    have m0 := hO1.at 0 rfl
    have m1 := hO1.at 1 rfl
    have m2 := hO1.at 2 rfl
    have m3 := hO1.at 3 rfl
    have m4 := hO1.at 4 rfl
    have m5 := hO1.at 5 rfl
    have m6 := hO1.at 6 rfl
    go_wp2_with fail
    refine (refCheckOp_any w1 (o1, o2, (o3, o4, o5), o6, o7)).mono ?_
    rintro e w2 ⟨rfl, hb2⟩
    have hH2 := hH1.keep hb2
    have hO2 := hO1.keep hb2
    have hR2 := hR1.keep hb2
    have HB2 : Hid (Below w.heap.size w w2) := HB1.out.trans (hb2.mono HB1.out.size)
    have hsz2 : w.heap.size + 3 ≤ w2.heap.size := by have := hb2.size; omega
    clear hH1 hO1 hR1 HB1 hb2 m0 m1 m2 m3 m4 m5 m6 hsz1
    by_cases hz : checkOp (o1, o2, (o3, o4, o5), o6, o7) = 0
    case neg =>
      have HE : Hid (insE l t (o1, o2, (o3, o4, o5), o6, o7) = checkOp (o1, o2, (o3, o4, o5), o6, o7)) := HBE.out hz
      have HZ : Hid (checkOp (o1, o2, (o3, o4, o5), o6, o7) ≠ 0) := hz
      have hz' : (checkOp (o1, o2, (o3, o4, o5), o6, o7) != 0) = true := by simpa using hz
      have r0 := hR2.at 0 rfl
      have r1 := hR2.at 1 rfl
      have rf := hR2.frz
      clear HBE HGE HHAS hz
      generalize checkOp (o1, o2, (o3, o4, o5), o6, o7) = E at *
      go_wp2
      have hRf := hR2.sets [Value.slice none 0 0, Value.slice none 0 0] rfl
      refine ret_cell_tmp Try.results32 rfl rfl (hRf.load Try.underlying62 rfl sizeHist) ?_
      have hzz := ins_err (l := l) (t := t) (o := (o1, o2, (o3, o4, o5), o6, o7)) (by rw [HE.out]; exact HZ.out)
      rw [HE.out]
      exact rfolds_err hzz.1 hzz.2 (below_sets HB2.out (w.heap.size + 1 + 1) (by omega) [Value.slice none 0 0, Value.slice none 0 0] 0)
    case pos =>
      obtain ⟨hg1, hg2⟩ := HGE.out hz
      have HG1 : Hid (hasM m o1 o2 = true → insE l t (o1, o2, (o3, o4, o5), o6, o7) = 6) := hg1
      have HG2 : Hid (hasM m o1 o2 = false → insE l t (o1, o2, (o3, o4, o5), o6, o7) = foldE (m ++ [(o1, o2, (o3, o4, o5), o6, o7)]) ∧ insL l t (o1, o2, (o3, o4, o5), o6, o7) = foldL (m ++ [(o1, o2, (o3, o4, o5), o6, o7)]) ∧ insT l t (o1, o2, (o3, o4, o5), o6, o7) = foldT (m ++ [(o1, o2, (o3, o4, o5), o6, o7)])) := hg2
      rw [hz]
      clear hz hg1 hg2 HGE HBE
      have x0 := hH2.at 0 rfl
      go_wp2
      go_loopw [25] (fun i W => ∃ k : Nat, k ≤ l.length ∧ i = .int .i64 k ∧ (∀ j, (hj : j < l.length) → j < k → ¬ (l[j].1.1 = o1 ∧ l[j].1.2.1 = o2)) ∧ Below w2.heap.size w2 W) (fun i _ => l.length - (intOf i).toNat)
      case atStart => exact ⟨0, Nat.zero_le _, rfl, fun j _ hj => absurd hj (Nat.not_lt_zero _), Below.refl _ _⟩
      case round =>
        obtain ⟨k, hk, rfl, hno, hb⟩ := hrel
        have HNO : Hid (∀ j, (hj : j < l.length) → j < k → ¬ (l[j].1.1 = o1 ∧ l[j].1.2.1 = o2)) := hno
        clear hno
        have hR3 := hR2.keep hb
        have hO3 := hO2.keep hb
        have hH3 := hH2.keep hb
        have HB3 : Hid (Below w.heap.size w wr) := HB2.out.trans (hb.mono HB2.out.size)
        have hsz3 : w.heap.size + 3 ≤ wr.heap.size := by have := hb.size; omega
        by_cases hlt : k < l.length
        · obtain ⟨b, off, rfl, hbl, hr⟩ := (HPW.out.below HB3.out).at stC_len k hlt
          obtain ⟨g0, g1, g2, g3, g4, g5, g6, g7, g8, g9, g10⟩ := st_cells hr
          have HK : Hid ((l[k].1.1 = o1 ∧ l[k].1.2.1 = o2) → hasM m o1 o2 = true) := fun h => HHAS.out.2 ⟨k, hlt, h⟩
          have HKE : Hid (∀ j, (hj : j < l.length) → j = k → l[j].1.1 = l[k].1.1 ∧ l[j].1.2.1 = l[k].1.2.1) := fun j hj e => by subst e; exact ⟨rfl, rfl⟩
          have he := run_eql_stamp
          have hgd := guard_stamp
          clear hr
          generalize l[k] = s at *
          obtain ⟨⟨q1, q2, ⟨q3, q4, q5⟩, q6, q7⟩, d', ⟨p1, p2, p3⟩⟩ := s
          simp only at g0 g1 g2 g3 g4 g5 g6 g7 g8 g9 g10 HK HKE
          obtain ⟨W4, hW4, hN, hBn, hS4⟩ := laid1 wr [Value.int IntKind.i64 q1, Value.int IntKind.i64 q2, Value.int IntKind.i64 q3, Value.int IntKind.i64 q4, Value.int IntKind.i64 q5, Value.int IntKind.i64 q6, Value.int IntKind.i64 q7, Value.bool d', Value.int IntKind.i64 p1, Value.int IntKind.i64 p2, Value.int IntKind.i64 p3] 51
          have hR4 := hR3.keep hBn
          have hO4 := hO3.keep hBn
          have HB4 : Hid (Below w2.heap.size w2 W4) := hb.trans (hBn.mono hb.size)
          have HBW4 : Hid (Below w.heap.size w W4) := HB3.out.trans (hBn.mono HB3.out.size)
          have n0 := hN.at 0 rfl
          have n1 := hN.at 1 rfl
          have m0 := hO4.at 0 rfl
          have m1 := hO4.at 1 rfl
          have r0 := hR4.at 0 rfl
          have r1 := hR4.at 1 rfl
          have rf := hR4.frz
          clear hR3 hO3 hH3 HB3 hBn hS4 hb hN
          by_cases hq : q1 = o1 ∧ q2 = o2
          · have hq1 : decide (q1 = o1) = true := by simp [hq.1]
            have hq2 : decide (q2 = o2) = true := by simp [hq.2]
            have HE : Hid (insE l t (o1, o2, (o3, o4, o5), o6, o7) = 6) := HG1.out (HK.out hq)
            clear hq HK HG1 HG2 HHAS
            go_wp2
            have hRf := hR4.sets [Value.slice none 0 0, Value.slice none 0 0] rfl
            refine ret_cell_tmp Try.results32 rfl rfl (hRf.load Try.underlying62 rfl sizeHist) ?_
            have hzz := ins_err (l := l) (t := t) (o := (o1, o2, (o3, o4, o5), o6, o7)) (by rw [HE.out]; decide)
            rw [HE.out]
            exact rfolds_err hzz.1 hzz.2 (below_sets HBW4.out (w.heap.size + 1 + 1) (by omega) [Value.slice none 0 0, Value.slice none 0 0] 0)
          · have hqf : (decide (q1 = o1) && decide (q2 = o2)) = false := by simpa using hq
            have HQ : Hid (¬ (q1 = o1 ∧ q2 = o2)) := hq
            clear hq HK
            go_wp2
            go_roundw
            case rel =>
              refine ⟨k + 1, hlt, by go_num, fun j hj hjk => ?_, HB4.out⟩
              by_cases hjk' : j < k
              · exact HNO.out j hj hjk'
              · obtain ⟨e1, e2⟩ := HKE.out j hj (by omega)
                rw [e1, e2]
                exact HQ.out
            case measure => simp [intOf]; omega
        · have HF : Hid (hasM m o1 o2 = false) := by
            show _ = _
            cases hq : hasM m o1 o2
            · rfl
            · obtain ⟨j, hj, e⟩ := HHAS.out.1 hq
              exact absurd e (HNO.out j hj (by omega))
          have HE : Hid (insE l t (o1, o2, (o3, o4, o5), o6, o7) = foldE (m ++ [(o1, o2, (o3, o4, o5), o6, o7)]) ∧ insL l t (o1, o2, (o3, o4, o5), o6, o7) = foldL (m ++ [(o1, o2, (o3, o4, o5), o6, o7)]) ∧ insT l t (o1, o2, (o3, o4, o5), o6, o7) = foldT (m ++ [(o1, o2, (o3, o4, o5), o6, o7)])) := HG2.out HF.out
          have hPS := HPW.out.below HB3.out
          have hml : m.length ≤ 30 := by rw [HML.out]; exact hll
          clear HG1 HG2 HHAS HNO HF hb hR2 hO2 hH2 HB2 hsz2 x0
          rename World => WI
          go_upto_region 13 with fail
          have hS' : Below WI.heap.size WI WI.drew := (Below.refl _ WI).drew
          refine wp_region_held_drew (S := fun w' => Blk w' w.heap.size [Value.slice a l.length c, Value.slice p t.length d] ∧ Blk w' (w.heap.size + 1) [Value.int IntKind.i64 o1, Value.int IntKind.i64 o2, Value.int IntKind.i64 o3, Value.int IntKind.i64 o4, Value.int IntKind.i64 o5, Value.int IntKind.i64 o6, Value.int IntKind.i64 o7]) (by kernel_rfl) ⟨hH3.drew, hO3.drew⟩ (fun hHeld => ?_)
          refine take_load 0 37 62 w.heap.size [Value.slice a l.length c, Value.slice p t.length d] rfl rfl (by kernel_rfl) (by kernel_rfl) (by kernel_rfl) (fun _ _ _ h => h) (by rfl) (by rfl) (by rfl) (fun w hw => hw.1.range) Try.underlying62 rfl sizeHist hHeld ?_
          simp only [Act.put, List.setIfInBounds_toArray, List.set_cons_succ, List.set_cons_zero]
          refine take_load 2 39 49 (w.heap.size + 1) [Value.int IntKind.i64 o1, Value.int IntKind.i64 o2, Value.int IntKind.i64 o3, Value.int IntKind.i64 o4, Value.int IntKind.i64 o5, Value.int IntKind.i64 o6, Value.int IntKind.i64 o7] rfl rfl (by kernel_rfl) (by kernel_rfl) (by kernel_rfl) (fun _ _ _ h => h) (by rfl) (by rfl) (by rfl) (fun w hw => hw.2.range) Try.underlying49 rfl sizeOp hHeld ?_
          simp only [Act.put, List.setIfInBounds_toArray, List.set_cons_succ, List.set_cons_zero]
          refine wpAnyH_ready (rs := [1, 3]) (by kernel_rfl) (by simp) ?_
          refine AllReadyH.cons rfl (fun K hK => ?_) (AllReadyH.cons rfl (fun K hK => ?_) AllReadyH.nil)
          · go_simp
            refine (rops_any _ a c l (.slice p t.length d) hl (hPS.below hS')).mono ?_
            rintro e w5 ⟨v5, rfl, hO5, hb5⟩
            rw [HM.out] at hO5
            obtain ⟨a5, c5, rfl, _, _⟩ := hO5.val
            have hS5 : Below WI.heap.size WI w5 := hS'.trans (hb5.mono hS'.size)
            go_wp2_with fail
            refine hK.out _ _ ⟨hH3.keep hS5, hO3.keep hS5⟩ (fun hHeld => ?_)
            clear hK K
            refine wpAnyH_ready (rs := [3]) (by kernel_rfl) (by simp) (AllReadyH.cons rfl (fun K hK => ?_) AllReadyH.nil)
            go_simp
            refine hK.out _ _ ⟨hHeld.1.alloc _, hHeld.2.alloc _⟩ (fun hHeld => ?_)
            clear hK K
            have hN6 := Blk.new w5 [Value.int IntKind.i64 o1, Value.int IntKind.i64 o2, Value.int IntKind.i64 o3, Value.int IntKind.i64 o4, Value.int IntKind.i64 o5, Value.int IntKind.i64 o6, Value.int IntKind.i64 o7] 49
            have hS6 : Below WI.heap.size WI (w5.alloc (.cells [Value.int IntKind.i64 o1, Value.int IntKind.i64 o2, Value.int IntKind.i64 o3, Value.int IntKind.i64 o4, Value.int IntKind.i64 o5, Value.int IntKind.i64 o6, Value.int IntKind.i64 o7].toArray 49)) := hS5.alloc hS5.size _
            have hown6 : (w5.alloc (.cells [Value.int IntKind.i64 o1, Value.int IntKind.i64 o2, Value.int IntKind.i64 o3, Value.int IntKind.i64 o4, Value.int IntKind.i64 o5, Value.int IntKind.i64 o6, Value.int IntKind.i64 o7].toArray 49)).ownsRow WI.heap.size 49 7 (.slice a5 m.length c5) m.length (m.flatMap opC) := (hO5.alloc _).row
            have hsz6 := hS6.size
            refine step_append (s := Operand.tmp 38) (x := Operand.tmp 40) 4 41 59 ?x0 rfl ?x2 ?x3 ?x4 WI.heap.size 49 i0 _ 7 56 Try.underlying59 hi hz0 hz1 hz2 ?x5 ?x6 (.slice a5 m.length c5) m.length (m.flatMap opC) ?x7 hown6 ⟨w5.heap.size, 0, none⟩ 1 1 [Value.int IntKind.i64 o1, Value.int IntKind.i64 o2, Value.int IntKind.i64 o3, Value.int IntKind.i64 o4, Value.int IntKind.i64 o5, Value.int IntKind.i64 o6, Value.int IntKind.i64 o7] ?x8 ?x9 ?xa ?xb ?xc ?xd ?xe ?_
            case x0 => kernel_rfl
            case x2 => rfl
            case x3 => rfl
            case x4 => rfl
            case x5 => rfl
            case x6 => decide
            case x7 => rfl
            case x8 => rfl
            case x9 => rfl
            case xa => intro j u hj; rw [Addr.add_mid, Nat.zero_add]; exact hN6.at j hj
            case xb => exact opC_one (o1, o2, (o3, o4, o5), o6, o7)
            case xc => unfold maxLen; omega
            case xd => omega
            case xe => exact hsz6
            intro v7 w7 hown' hgrow
            obtain ⟨Mn, hMn⟩ : ∃ Mn, Mn = m ++ [(o1, o2, (o3, o4, o5), o6, o7)] := ⟨_, rfl⟩
            have hO7 : OwnE opC 7 49 w7 WI.heap.size v7 Mn := by
              show World.ownsRow _ _ _ _ _ _ _
              rw [hMn]
              simpa [opC] using hown'
            have hgb : ∀ g, (Value.slice a5 m.length c5).ownBlock = some g → WI.heap.size ≤ g := fun g hg => (hown6.lt g hg).1
            have hS7 : Below WI.heap.size WI w7 := hS6.grown hgrow hsz6 hgb
            have HMN : Hid (Mn = m ++ [(o1, o2, (o3, o4, o5), o6, o7)]) := hMn
            have hlen7 : Mn.length ≤ maxLen := by rw [hMn]; simp; unfold maxLen; omega
            obtain ⟨a7, c7, rfl, hP7, _⟩ := hO7.val
            refine ⟨⟨hH3.keep hS7, hO3.keep hS7⟩, ?_⟩
            replace hHeld : Blk w7 w.heap.size [Value.slice a l.length c, Value.slice p t.length d] ∧ Blk w7 (w.heap.size + 1) [Value.int IntKind.i64 o1, Value.int IntKind.i64 o2, Value.int IntKind.i64 o3, Value.int IntKind.i64 o4, Value.int IntKind.i64 o5, Value.int IntKind.i64 o6, Value.int IntKind.i64 o7] := ⟨hH3.keep hS7, hO3.keep hS7⟩
            simp only [Act.put, List.setIfInBounds_toArray, List.set_cons_succ, List.set_cons_zero]
            clear hMn hown' hown6 hgrow hgb hO7
            refine wpAnyH_ready (rs := [5]) (by kernel_rfl) (by simp) (AllReadyH.cons rfl (fun K hK => ?_) AllReadyH.nil)
            go_simp
            refine (rfold_any w7 a7 c7 Mn hlen7 hP7).mono ?_
            rintro e w8 ⟨vL, aT, cT, rfl, hL8, hT8, hb8⟩
            have hS8 : Below WI.heap.size WI w8 := hS7.trans (hb8.mono hS7.size)
            have hsz7 := hS7.size
            have hL9 := hL8.mono (base' := WI.heap.size) hsz7
            obtain ⟨aL, cL, rfl, hPL8, _⟩ := hL9.val
            go_wp2_with fail
            refine hK.out _ _ ⟨hH3.keep hS8, hO3.keep hS8⟩ (fun hHeld => ?_)
            clear hK K
            refine take_yes 6 43 (v := ?_) rfl rfl (by kernel_rfl) (by kernel_rfl) (by kernel_rfl) (fun _ _ _ h => h) (by rfl) ?_ hHeld ?_
            rotate_left 1
            · (intro w hSw; (try dsimp only at hSw); go_simp; try with_reducible rfl)
            simp only [Act.put, List.setIfInBounds_toArray, List.set_cons_succ, List.set_cons_zero]
            refine take_yes 7 44 (v := ?_) rfl rfl (by kernel_rfl) (by kernel_rfl) (by kernel_rfl) (fun _ _ _ h => h) (by rfl) ?_ hHeld ?_
            rotate_left 1
            · (intro w hSw; (try dsimp only at hSw); go_simp; try with_reducible rfl)
            simp only [Act.put, List.setIfInBounds_toArray, List.set_cons_succ, List.set_cons_zero]
            have hR8 := hR3.keep hS8
            have HB8 : Hid (Below w.heap.size w w8) := HB3.out.trans (hS8.mono HB3.out.size)
            refine step_store 8 62 (w.heap.size + 1 + 1) [Value.slice aL (foldL Mn).length cL, Value.slice aT (foldT Mn).length cT] (by kernel_rfl) rfl rfl (by rfl) (by rfl) (by rfl) (by rfl) hR8.there sizeHist ?_ ⟨hHeld.1.others (by omega) _ _, hHeld.2.others (by omega) _ _⟩ ?_
            · intro v hv; simp at hv; rcases hv with rfl | rfl <;> rfl
            replace hHeld : Blk (w8.setCells (w.heap.size + 1 + 1) 0 [Value.slice aL (foldL Mn).length cL, Value.slice aT (foldT Mn).length cT]) w.heap.size [Value.slice a l.length c, Value.slice p t.length d] ∧ Blk (w8.setCells (w.heap.size + 1 + 1) 0 [Value.slice aL (foldL Mn).length cL, Value.slice aT (foldT Mn).length cT]) (w.heap.size + 1) [Value.int IntKind.i64 o1, Value.int IntKind.i64 o2, Value.int IntKind.i64 o3, Value.int IntKind.i64 o4, Value.int IntKind.i64 o5, Value.int IntKind.i64 o6, Value.int IntKind.i64 o7] := ⟨hHeld.1.others (by omega) _ _, hHeld.2.others (by omega) _ _⟩
            refine take_yes 9 5 (v := ?_) rfl rfl (by kernel_rfl) (by kernel_rfl) (by kernel_rfl) (fun _ _ _ h => h) (by rfl) ?_ hHeld ?_
            rotate_left 1
            · (intro w hSw; (try dsimp only at hSw); go_simp; try with_reducible rfl)
            simp only [Act.put, List.setIfInBounds_toArray, List.set_cons_succ, List.set_cons_zero]
            refine wpAnyH_done (by kernel_rfl) ?_ _
            clear hHeld
            go_wp2
            have hRf := hR8.sets [Value.slice aL (foldL Mn).length cL, Value.slice aT (foldT Mn).length cT] rfl
            refine ret_cell_tmp Try.results32 rfl rfl (hRf.load Try.underlying62 rfl sizeHist) ?_
            rw [HE.out.1, HE.out.2.1, HE.out.2.2, ← HMN.out]
            have e1 := (OwnE.others (w.heap.size + 1 + 1) (by omega) [Value.slice aL (foldL Mn).length cL, Value.slice aT (foldT Mn).length cT] 0 w8 hL9).mono (base' := w.heap.size) (by omega)
            exact ⟨_, aT, cT, rfl, e1, (SlT.others (w.heap.size + 1 + 1) (by omega) [Value.slice aL (foldL Mn).length cL, Value.slice aT (foldT Mn).length cT] 0 w8 (hT8.mono (base' := WI.heap.size) hsz7)).mono (by omega), below_sets HB8.out (w.heap.size + 1 + 1) (by omega) [Value.slice aL (foldL Mn).length cL, Value.slice aT (foldT Mn).length cT] 0⟩
          · go_simp
            refine hK.out _ _ ⟨hHeld.1.alloc _, hHeld.2.alloc _⟩ (fun hHeld => ?_)
            clear hK K
            have hN5 := (Blk.new WI [Value.int IntKind.i64 o1, Value.int IntKind.i64 o2, Value.int IntKind.i64 o3, Value.int IntKind.i64 o4, Value.int IntKind.i64 o5, Value.int IntKind.i64 o6, Value.int IntKind.i64 o7] 49).drew
            have hSA : Below WI.heap.size WI (WI.alloc (.cells [Value.int IntKind.i64 o1, Value.int IntKind.i64 o2, Value.int IntKind.i64 o3, Value.int IntKind.i64 o4, Value.int IntKind.i64 o5, Value.int IntKind.i64 o6, Value.int IntKind.i64 o7].toArray 49)).drew := ((Below.refl _ WI).alloc (Nat.le_refl _) _).drew
            refine wpAnyH_ready (rs := [1]) (by kernel_rfl) (by simp) (AllReadyH.cons rfl (fun K hK => ?_) AllReadyH.nil)
            go_simp
            refine (rops_any _ a c l (.slice p t.length d) hl (hPS.below hSA)).mono ?_
            rintro e w5 ⟨v5, rfl, hO5', hb5⟩
            rw [HM.out] at hO5'
            have hO5 := hO5'.mono (base' := WI.heap.size) (by show _ ≤ (WI.alloc _).heap.size; simp)
            obtain ⟨a5, c5, rfl, _, _⟩ := hO5.val
            have hS6 : Below WI.heap.size WI w5 := hSA.trans (hb5.mono hSA.size)
            have hN6 := hN5.keep hb5
            go_wp2_with fail
            refine hK.out _ _ ⟨hH3.keep hS6, hO3.keep hS6⟩ (fun hHeld => ?_)
            clear hK K
            have hown6 : w5.ownsRow WI.heap.size 49 7 (.slice a5 m.length c5) m.length (m.flatMap opC) := hO5.row
            have hsz6 := hS6.size
            refine step_append (s := Operand.tmp 38) (x := Operand.tmp 40) 4 41 59 ?y0 rfl ?y2 ?y3 ?y4 WI.heap.size 49 i0 _ 7 56 Try.underlying59 hi hz0 hz1 hz2 ?y5 ?y6 (.slice a5 m.length c5) m.length (m.flatMap opC) ?y7 hown6 ⟨WI.heap.size, 0, none⟩ 1 1 [Value.int IntKind.i64 o1, Value.int IntKind.i64 o2, Value.int IntKind.i64 o3, Value.int IntKind.i64 o4, Value.int IntKind.i64 o5, Value.int IntKind.i64 o6, Value.int IntKind.i64 o7] ?y8 ?y9 ?ya ?yb ?yc ?yd ?ye ?_
            case y0 => kernel_rfl
            case y2 => rfl
            case y3 => rfl
            case y4 => rfl
            case y5 => rfl
            case y6 => decide
            case y7 => rfl
            case y8 => rfl
            case y9 => rfl
            case ya => intro j u hj; rw [Addr.add_mid, Nat.zero_add]; exact hN6.at j hj
            case yb => exact opC_one (o1, o2, (o3, o4, o5), o6, o7)
            case yc => unfold maxLen; omega
            case yd => omega
            case ye => exact hsz6
            intro v7 w7 hown' hgrow
            obtain ⟨Mn, hMn⟩ : ∃ Mn, Mn = m ++ [(o1, o2, (o3, o4, o5), o6, o7)] := ⟨_, rfl⟩
            have hO7 : OwnE opC 7 49 w7 WI.heap.size v7 Mn := by
              show World.ownsRow _ _ _ _ _ _ _
              rw [hMn]
              simpa [opC] using hown'
            have hgb : ∀ g, (Value.slice a5 m.length c5).ownBlock = some g → WI.heap.size ≤ g := fun g hg => (hown6.lt g hg).1
            have hS7 : Below WI.heap.size WI w7 := hS6.grown hgrow hsz6 hgb
            have HMN : Hid (Mn = m ++ [(o1, o2, (o3, o4, o5), o6, o7)]) := hMn
            have hlen7 : Mn.length ≤ maxLen := by rw [hMn]; simp; unfold maxLen; omega
            obtain ⟨a7, c7, rfl, hP7, _⟩ := hO7.val
            refine ⟨⟨hH3.keep hS7, hO3.keep hS7⟩, ?_⟩
            replace hHeld : Blk w7 w.heap.size [Value.slice a l.length c, Value.slice p t.length d] ∧ Blk w7 (w.heap.size + 1) [Value.int IntKind.i64 o1, Value.int IntKind.i64 o2, Value.int IntKind.i64 o3, Value.int IntKind.i64 o4, Value.int IntKind.i64 o5, Value.int IntKind.i64 o6, Value.int IntKind.i64 o7] := ⟨hH3.keep hS7, hO3.keep hS7⟩
            simp only [Act.put, List.setIfInBounds_toArray, List.set_cons_succ, List.set_cons_zero]
            clear hMn hown' hown6 hgrow hgb hO7
            refine wpAnyH_ready (rs := [5]) (by kernel_rfl) (by simp) (AllReadyH.cons rfl (fun K hK => ?_) AllReadyH.nil)
            go_simp
            refine (rfold_any w7 a7 c7 Mn hlen7 hP7).mono ?_
            rintro e w8 ⟨vL, aT, cT, rfl, hL8, hT8, hb8⟩
            have hS8 : Below WI.heap.size WI w8 := hS7.trans (hb8.mono hS7.size)
            have hsz7 := hS7.size
            have hL9 := hL8.mono (base' := WI.heap.size) hsz7
            obtain ⟨aL, cL, rfl, hPL8, _⟩ := hL9.val
            go_wp2_with fail
            refine hK.out _ _ ⟨hH3.keep hS8, hO3.keep hS8⟩ (fun hHeld => ?_)
            clear hK K
            refine take_yes 6 43 (v := ?_) rfl rfl (by kernel_rfl) (by kernel_rfl) (by kernel_rfl) (fun _ _ _ h => h) (by rfl) ?_ hHeld ?_
            rotate_left 1
            · (intro w hSw; (try dsimp only at hSw); go_simp; try with_reducible rfl)
            simp only [Act.put, List.setIfInBounds_toArray, List.set_cons_succ, List.set_cons_zero]
            refine take_yes 7 44 (v := ?_) rfl rfl (by kernel_rfl) (by kernel_rfl) (by kernel_rfl) (fun _ _ _ h => h) (by rfl) ?_ hHeld ?_
            rotate_left 1
            · (intro w hSw; (try dsimp only at hSw); go_simp; try with_reducible rfl)
            simp only [Act.put, List.setIfInBounds_toArray, List.set_cons_succ, List.set_cons_zero]
            have hR8 := hR3.keep hS8
            have HB8 : Hid (Below w.heap.size w w8) := HB3.out.trans (hS8.mono HB3.out.size)
            refine step_store 8 62 (w.heap.size + 1 + 1) [Value.slice aL (foldL Mn).length cL, Value.slice aT (foldT Mn).length cT] (by kernel_rfl) rfl rfl (by rfl) (by rfl) (by rfl) (by rfl) hR8.there sizeHist ?_ ⟨hHeld.1.others (by omega) _ _, hHeld.2.others (by omega) _ _⟩ ?_
            · intro v hv; simp at hv; rcases hv with rfl | rfl <;> rfl
            replace hHeld : Blk (w8.setCells (w.heap.size + 1 + 1) 0 [Value.slice aL (foldL Mn).length cL, Value.slice aT (foldT Mn).length cT]) w.heap.size [Value.slice a l.length c, Value.slice p t.length d] ∧ Blk (w8.setCells (w.heap.size + 1 + 1) 0 [Value.slice aL (foldL Mn).length cL, Value.slice aT (foldT Mn).length cT]) (w.heap.size + 1) [Value.int IntKind.i64 o1, Value.int IntKind.i64 o2, Value.int IntKind.i64 o3, Value.int IntKind.i64 o4, Value.int IntKind.i64 o5, Value.int IntKind.i64 o6, Value.int IntKind.i64 o7] := ⟨hHeld.1.others (by omega) _ _, hHeld.2.others (by omega) _ _⟩
            refine take_yes 9 5 (v := ?_) rfl rfl (by kernel_rfl) (by kernel_rfl) (by kernel_rfl) (fun _ _ _ h => h) (by rfl) ?_ hHeld ?_
            rotate_left 1
            · (intro w hSw; (try dsimp only at hSw); go_simp; try with_reducible rfl)
            simp only [Act.put, List.setIfInBounds_toArray, List.set_cons_succ, List.set_cons_zero]
            refine wpAnyH_done (by kernel_rfl) ?_ _
            clear hHeld
            go_wp2
            have hRf := hR8.sets [Value.slice aL (foldL Mn).length cL, Value.slice aT (foldT Mn).length cT] rfl
            refine ret_cell_tmp Try.results32 rfl rfl (hRf.load Try.underlying62 rfl sizeHist) ?_
            rw [HE.out.1, HE.out.2.1, HE.out.2.2, ← HMN.out]
            have e1 := (OwnE.others (w.heap.size + 1 + 1) (by omega) [Value.slice aL (foldL Mn).length cL, Value.slice aT (foldT Mn).length cT] 0 w8 hL9).mono (base' := w.heap.size) (by omega)
            exact ⟨_, aT, cT, rfl, e1, (SlT.others (w.heap.size + 1 + 1) (by omega) [Value.slice aL (foldL Mn).length cL, Value.slice aT (foldT Mn).length cT] 0 w8 (hT8.mono (base' := WI.heap.size) hsz7)).mono (by omega), below_sets HB8.out (w.heap.size + 1 + 1) (by omega) [Value.slice aL (foldL Mn).length cL, Value.slice aT (foldT Mn).length cT] 0⟩
end Go.Proofs.Ytphameoibnimmaa
