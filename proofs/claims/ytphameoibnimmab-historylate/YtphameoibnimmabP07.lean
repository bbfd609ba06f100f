/- 4 texts of the proof: slices.Equal at steps; history.Same, orangeryref.SameHistory; history.operations, orangeryref.OpsOf, orangeryref.rank. history.operations, orangeryref.OpsOf: the operations of a history. history.Check. history.Insert. -/
import Derived.OwnWalk
import Derived.Deep.DeepCutAuto
import Derived.Test.YtphameoibnimmabP04
import Derived.Test.YtphameoibnimmabP06
import Derived.Test.YtphameoibnimmabP05
/- slices.Equal at steps; history.Same, orangeryref.SameHistory; history.operations, orangeryref.OpsOf, orangeryref.rank. -/
namespace Go.Proofs.Ytphameoibnimmab
open Go.ChangeShapes Go.WideShapes Go.ChangeAt Go.RowKit
open Orangery (Pl Mv Stp eqSts sameB rk)

theorem below_drewN_any (B : Nat) (w : World) (n : Nat) : Below B w (w.drewN n) := ⟨rfl, rfl, rfl, Nat.le_refl _, fun _ _ => rfl⟩

theorem eqSts_no {l m : List Stp} (h : l ≠ m) : eqSts l m = false := by
  cases hq : eqSts l m
  · rfl
  · exact absurd ((Orangery.eqSts_iff l m).1 hq) h
theorem eqSts_yes {l m : List Stp} (h : l = m) : eqSts l m = true := (Orangery.eqSts_iff l m).2 h

theorem ne_stp {s t : Stp} (hq : decide (s = t) = false) : s ≠ t := by simpa using hq
theorem eq_stp {s t : Stp} (hq : decide (s = t) = true) : s = t := by simpa using hq

set_option maxHeartbeats 1000000 in
theorem equal_sts (w : World) (a a' : Option Addr) (c c' : Nat) (l m : List Stp) (hl : l.length ≤ maxLen) (h1 : SlE stC w a l) (h2 : SlE stC w a' m) :
    Calls Try.prog 16 #[.slice a l.length c, .slice a' m.length c'] w
      fun e w' => e = .returned (.bool (eqSts l m)) ∧ ∃ n, w' = w.drewN n := by
  have hl' : l.length ≤ 9223372036854775807 := hl
  by_cases hlen : l.length = m.length
  · have hne := run_neq_stepg
    have hgd := guard_step
    have hlen' : ((l.length : Int) != (m.length : Int)) = false := by simp [hlen]
    go_enter Try.func16, Try.ntmps16
    go_wp2
    go_loopw [13] (fun i w' => ∃ k n : Nat, k ≤ l.length ∧ i = .int .i64 k ∧ w' = w.drewN n ∧ l.take k = m.take k) (fun i _ => l.length - (intOf i).toNat)
    case atStart => exact ⟨0, 0, Nat.zero_le _, rfl, rfl, rfl⟩
    case round =>
      obtain ⟨k, n, hk, rfl, rfl, hpre⟩ := hrel
      have HP : Hid (l.take k = m.take k) := hpre
      clear hpre
      by_cases hlt : k < l.length
      · have hlt2 : k < m.length := by omega
        obtain ⟨b, off, rfl, hbl, hr⟩ := h1.at stC_len k hlt
        obtain ⟨b', off', rfl, hbl', hr'⟩ := h2.at stC_len k hlt2
        obtain ⟨g0, g1, g2, g3, g4, g5, g6, g7, g8, g9, g10⟩ := st_cells hr
        obtain ⟨x0, x1, x2, x3, x4, x5, x6, x7, x8, x9, x10⟩ := st_cells hr'
        have hlti : (k : Int) < (m.length : Int) := by omega
        have HT1 : Hid (l.take (k + 1) = l.take k ++ [l[k]]) := List.take_succ_eq_append_getElem hlt
        have HT2 : Hid (m.take (k + 1) = m.take k ++ [m[k]]) := List.take_succ_eq_append_getElem hlt2
        have HG : Hid (l = m → l[k] = m[k]) := fun e => by subst e; rfl
        clear hr hr'
        generalize l[k] = s at *
        generalize m[k] = t at *
        go_wp2
        go_quiet (fail)
        cases hq : decide (s = t)
        · have HQ : Hid (s ≠ t) := ne_stp hq
          go_wp2
          go_ret
          exact ⟨ret_bool ((eqSts_no (fun e => HQ.out (HG.out e))).symm), n + nq, by simp⟩
        · have HQ : Hid (s = t) := eq_stp hq
          go_wp2
          go_roundw
          case rel => exact ⟨k + 1, _, by omega, by go_num, rfl, by rw [HT1.out, HT2.out, HP.out, HQ.out]⟩
          case measure => simp [intOf]; omega
      · go_wp2
        go_ret
        refine ⟨ret_bool ?_, n, rfl⟩
        have e := HP.out
        rw [List.take_of_length_le (by omega), List.take_of_length_le (by omega)] at e
        exact (eqSts_yes e).symm
  · have hlen' : ((l.length : Int) != (m.length : Int)) = true := by simp; omega
    have HL : Hid (l.length ≠ m.length) := hlen
    clear hlen
    go_enter Try.func16, Try.ntmps16
    go_wp2
    go_ret
    exact ⟨ret_bool ((eqSts_no (by intro e; subst e; exact HL.out rfl)).symm), 0, rfl⟩

set_option maxHeartbeats 1000000 in
theorem same_any (w : World) (a a' p p' : Option Addr) (c c' d d' : Nat) (l m : List Stp) (t u : List Pl) (hl : l.length ≤ maxLen) (ht : t.length ≤ maxLen) (h1 : SlE stC w a l) (h2 : SlE stC w a' m) (h3 : SlP w p t) (h4 : SlP w p' u) :
    Calls Try.prog 13 #[hiV (.slice a l.length c) (.slice p t.length d), hiV (.slice a' m.length c') (.slice p' u.length d')] w
      fun e w' => e = .returned (.bool (sameB l m t u)) ∧ Below w.heap.size w w' := by
  have HS : Hid (sameB l m t u = (eqSts l m && eqPls t u)) := rfl
  go_enter Try.func13, Try.ntmps13
  go_wp2_with fail
  obtain ⟨W0, hW, hA, hC, hB, _⟩ := laid2 w [Value.slice a l.length c, Value.slice p t.length d] 28 [Value.slice a' m.length c', Value.slice p' u.length d'] 28
  rw [hW]
  clear hW
  refine (equal_sts W0 a a' c c' l m hl (h1.below hB) (h2.below hB)).mono ?_
  rintro e w1 ⟨rfl, n, rfl⟩
  have hb1 : Below W0.heap.size W0 (W0.drewN n) := below_drewN_any _ _ _
  have hA1 := hA.keep hb1
  have hC1 := hC.keep hb1
  have hP1 := (h3.below hB).below hb1
  have hP2 := (h4.below hB).below hb1
  have HB1 : Hid (Below w.heap.size w (W0.drewN n)) := hB.trans (hb1.mono hB.size)
  clear hA hC hB hb1 h1 h2 h3 h4
  generalize W0.drewN n = W1 at *
  have x1 := hA1.at 1 rfl
  have y1 := hC1.at 1 rfl
  cases hq : eqSts l m
  · go_wp2
    go_ret
    exact ⟨ret_bool (by rw [HS.out, hq]; rfl), HB1.out⟩
  · go_wp2_with fail
    refine (equal_pls W1 p p' d d' t u ht hP1 hP2).mono ?_
    rintro e w2 ⟨rfl, n2, rfl⟩
    have HB2 : Hid (Below w.heap.size w (W1.drewN n2)) := HB1.out.trans (below_drewN_any _ _ _)
    generalize W1.drewN n2 = W2 at *
    go_wp2
    go_ret
    exact ⟨ret_bool (by rw [HS.out, hq]; rfl), HB2.out⟩

end Go.Proofs.Ytphameoibnimmab

/- history.operations, orangeryref.OpsOf: the operations of a history. -/
namespace Go.Proofs.Ytphameoibnimmab
open Go.ChangeShapes Go.WideShapes Go.ChangeAt Go.RowKit
open Orangery (Pl Mv Stp)

/-- cells set in a block, one behind the other -/
theorem setCells_block (g : Nat) (t : TypeId) : ∀ (vs : List Value) (o : Nat) (w : World) (cur : Array Value), w.heap[g]? = some (.cells cur t (0, 0)) → o + vs.length ≤ cur.size →
    ∃ cur', (w.setCells g o vs).heap[g]? = some (.cells cur' t (0, 0)) ∧ cur'.size = cur.size ∧ cur'.toList.take (o + vs.length) = cur.toList.take o ++ vs
  | [], o, w, cur, h, _ => ⟨cur, h, rfl, by simp⟩
  | v :: r, o, w, cur, h, hl => by
    have hs := heap_setCell_same w g o cur t v h
    have hlo : o < cur.size := by simp at hl; omega
    obtain ⟨cur', h1, h2, h3⟩ := setCells_block g t r (o + 1) (w.setCell ⟨g, o, none⟩ v) (cur.setIfInBounds o v) hs (by simp at hl ⊢; omega)
    refine ⟨cur', h1, by simpa using h2, ?_⟩
    have e : o + (v :: r).length = o + 1 + r.length := by simp; omega
    rw [e, h3, Array.toList_setIfInBounds]
    have e2 : (cur.toList.set o v).take (o + 1) = cur.toList.take o ++ [v] := by
      rw [List.take_succ_eq_append_getElem (by simpa using hlo), List.take_set_of_le (Nat.le_refl _)]
      simp
    rw [e2, List.append_assoc]
    rfl

theorem there_block {w : World} {g : Nat} {t : TypeId} {cur : Array Value} (h : w.heap[g]? = some (.cells cur t (0, 0))) (o n : Nat) (hl : o + n ≤ cur.size) : w.there g o n := by
  intro j hj
  refine ⟨?_, Go.Joins.unfrozen_of_block h _⟩
  rw [Go.Joins.cell_of_block h, Array.getElem?_eq_getElem (by omega)]
  rfl

theorem there_at {w : World} {g o n : Nat} (h : w.there g o n) (j : Nat) (hj : j < n) : ∃ u, w.cell? ⟨g, o + j, none⟩ = some u := Option.isSome_iff_exists.1 (h j hj).1

set_option maxHeartbeats 1000000 in
set_option maxRecDepth 100000 in
theorem hops_any (w : World) (a : Option Addr) (c : Nat) (l : List Stp) (y : Value) (hl : l.length * 88 ≤ 140737488351232) (h : SlE stC w a l) :
    Calls Try.prog 27 #[hiV (.slice a l.length c) y] w
      fun e w' => ∃ v, e = .returned v ∧ OwnE opC 7 38 w' w.heap.size v (l.map (·.1)) ∧ Below w.heap.size w w' := by
  obtain ⟨i0, hi, hz0, hz1, hz2⟩ := info_parts infoOp
  have hB := Go.Joins.below_alloc1 w (Obj.cells #[Value.slice a l.length c, y] 28)
  have HH : Hid (SlE stC w a l) := h
  clear h
  go_enter Try.func27, Try.ntmps27
  go_wp2_with (at_make; refine wpList_make_full _ rfl _ _ 22 rfl w.heap.size 38 i0 _ 7 Try.underlying22 hi hz0 hz1 .i64 .i64 _ _ l.length rfl rfl rfl rfl ?c1 ?c2 ?c3 ?_)
  case c1 => rw [hz2]; omega
  case c2 => unfold maxLen; omega
  case c3 => exact hB.size
  intro w1 hown hgrow
  have hb1 : Below w.heap.size w w1 := hB.trans (below_grown (v := .slice none 0 0) (World.ownsRow_nil _ _ 38 7) hB.size hgrow)
  have hbx := (Blk.new w [Value.slice a l.length c, y] 28).grown hgrow (by simp)
  obtain ⟨cur0, hcur0, hsz0⟩ : ∃ cur, w1.heap[w.heap.size + 1]? = some (.cells cur 38 (0, 0)) ∧ cur.size = l.length * 7 := by
    rcases hown.2 with ⟨h', _⟩ | ⟨g, cap, cur, h', _, hh, _, _, hs, _⟩
    · simp at h'
    · simp at h'
      obtain ⟨rfl, rfl⟩ := h'
      exact ⟨cur, hh, hs⟩
  have t0 := hbx.at 0 rfl
  clear hown hgrow hB hbx
  go_wp2
  go_loopw [13] (fun i W => ∃ (k : Nat) (cur : Array Value), k ≤ l.length ∧ i = .int .i64 k ∧ W.heap[w.heap.size + 1]? = some (.cells cur 38 (0, 0)) ∧ cur.size = l.length * 7 ∧ cur.toList.take (k * 7) = ((l.take k).map (·.1)).flatMap opC ∧ Below w.heap.size w W) (fun i _ => l.length - (intOf i).toNat)
  case atStart => exact ⟨0, cur0, Nat.zero_le _, rfl, hcur0, hsz0, by simp, hb1⟩
  case round =>
    clear hcur0 hsz0 hb1 t0
    obtain ⟨k, cur, hk, rfl, hcur, hsz, htk, hb⟩ := hrel
    have HTK : Hid (cur.toList.take (k * 7) = ((l.take k).map (·.1)).flatMap opC) := htk
    clear htk
    by_cases hlt : k < l.length
    · obtain ⟨b, off, rfl, hbl, hr⟩ := (HH.out.below hb).at stC_len k hlt
      obtain ⟨g0, g1, g2, g3, g4, g5, g6, g7, g8, g9, g10⟩ := st_cells hr
      have HT1 : Hid (l.take (k + 1) = l.take k ++ [l[k]]) := List.take_succ_eq_append_getElem hlt
      clear hr
      generalize l[k] = s at *
      obtain ⟨⟨o1, o2, ⟨o3, o4, o5⟩, o6, o7⟩, d, ⟨p1, p2, p3⟩⟩ := s
      simp only at g0 g1 g2 g3 g4 g5 g6 g7 g8 g9 g10
      have hgl : w.heap.size + 1 < wr.heap.size := blk_lt hcur
      obtain ⟨W2, hW, hN, hBn, _⟩ := laid1 wr [Value.int IntKind.i64 o1, Value.int IntKind.i64 o2, Value.int IntKind.i64 o3, Value.int IntKind.i64 o4, Value.int IntKind.i64 o5, Value.int IntKind.i64 o6, Value.int IntKind.i64 o7, Value.bool d, Value.int IntKind.i64 p1, Value.int IntKind.i64 p2, Value.int IntKind.i64 p3] 47
      have hcur2 : W2.heap[w.heap.size + 1]? = some (.cells cur 38 (0, 0)) := by rw [hBn.block _ hgl]; exact hcur
      have hle : k * 7 + (opC (o1, o2, (o3, o4, o5), o6, o7)).length ≤ cur.size := by rw [hsz, opC_len]; omega
      obtain ⟨cur', hc1, hc2, hc3⟩ := setCells_block (w.heap.size + 1) 38 (opC (o1, o2, (o3, o4, o5), o6, o7)) (k * 7) _ cur hcur2 hle
      have HTH : Hid (W2.there (w.heap.size + 1) (k * 7) 7) := there_block hcur2 _ _ (by simpa [opC] using hle)
      have HFZ : Hid (∀ j, W2.frozen? ⟨w.heap.size + 1, j, none⟩ = false) := fun j => Go.Joins.unfrozen_of_block hcur2 j
      have HB2 : Hid (Below w.heap.size w W2) := hb.trans (hBn.mono hb.size)
      have HC : Hid ((W2.setCells (w.heap.size + 1) (k * 7) (opC (o1, o2, (o3, o4, o5), o6, o7))).heap[w.heap.size + 1]? = some (.cells cur' 38 (0, 0)) ∧ cur'.size = cur.size ∧ cur'.toList.take (k * 7 + (opC (o1, o2, (o3, o4, o5), o6, o7)).length) = cur.toList.take (k * 7) ++ opC (o1, o2, (o3, o4, o5), o6, o7)) := ⟨hc1, hc2, hc3⟩
      have HSZ : Hid (cur.size = l.length * 7) := hsz
      clear hc1 hc2 hc3 hcur2 hcur hsz hle hBn hb
      go_upto_region 5 with fail
      clear hW g0 g1 g2 g3 g4 g5 g6 g7 g8 g9 g10
      have y0 := hN.at 0 rfl
      have y1 := hN.at 1 rfl
      have y2 := hN.at 2 rfl
      have y3 := hN.at 3 rfl
      have y4 := hN.at 4 rfl
      have y5 := hN.at 5 rfl
      have y6 := hN.at 6 rfl
      clear hN
      go_wp2_with (with_reducible refine at_store 38 ?_; refine wpList_store_mid ?c1 38 (Operand.tmp 22) (Operand.tmp 21) ?c2 (w.heap.size + 1) (k * 7) #[Value.int IntKind.i64 o1, Value.int IntKind.i64 o2, Value.int IntKind.i64 o3, Value.int IntKind.i64 o4, Value.int IntKind.i64 o5, Value.int IntKind.i64 o6, Value.int IntKind.i64 o7] ?c3 ?c4 ?c5 ?c6 ?c7 ?_)
      case c1 => rfl
      case c2 => rfl
      case c3 => rfl
      case c4 => rfl
      case c5 => exact HTH.out
      case c6 => exact sizeOp
      case c7 => exact all_oneCell_toArray (opC_one (o1, o2, (o3, o4, o5), o6, o7))
      go_roundw
      case rel =>
        obtain ⟨hc1, hc2, hc3⟩ := HC.out
        refine ⟨k + 1, cur', hlt, by go_num, hc1, hc2.trans HSZ.out, ?_, ?_⟩
        · rw [HT1.out, List.map_append, List.flatMap_append, ← HTK.out]
          have e : (k + 1) * 7 = k * 7 + (opC (o1, o2, (o3, o4, o5), o6, o7)).length := by rw [opC_len]; omega
          rw [e, hc3]
          simp
        · exact below_sets HB2.out (w.heap.size + 1) (by omega) (opC (o1, o2, (o3, o4, o5), o6, o7)) (k * 7)
      case measure => simp [intOf]; omega
    · have hk' : k = l.length := by omega
      subst hk'
      go_wp2
      go_ret
      refine ⟨_, rfl, ⟨flatE_len opC_len _, Or.inr ⟨w.heap.size + 1, l.length, cur, by simp, by omega, hcur, by simp, by unfold maxLen; omega, hsz, ?_⟩⟩, hb⟩
      have e := HTK.out
      rw [List.take_of_length_le (Nat.le_refl _)] at e
      simpa using e
end Go.Proofs.Ytphameoibnimmab

/- history.Check. -/
namespace Go.Proofs.Ytphameoibnimmab
open Go.ChangeShapes Go.WideShapes Go.ChangeAt Go.RowKit
open Orangery (Pl Mv Stp check checkOp foldE foldL foldT histE sameB)

theorem sameB_comm (l m : List Stp) (t u : List Pl) : sameB l m t u = sameB m l u t := by
  rw [Bool.eq_iff_iff, Orangery.sameB_iff, Orangery.sameB_iff]
  constructor <;> rintro ⟨rfl, rfl⟩ <;> exact ⟨rfl, rfl⟩
theorem histE_bad {l : List Stp} {t : List Pl} {m : List Mv} (hm : l.map (·.1) = m) (h : foldE m ≠ 0) : histE l t = foldE m := by subst hm; unfold histE; rw [if_pos h]
theorem histE_ok {l : List Stp} {t : List Pl} {m : List Mv} (hm : l.map (·.1) = m) (h : foldE m = 0) : histE l t = if sameB l (foldL m) t (foldT m) = true then 0 else 4 := by
  subst hm
  unfold histE
  rw [if_neg (by simp [h]), sameB_comm]

theorem foldL_len (m : List Mv) : (foldL m).length ≤ 30 := by
  by_cases h : foldE m = 0
  · rw [(Orangery.fold_ok h).2.2.2.1]; exact ((Orangery.foldE_zero m).1 h).1
  · rw [(Orangery.fold_err h).1]; simp
theorem foldT_len (m : List Mv) : (foldT m).length ≤ 15 := by
  by_cases h : foldE m = 0
  · exact Orangery.check_len _ (Orangery.fold_ok h).2.2.2.2
  · rw [(Orangery.fold_err h).2]; simp

set_option maxHeartbeats 2000000 in
set_option maxRecDepth 100000 in
theorem hcheck_any (w : World) (a p : Option Addr) (c d : Nat) (l : List Stp) (t : List Pl) (hl : l.length * 88 ≤ 140737488351232) (ht : t.length ≤ maxLen) (h1 : SlE stC w a l) (h3 : SlP w p t) :
    Calls Try.prog 24 #[hiV (.slice a l.length c) (.slice p t.length d)] w
      fun e w' => e = .returned (.int .i64 (histE l t)) ∧ Below w.heap.size w w' := by
  obtain ⟨W0, hW, hH, hB, hS⟩ := laid1 w [Value.slice a l.length c, Value.slice p t.length d] 28
  have hP := h1.below hB
  have hT := h3.below hB
  have x0 := hH.at 0 rfl
  have x1 := hH.at 1 rfl
  have HB : Hid (Below w.heap.size w W0) := hB
  have hlen : (l.map (·.1)).length ≤ maxLen := by simp; unfold maxLen; omega
  clear h1 h3 hB
  go_enter Try.func24, Try.ntmps24
  go_wp2_with fail
  refine (hops_any W0 a c l (.slice p t.length d) hl hP).mono ?_
  rintro e w1 ⟨v1, rfl, hO1, hb1⟩
  obtain ⟨a1, c1, rfl, hP1, hc1⟩ := hO1.val
  have hH1 := hH.keep hb1
  have hPa := hP.below hb1
  have hTa := hT.below hb1
  have HB1 : Hid (Below w.heap.size w w1) := HB.out.trans (hb1.mono HB.out.size)
  generalize hm : l.map (·.1) = m at *
  have HM : Hid (l.map (·.1) = m) := hm
  clear hm hO1 hb1 hH hP hT HB hS hW x0 x1
  go_wp2_with fail
  refine (fold_any w1 a1 c1 m hlen hc1 hP1).mono ?_
  rintro e w2 ⟨vL, vT, rfl, hL2, hT2, hb2⟩
  obtain ⟨aT, cT, rfl⟩ := hT2.val
  obtain ⟨aL, cL, rfl, hPL, _⟩ := hL2.val
  have hPT := hT2.read
  have hH2 := hH1.keep hb2
  have hPb := hPa.below hb2
  have hTb := hTa.below hb2
  have HB2 : Hid (Below w.heap.size w w2) := HB1.out.trans (hb2.mono HB1.out.size)
  have hLl := foldL_len m
  have hTl := foldT_len m
  clear hL2 hT2 hP1 hPa hTa HB1 hH1 hb2 hlen hc1
  by_cases hz : foldE m = 0
  · have HE : Hid (histE l t = if sameB l (foldL m) t (foldT m) = true then 0 else 4) := histE_ok HM.out hz
    rw [hz]
    clear hz HM
    generalize foldL m = L at *
    generalize foldT m = T at *
    obtain ⟨W3, hW3, hN, hBn, _⟩ := laid1 w2 [Value.slice aL L.length cL, Value.slice aT T.length cT] 28
    have hH3 := hH2.keep hBn
    have x0 := hH3.at 0 rfl
    have x1 := hH3.at 1 rfl
    have y0 := hN.at 0 rfl
    have y1 := hN.at 1 rfl
    have hl2 : l.length ≤ maxLen := by unfold maxLen; omega
    have HB3 : Hid (Below w.heap.size w W3) := HB2.out.trans (hBn.mono HB2.out.size)
    have hPL3 := hPL.below hBn
    have hPT3 := hPT.below hBn
    have hPb3 := hPb.below hBn
    have hTb3 := hTb.below hBn
    clear hH2 hH3 hN hBn hPL hPT hPb hTb HB2
    go_wp2_with fail
    refine (same_any W3 a aL p aT c cL d cT l L t T hl2 ht hPb3 hPL3 hTb3 hPT3).mono ?_
    rintro e w4 ⟨rfl, hb4⟩
    have HB4 : Hid (Below w.heap.size w w4) := HB3.out.trans (hb4.mono HB3.out.size)
    clear hb4 hPL3 hPT3 hPb3 hTb3 HB3 x0 x1 y0 y1
    cases hq : sameB l L t T
    · go_wp2
      go_ret
      exact ⟨ret_int (by rw [HE.out, hq]; rfl), HB4.out⟩
    · go_wp2
      go_ret
      exact ⟨ret_int (by rw [HE.out, hq]; rfl), HB4.out⟩
  · have hz' : (foldE m != 0) = true := by simpa using hz
    have HE : Hid (histE l t = foldE m) := histE_bad HM.out hz
    have HBx : Hid (Below w.heap.size w (w2.alloc (.cells #[Value.slice aL (foldL m).length cL, Value.slice aT (foldT m).length cT] 28))) := HB2.out.alloc HB2.out.size _
    clear hz HM
    generalize foldE m = E at *
    go_wp2
    go_ret
    exact ⟨ret_int (by rw [HE.out]), HBx.out⟩
end Go.Proofs.Ytphameoibnimmab

/- history.Insert. -/
namespace Go.Proofs.Ytphameoibnimmab
open Go.ChangeShapes Go.WideShapes Go.ChangeAt Go.RowKit
open Orangery (Pl Mv Stp check checkOp foldE foldL foldT histE hasM thereB insE insL insT orI)

theorem there_has {l : List Stp} {m : List Mv} (hm : l.map (·.1) = m) (o : Mv) : thereB l o = hasM m o.1 o.2.1 := by
  subst hm
  rw [Bool.eq_iff_iff, Orangery.hasM_iff]
  unfold thereB
  rw [List.any_eq_true]
  constructor
  · rintro ⟨s, hs, h⟩
    simp at h
    exact ⟨s.1, List.mem_map.2 ⟨s, hs, rfl⟩, h⟩
  · rintro ⟨x, hx, h⟩
    obtain ⟨s, hs, rfl⟩ := List.mem_map.1 hx
    exact ⟨s, hs, by simp [h]⟩
theorem ins_err {l : List Stp} {t : List Pl} {o : Mv} (h : insE l t o ≠ 0) : insL l t o = [] ∧ insT l t o = [] := by
  unfold insL insT
  rw [if_pos h, if_pos h]
  exact ⟨rfl, rfl⟩
theorem insE_or {l : List Stp} {t : List Pl} {o : Mv} (h : orI (histE l t) (checkOp o) ≠ 0) : insE l t o = orI (histE l t) (checkOp o) := by
  unfold insE
  unfold orI at h ⊢
  by_cases h1 : histE l t = 0
  · rw [if_neg (by simp [h1])] at h
    rw [if_neg (by simp [h1]), if_pos h, if_neg (by simp [h1])]
  · rw [if_pos h1, if_pos h1]
theorem or_zero {x y : Int} (h : orI x y = 0) : x = 0 ∧ y = 0 := by
  unfold orI at h
  split at h
  · contradiction
  · rename_i hx; exact ⟨by simpa using hx, h⟩
theorem insE_go {l : List Stp} {t : List Pl} {o : Mv} {m : List Mv} (hm : l.map (·.1) = m) (h : orI (histE l t) (checkOp o) = 0) :
    (hasM m o.1 o.2.1 = true → insE l t o = 6) ∧ (hasM m o.1 o.2.1 = false → insE l t o = foldE (m ++ [o]) ∧ insL l t o = foldL (m ++ [o]) ∧ insT l t o = foldT (m ++ [o])) := by
  obtain ⟨h1, h2⟩ := or_zero h
  have ht := there_has hm o
  constructor
  · intro hh
    unfold insE
    rw [if_neg (by simp [h1]), if_neg (by simp [h2]), if_pos (by rw [ht]; exact hh)]
  · intro hh
    have e : insE l t o = foldE (m ++ [o]) := by
      unfold insE
      rw [if_neg (by simp [h1]), if_neg (by simp [h2]), if_neg (by rw [ht, hh]; simp), hm]
    refine ⟨e, ?_, ?_⟩
    · unfold insL
      rw [e, hm]
      by_cases hz : foldE (m ++ [o]) = 0
      · rw [if_neg (by simp [hz])]
      · rw [if_pos hz, (Orangery.fold_err hz).1]
    · unfold insT
      rw [e, hm]
      by_cases hz : foldE (m ++ [o]) = 0
      · rw [if_neg (by simp [hz])]
      · rw [if_pos hz, (Orangery.fold_err hz).2]
theorem hist_len {l : List Stp} {t : List Pl} (h : histE l t = 0) : l.length ≤ 30 := by
  have h1 : foldE (l.map (·.1)) = 0 := by
    unfold histE at h
    split at h
    · contradiction
    · rename_i hx; simpa using hx
  have := ((Orangery.foldE_zero _).1 h1).1
  simpa using this

set_option maxHeartbeats 2000000 in
set_option maxRecDepth 100000 in
theorem insert_any (w : World) (a p : Option Addr) (c d : Nat) (l : List Stp) (t : List Pl) (o : Mv) (hl : l.length * 88 ≤ 140737488351232) (ht : t.length ≤ maxLen) (h1 : SlE stC w a l) (h3 : SlP w p t) :
    Calls Try.prog 11 #[hiV (.slice a l.length c) (.slice p t.length d), opV o] w fun e w' => Folds w (insL l t o) (insT l t o) (insE l t o) e w' := by
  obtain ⟨i0, hi, hz0, hz1, hz2⟩ := info_parts infoOp
  obtain ⟨m, hm⟩ : ∃ m, l.map (·.1) = m := ⟨_, rfl⟩
  have HBAD : Hid (orI (histE l t) (checkOp o) ≠ 0 → insE l t o = orI (histE l t) (checkOp o)) := insE_or
  have HGO : Hid (orI (histE l t) (checkOp o) = 0 → (hasM m o.1 o.2.1 = true → insE l t o = 6) ∧ (hasM m o.1 o.2.1 = false → insE l t o = foldE (m ++ [o]) ∧ insL l t o = foldL (m ++ [o]) ∧ insT l t o = foldT (m ++ [o]))) := insE_go hm
  have HLEN : Hid (orI (histE l t) (checkOp o) = 0 → m.length ≤ 30) := fun h => by rw [← hm, List.length_map]; exact hist_len (or_zero h).1
  have HM : Hid (l.map (·.1) = m) := hm
  clear hm
  obtain ⟨o1, o2, ⟨o3, o4, o5⟩, o6, o7⟩ := o
  obtain ⟨W0, hW, hH, hO, hR, hB, hS⟩ := laid3 w [Value.slice a l.length c, Value.slice p t.length d] 28 [Value.int IntKind.i64 o1, Value.int IntKind.i64 o2, Value.int IntKind.i64 o3, Value.int IntKind.i64 o4, Value.int IntKind.i64 o5, Value.int IntKind.i64 o6, Value.int IntKind.i64 o7] 38 [Value.slice none 0 0, Value.slice none 0 0] 28
  have hP := h1.below hB
  have hT := h3.below hB
  have HS : Hid (W0.heap.size = w.heap.size + 3) := hS
  clear h1 h3 hS
  go_enter Try.func11, Try.ntmps11
  go_wp2_with fail
  clear hW
  have x0 := hH.at 0 rfl
  have x1 := hH.at 1 rfl
  have m0 := hO.at 0 rfl
  have m1 := hO.at 1 rfl
  have m2 := hO.at 2 rfl
  have m3 := hO.at 3 rfl
  have m4 := hO.at 4 rfl
  have m5 := hO.at 5 rfl
  have m6 := hO.at 6 rfl
  go_region_held3 (fun w' => w'.cell? ⟨w.heap.size, 0, none⟩ = some (.slice a l.length c) ∧ w'.cell? ⟨w.heap.size, 1, none⟩ = some (.slice p t.length d) ∧ w'.cell? ⟨w.heap.size + 1, 0, none⟩ = some (.int .i64 o1) ∧ w'.cell? ⟨w.heap.size + 1, 1, none⟩ = some (.int .i64 o2) ∧ w'.cell? ⟨w.heap.size + 1, 2, none⟩ = some (.int .i64 o3) ∧ w'.cell? ⟨w.heap.size + 1, 3, none⟩ = some (.int .i64 o4) ∧ w'.cell? ⟨w.heap.size + 1, 4, none⟩ = some (.int .i64 o5) ∧ w'.cell? ⟨w.heap.size + 1, 5, none⟩ = some (.int .i64 o6) ∧ w'.cell? ⟨w.heap.size + 1, 6, none⟩ = some (.int .i64 o7)) (go_keep)
    (first | (go_at_call 24; refine (hcheck_any _ a p c d l t hl ht ?_ ?_).mono ?_; exact hP.drew; exact hT; rintro e w1 ⟨rfl, hb1⟩; have hb1' : Below W0.heap.size W0 w1 := ((Below.refl _ W0).drew).trans hb1; have hH1 := hH.keep hb1'; have x10 := hH1.at 0 rfl; have x11 := hH1.at 1 rfl; have hO1 := hO.keep hb1'; have m10 := hO1.at 0 rfl; have m11 := hO1.at 1 rfl; have m12 := hO1.at 2 rfl; have m13 := hO1.at 3 rfl; have m14 := hO1.at 4 rfl; have m15 := hO1.at 5 rfl; have m16 := hO1.at 6 rfl) | (go_at_call 17; refine (moveCheck_any _ (o1, o2, (o3, o4, o5), o6, o7)).mono ?_; rintro e w2 ⟨rfl, hb2⟩; have hb2' := hb1'.trans (hb2.mono hb1'.size); have hH2 := hH.keep hb2'; have x20 := hH2.at 0 rfl; have x21 := hH2.at 1 rfl; have hO2 := hO.keep hb2'; have m20 := hO2.at 0 rfl; have m21 := hO2.at 1 rfl; have m22 := hO2.at 2 rfl; have m23 := hO2.at 3 rfl; have m24 := hO2.at 4 rfl; have m25 := hO2.at 5 rfl; have m26 := hO2.at 6 rfl) | (go_at_call 26; refine (orE_any _ _ _ (histE l t) (checkOp (o1, o2, (o3, o4, o5), o6, o7)) ?_ ?_).mono ?_; simp; simp; rintro e w3 ⟨rfl, rfl⟩))
  have hH3 := hH2.alloc (Obj.cells #[Value.int IntKind.i64 (histE l t), Value.int IntKind.i64 (checkOp (o1, o2, (o3, o4, o5), o6, o7))] 29)
  have hO3 := hO2.alloc (Obj.cells #[Value.int IntKind.i64 (histE l t), Value.int IntKind.i64 (checkOp (o1, o2, (o3, o4, o5), o6, o7))] 29)
  have hR3 := (hR.keep hb2').alloc (Obj.cells #[Value.int IntKind.i64 (histE l t), Value.int IntKind.i64 (checkOp (o1, o2, (o3, o4, o5), o6, o7))] 29)
  have hb3 : Below W0.heap.size W0 (w2.alloc (Obj.cells #[Value.int IntKind.i64 (histE l t), Value.int IntKind.i64 (checkOp (o1, o2, (o3, o4, o5), o6, o7))] 29)) := hb2'.alloc hb2'.size _
  have hP3 := hP.below hb3
  have hT3 := hT.below hb3
  have HB3 : Hid (Below w.heap.size w (w2.alloc (Obj.cells #[Value.int IntKind.i64 (histE l t), Value.int IntKind.i64 (checkOp (o1, o2, (o3, o4, o5), o6, o7))] 29))) := hB.trans (hb3.mono hB.size)
  have hsz3 := hb3.size
  rw [HS.out] at hsz3
  generalize w2.alloc (Obj.cells #[Value.int IntKind.i64 (histE l t), Value.int IntKind.i64 (checkOp (o1, o2, (o3, o4, o5), o6, o7))] 29) = W3 at *
  clear hH hO hR hB hP hT x0 x1 m0 m1 m2 m3 m4 m5 m6 x10 x11 m10 m11 m12 m13 m14 m15 m16 x20 x21 m20 m21 m22 m23 m24 m25 m26 hb1 hb1' hb2 hb2' hO1 hO2 hH1 hH2 hb3
  generalize orI (histE l t) (checkOp (o1, o2, (o3, o4, o5), o6, o7)) = E at *
  by_cases hz : E = 0
  · subst hz
    have HG := HGO.out rfl
    have hml := HLEN.out rfl
    have HG1 : Hid (hasM m o1 o2 = true → insE l t (o1, o2, (o3, o4, o5), o6, o7) = 6) := HG.1
    have HG2 : Hid (hasM m o1 o2 = false → insE l t (o1, o2, (o3, o4, o5), o6, o7) = foldE (m ++ [(o1, o2, (o3, o4, o5), o6, o7)]) ∧ insL l t (o1, o2, (o3, o4, o5), o6, o7) = foldL (m ++ [(o1, o2, (o3, o4, o5), o6, o7)]) ∧ insT l t (o1, o2, (o3, o4, o5), o6, o7) = foldT (m ++ [(o1, o2, (o3, o4, o5), o6, o7)])) := HG.2
    clear HG HGO HLEN HBAD
    have x0 := hH3.at 0 rfl
    have x1 := hH3.at 1 rfl
    go_wp2_with fail
    refine (hops_any W3 a c l (.slice p t.length d) hl hP3).mono ?_
    rintro e w4 ⟨v4, rfl, hO4, hb4⟩
    rw [HM.out] at hO4
    obtain ⟨a4, c4, rfl, hP4, hc4⟩ := hO4.val
    have hOp4 := hO3.keep hb4
    have hR4 := hR3.keep hb4
    have HB4 : Hid (Below w.heap.size w w4) := HB3.out.trans (hb4.mono HB3.out.size)
    have hsz4 : w.heap.size + 3 ≤ w4.heap.size := by have := hb4.size; omega
    have hsz34 := hb4.size
    clear hO3 hR3 hH3 hP3 hT3 HB3 hb4 x0 x1
    have m0 := hOp4.at 0 rfl
    have m1 := hOp4.at 1 rfl
    go_wp2_with fail
    refine (has_any w4 a4 c4 m o1 o2 (by unfold maxLen; omega) hP4).mono ?_
    rintro e w5 ⟨rfl, hb5⟩
    have hOp5 := hOp4.keep hb5
    have hR5 := hR4.keep hb5
    have hO5 := (hO4.keep hb5)
    have HB5 : Hid (Below w.heap.size w w5) := HB4.out.trans (hb5.mono HB4.out.size)
    have hsz5 : W3.heap.size ≤ w5.heap.size := by have := hb5.size; omega
    have HE5 : Hid (hasS m o1 o2 = hasM m o1 o2) := rfl
    rw [HE5.out]
    clear hOp4 hR4 hO4 hP4 HB4 hb5 m0 m1
    cases hq : hasM m o1 o2
    · obtain ⟨e1, e2, e3⟩ := HG2.out hq
      have HQ : Hid (insE l t (o1, o2, (o3, o4, o5), o6, o7) = foldE (m ++ [(o1, o2, (o3, o4, o5), o6, o7)]) ∧ insL l t (o1, o2, (o3, o4, o5), o6, o7) = foldL (m ++ [(o1, o2, (o3, o4, o5), o6, o7)]) ∧ insT l t (o1, o2, (o3, o4, o5), o6, o7) = foldT (m ++ [(o1, o2, (o3, o4, o5), o6, o7)])) := ⟨e1, e2, e3⟩
      clear e1 e2 e3 HG1 HG2 hq HE5
      obtain ⟨W6, hW6, hN, hBn, _⟩ := laid1 w5 [Value.int IntKind.i64 o1, Value.int IntKind.i64 o2, Value.int IntKind.i64 o3, Value.int IntKind.i64 o4, Value.int IntKind.i64 o5, Value.int IntKind.i64 o6, Value.int IntKind.i64 o7] 38
      have hR6 := hR5.keep hBn
      have hown6 : W6.ownsRow W3.heap.size 38 7 (.slice a4 m.length c4) m.length (m.flatMap opC) := hO5.keep hBn
      have HB6 : Hid (Below w.heap.size w W6) := HB5.out.trans (hBn.mono HB5.out.size)
      have HN : Hid (Blk W6 w5.heap.size [Value.int IntKind.i64 o1, Value.int IntKind.i64 o2, Value.int IntKind.i64 o3, Value.int IntKind.i64 o4, Value.int IntKind.i64 o5, Value.int IntKind.i64 o6, Value.int IntKind.i64 o7]) := hN
      have m0 := hOp5.at 0 rfl
      have m1 := hOp5.at 1 rfl
      have m2 := hOp5.at 2 rfl
      have m3 := hOp5.at 3 rfl
      have m4 := hOp5.at 4 rfl
      have m5 := hOp5.at 5 rfl
      have m6 := hOp5.at 6 rfl
      have hsz6 : W3.heap.size ≤ W6.heap.size := by have := hBn.size; omega
      clear hOp5 hR5 hO5 HB5 hN hBn
      go_wp2_with (at_builtin; refine wpList_append_own _ rfl _ _ 22 rfl W3.heap.size 38 i0 _ 7 56 Try.underlying22 hi hz0 hz1 hz2 rfl (by decide) _ _ _ rfl hown6 ⟨w5.heap.size, 0, none⟩ 1 1 [Value.int IntKind.i64 o1, Value.int IntKind.i64 o2, Value.int IntKind.i64 o3, Value.int IntKind.i64 o4, Value.int IntKind.i64 o5, Value.int IntKind.i64 o6, Value.int IntKind.i64 o7] rfl rfl ?c1 ?c2 ?c3 ?c4 ?c5 ?_)
      case c1 => intro j u hj; first | exact HN.out.at j hj | (rw [Addr.add_mid, Nat.zero_add]; exact HN.out.at j hj)
      case c2 => first | exact ⟨rfl, rfl, rfl, rfl, rfl, rfl, rfl⟩ | exact opC_one (o1, o2, (o3, o4, o5), o6, o7)
      case c3 => unfold maxLen; omega
      case c4 => omega
      case c5 => omega
      intro v7 w7 hown' hgrow _
      obtain ⟨Mn, hMn⟩ : ∃ Mn, Mn = m ++ [(o1, o2, (o3, o4, o5), o6, o7)] := ⟨_, rfl⟩
      have hO7 : OwnE opC 7 38 w7 W3.heap.size v7 Mn := by
        show World.ownsRow _ _ _ _ _ _ _
        rw [hMn]
        simpa [opC] using hown'
      have hgb : ∀ g, (Value.slice a4 m.length c4).ownBlock = some g → W3.heap.size ≤ g := fun g hg => (hown6.lt g hg).1
      have hR7 := hR6.grown hgrow (by intro e; have := hgb _ e.symm; omega)
      have HB7 : Hid (Below w.heap.size w w7) := HB6.out.grown hgrow (by omega) (fun g hg => by have := hgb g hg; omega)
      have hlen7 : Mn.length ≤ maxLen := by rw [hMn]; simp; unfold maxLen; omega
      have HMN : Hid (Mn = m ++ [(o1, o2, (o3, o4, o5), o6, o7)]) := hMn
      have hsz7 : w.heap.size + 3 ≤ w7.heap.size := by have := hgrow.size; omega
      obtain ⟨a7, c7, rfl, hP7, hc7⟩ := hO7.val
      clear hMn hown' hown6 hgrow hgb hR6 HB6 hO7 m0 m1 m2 m3 m4 m5 m6 hW6 HN
      go_wp2_with fail
      refine (fold_any w7 a7 c7 Mn hlen7 hc7 hP7).mono ?_
      rintro e w8 ⟨vL, vT, rfl, hL8, hT8, hb8⟩
      have hR8 := hR7.keep hb8
      have HB8 : Hid (Below w.heap.size w w8) := HB7.out.trans (hb8.mono HB7.out.size)
      have hL9 := hL8.mono (base' := w.heap.size + 3) hsz7
      have hT9 := hT8.mono (base' := w.heap.size + 3) hsz7
      obtain ⟨aT, cT, rfl⟩ := hT9.val
      obtain ⟨aL, cL, rfl, _, _⟩ := hL9.val
      have r0 := hR8.at 0 rfl
      have r1 := hR8.at 1 rfl
      have rf := hR8.frz
      clear hL8 hT8 hP7 hR7 HB7 hb8
      go_wp2
      have hRf := hR8.sets [Value.slice aL (foldL Mn).length cL, Value.slice aT (foldT Mn).length cT] rfl
      refine ret_cell_tmp Try.results11 rfl rfl (hRf.load Try.underlying28 rfl sizeHist) ?_
      rw [HQ.out.1, HQ.out.2.1, HQ.out.2.2, ← HMN.out]
      have e1 := (OwnE.others (w.heap.size + 1 + 1) (by omega) [Value.slice aL (foldL Mn).length cL, Value.slice aT (foldT Mn).length cT] 0 w8 hL9).mono (base' := w.heap.size) (by omega)
      have e2 := (OwnS.others (w.heap.size + 1 + 1) (by omega) [Value.slice aL (foldL Mn).length cL, Value.slice aT (foldT Mn).length cT] 0 w8 hT9).mono (base' := w.heap.size) (by omega)
      exact ⟨_, _, rfl, e1, e2, below_sets HB8.out (w.heap.size + 1 + 1) (by omega) [Value.slice aL (foldL Mn).length cL, Value.slice aT (foldT Mn).length cT] 0⟩
    · have HE : Hid (insE l t (o1, o2, (o3, o4, o5), o6, o7) = 6) := HG1.out hq
      have r0 := hR5.at 0 rfl
      have r1 := hR5.at 1 rfl
      have rf := hR5.frz
      clear HG1 HG2 hq HE5
      go_wp2
      have hRf := hR5.sets [Value.slice none 0 0, Value.slice none 0 0] rfl
      refine ret_cell_tmp Try.results11 rfl rfl (hRf.load Try.underlying28 rfl sizeHist) ?_
      have hzz := ins_err (l := l) (t := t) (o := (o1, o2, (o3, o4, o5), o6, o7)) (by rw [HE.out]; decide)
      rw [HE.out]
      exact folds_err hzz.1 hzz.2 (below_sets HB5.out (w.heap.size + 1 + 1) (by omega) [Value.slice none 0 0, Value.slice none 0 0] 0)
  · have HE : Hid (insE l t (o1, o2, (o3, o4, o5), o6, o7) = E) := HBAD.out hz
    have HZ : Hid (E ≠ 0) := hz
    have hz' : (E != 0) = true := by simpa using hz
    have r0 := hR3.at 0 rfl
    have r1 := hR3.at 1 rfl
    have rf := hR3.frz
    clear HBAD HGO HLEN hz
    go_wp2
    have hRf := hR3.sets [Value.slice none 0 0, Value.slice none 0 0] rfl
    refine ret_cell_tmp Try.results11 rfl rfl (hRf.load Try.underlying28 rfl sizeHist) ?_
    have hzz := ins_err (l := l) (t := t) (o := (o1, o2, (o3, o4, o5), o6, o7)) (by rw [HE.out]; exact HZ.out)
    rw [HE.out]
    exact folds_err hzz.1 hzz.2 (below_sets HB3.out (w.heap.size + 1 + 1) (by omega) [Value.slice none 0 0, Value.slice none 0 0] 0)
end Go.Proofs.Ytphameoibnimmab

