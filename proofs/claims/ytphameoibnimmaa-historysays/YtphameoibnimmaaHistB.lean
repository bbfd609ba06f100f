/- slices.Equal at steps; history.Same, orangeryref.SameHistory; history.operations, orangeryref.OpsOf, orangeryref.rank. -/
import Derived.Test.YtphameoibnimmaaHistA
import Derived.Test.YtphameoibnimmaaEqual
import Derived.Test.YtphameoibnimmaaRet
import Derived.OwnWalk
namespace Go.Proofs.Ytphameoibnimmaa
open Go.ChangeShapes Go.WideShapes Go.ChangeAt Go.RowKit
open Orangery (Pl Mv Stp eqSts sameB rk)

theorem below_drewN_any (B : Nat) (w : World) (n : Nat) : Below B w (w.drewN n) := ⟨rfl, rfl, rfl, Nat.le_refl _, fun _ _ => rfl⟩

theorem eqSts_no {l m : List Stp} (h : l ≠ m) : eqSts l m = false := by
  cases hq : eqSts l m
  · rfl
  · exact absurd ((Orangery.eqSts_iff l m).1 hq) h
theorem eqSts_yes {l m : List Stp} (h : l = m) : eqSts l m = true := (Orangery.eqSts_iff l m).2 h

theorem ne_stp {s t : Stp} (hq : decide (s = t) = false) : s ≠ t := by simpa using hq
theorem eq_stp {s t : Stp} (hq : decide (s = t) = true) : s = t := by simpa using hq

set_option maxHeartbeats 1000000 in
theorem equal_sts (w : World) (a a' : Option Addr) (c c' : Nat) (l m : List Stp) (hl : l.length ≤ maxLen) (h1 : SlE stC w a l) (h2 : SlE stC w a' m) :
    Calls Try.prog 70 #[.slice a l.length c, .slice a' m.length c'] w
      fun e w' => e = .returned (.bool (eqSts l m)) ∧ ∃ n, w' = w.drewN n := by
  have hl' : l.length ≤ 9223372036854775807 := hl
  by_cases hlen : l.length = m.length
  · have hne := run_neq_stepg
    have hgd := guard_step
    have hlen' : ((l.length : Int) != (m.length : Int)) = false := by simp [hlen]
    go_enter Try.func70, Try.ntmps70
    go_wp2
    go_loopw [13] (fun i w' => ∃ k n : Nat, k ≤ l.length ∧ i = .int .i64 k ∧ w' = w.drewN n ∧ l.take k = m.take k) (fun i _ => l.length - (intOf i).toNat)
    case atStart => exact ⟨0, 0, Nat.zero_le _, rfl, rfl, rfl⟩
    case round =>
      obtain ⟨k, n, hk, rfl, rfl, hpre⟩ := hrel
      have HP : Hid (l.take k = m.take k) := hpre
      clear hpre
      by_cases hlt : k < l.length
      · have hlt2 : k < m.length := by omega
        obtain ⟨b, off, rfl, hbl, hr⟩ := h1.at stC_len k hlt
        obtain ⟨b', off', rfl, hbl', hr'⟩ := h2.at stC_len k hlt2
        obtain ⟨g0, g1, g2, g3, g4, g5, g6, g7, g8, g9, g10⟩ := st_cells hr
        obtain ⟨x0, x1, x2, x3, x4, x5, x6, x7, x8, x9, x10⟩ := st_cells hr'
        have hlti : (k : Int) < (m.length : Int) := by omega
        have HT1 : Hid (l.take (k + 1) = l.take k ++ [l[k]]) := List.take_succ_eq_append_getElem hlt
        have HT2 : Hid (m.take (k + 1) = m.take k ++ [m[k]]) := List.take_succ_eq_append_getElem hlt2
        have HG : Hid (l = m → l[k] = m[k]) := fun e => by subst e; rfl
        clear hr hr'
        generalize l[k] = s at *
        generalize m[k] = t at *
        go_wp2
        go_quiet (fail)
        cases hq : decide (s = t)
        · have HQ : Hid (s ≠ t) := ne_stp hq
          go_wp2
          go_ret
          exact ⟨ret_bool ((eqSts_no (fun e => HQ.out (HG.out e))).symm), n + nq, by simp⟩
        · have HQ : Hid (s = t) := eq_stp hq
          go_wp2
          go_roundw
          case rel => exact ⟨k + 1, _, by omega, by go_num, rfl, by rw [HT1.out, HT2.out, HP.out, HQ.out]⟩
          case measure => simp [intOf]; omega
      · go_wp2
        go_ret
        refine ⟨ret_bool ?_, n, rfl⟩
        have e := HP.out
        rw [List.take_of_length_le (by omega), List.take_of_length_le (by omega)] at e
        exact (eqSts_yes e).symm
  · have hlen' : ((l.length : Int) != (m.length : Int)) = true := by simp; omega
    have HL : Hid (l.length ≠ m.length) := hlen
    clear hlen
    go_enter Try.func70, Try.ntmps70
    go_wp2
    go_ret
    exact ⟨ret_bool ((eqSts_no (by intro e; subst e; exact HL.out rfl)).symm), 0, rfl⟩

set_option maxHeartbeats 1000000 in
theorem same_any (w : World) (a a' p p' : Option Addr) (c c' d d' : Nat) (l m : List Stp) (t u : List Pl) (hl : l.length ≤ maxLen) (ht : t.length ≤ maxLen) (h1 : SlE stC w a l) (h2 : SlE stC w a' m) (h3 : SlP w p t) (h4 : SlP w p' u) :
    Calls Try.prog 36 #[hiV (.slice a l.length c) (.slice p t.length d), hiV (.slice a' m.length c') (.slice p' u.length d')] w
      fun e w' => e = .returned (.bool (sameB l m t u)) ∧ Below w.heap.size w w' := by
  have HS : Hid (sameB l m t u = (eqSts l m && eqPls t u)) := rfl
  go_enter Try.func36, Try.ntmps36
  go_wp2_with fail
  obtain ⟨W0, hW, hA, hC, hB, _⟩ := laid2 w [Value.slice a l.length c, Value.slice p t.length d] 62 [Value.slice a' m.length c', Value.slice p' u.length d'] 62
  rw [hW]
  clear hW
  refine (equal_sts W0 a a' c c' l m hl (h1.below hB) (h2.below hB)).mono ?_
  rintro e w1 ⟨rfl, n, rfl⟩
  have hb1 : Below W0.heap.size W0 (W0.drewN n) := below_drewN_any _ _ _
  have hA1 := hA.keep hb1
  have hC1 := hC.keep hb1
  have hP1 := (h3.below hB).below hb1
  have hP2 := (h4.below hB).below hb1
  have HB1 : Hid (Below w.heap.size w (W0.drewN n)) := hB.trans (hb1.mono hB.size)
  clear hA hC hB hb1 h1 h2 h3 h4
  generalize W0.drewN n = W1 at *
  have x1 := hA1.at 1 rfl
  have y1 := hC1.at 1 rfl
  cases hq : eqSts l m
  · go_wp2
    go_ret
    exact ⟨ret_bool (by rw [HS.out, hq]; rfl), HB1.out⟩
  · go_wp2_with fail
    refine (equal_pls W1 p p' d d' t u ht hP1 hP2).mono ?_
    rintro e w2 ⟨rfl, n2, rfl⟩
    have HB2 : Hid (Below w.heap.size w (W1.drewN n2)) := HB1.out.trans (below_drewN_any _ _ _)
    generalize W1.drewN n2 = W2 at *
    go_wp2
    go_ret
    exact ⟨ret_bool (by rw [HS.out, hq]; rfl), HB2.out⟩

set_option maxHeartbeats 1000000 in
theorem rsame_any (w : World) (a a' p p' : Option Addr) (c c' d d' : Nat) (l m : List Stp) (t u : List Pl) (hl : l.length ≤ maxLen) (ht : t.length ≤ maxLen) (h1 : SlE stC w a l) (h2 : SlE stC w a' m) (h3 : SlP w p t) (h4 : SlP w p' u) :
    Calls Try.prog 37 #[hiV (.slice a l.length c) (.slice p t.length d), hiV (.slice a' m.length c') (.slice p' u.length d')] w
      fun e w' => e = .returned (.bool (sameB l m t u)) ∧ Below w.heap.size w w' := by
  have HS : Hid (sameB l m t u = (eqSts l m && eqPls t u)) := rfl
  go_enter Try.func37, Try.ntmps37
  go_wp2_with fail
  obtain ⟨W0, hW, hA, hC, hB, _⟩ := laid2 w [Value.slice a l.length c, Value.slice p t.length d] 62 [Value.slice a' m.length c', Value.slice p' u.length d'] 62
  rw [hW]
  clear hW
  refine (equal_sts W0 a a' c c' l m hl (h1.below hB) (h2.below hB)).mono ?_
  rintro e w1 ⟨rfl, n, rfl⟩
  have hb1 : Below W0.heap.size W0 (W0.drewN n) := below_drewN_any _ _ _
  have hA1 := hA.keep hb1
  have hC1 := hC.keep hb1
  have hP1 := (h3.below hB).below hb1
  have hP2 := (h4.below hB).below hb1
  have HB1 : Hid (Below w.heap.size w (W0.drewN n)) := hB.trans (hb1.mono hB.size)
  clear hA hC hB hb1 h1 h2 h3 h4
  generalize W0.drewN n = W1 at *
  have x1 := hA1.at 1 rfl
  have y1 := hC1.at 1 rfl
  cases hq : eqSts l m
  · go_wp2
    go_ret
    exact ⟨ret_bool (by rw [HS.out, hq]; rfl), HB1.out⟩
  · go_wp2_with fail
    refine (equal_pls W1 p p' d d' t u ht hP1 hP2).mono ?_
    rintro e w2 ⟨rfl, n2, rfl⟩
    have HB2 : Hid (Below w.heap.size w (W1.drewN n2)) := HB1.out.trans (below_drewN_any _ _ _)
    generalize W1.drewN n2 = W2 at *
    go_wp2
    go_ret
    exact ⟨ret_bool (by rw [HS.out, hq]; rfl), HB2.out⟩

set_option maxHeartbeats 400000 in
theorem rank_any (w : World) (o : Mv) (h : Orangery.checkOp o = 0) :
    Calls Try.prog 68 #[.agg #[.int .i64 o.1, .int .i64 o.2.1]] w fun e w' => e = .returned (.int .i64 (rk o)) ∧ Below w.heap.size w w' := by
  have h1 := Orangery.checkOp_zero h
  simp only [Orangery.opOkB, decide_eq_true_eq] at h1
  obtain ⟨a1, a2, a3, a4, _⟩ := h1
  clear h
  go_enter Try.func68, Try.ntmps68
  go_wp2
  go_ret
  exact ⟨rfl, Go.Joins.below_alloc1 w _⟩
end Go.Proofs.Ytphameoibnimmaa
