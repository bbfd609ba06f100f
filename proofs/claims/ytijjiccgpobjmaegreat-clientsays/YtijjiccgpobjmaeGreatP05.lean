/- 8 texts of the proof: tree's small functions: inRange, isNode, and the closures that Check and Under hand to meets. tree.meets: from one parent to the next one, until one is what is sought. tree.Check: the first thing that keeps places from being a tree. slices.IndexFunc at places; orangeryref.FindIn; slices.Contains at ints; orangeryref.CheckPlace. move's small functions: within, Check, target, the closures; orangeryr -/
import Derived.Test.YtijjiccgpobjmaeGreatP04
import Derived.Test.YtijjiccgpobjmaeGreatP02
/- tree's small functions: inRange, isNode, and the closures that Check and Under hand to meets. -/
namespace Go.Proofs.YtijjiccgpobjmaeGreat
open Go.ChangeShapes Go.WideShapes Go.ChangeAt Go.RowKit
open Orangery (Pl find isNodeB inRangeB meetsN)

set_option maxHeartbeats 400000 in
theorem isNode_any (w : World) (n : Int) :
    Calls Tryz.prog 55 #[.int .i64 n] w fun e w' => e = .returned (.bool (isNodeB n)) ∧ w' = w := by
  by_cases h1 : 0 ≤ n
  all_goals by_cases h2 : n ≤ 16
  all_goals
    go_enter Tryz.func55, Tryz.ntmps55
    go_wp2
    go_ret
    exact ⟨ret_bool (by simp [isNodeB]; try omega), rfl⟩

set_option maxHeartbeats 400000 in
theorem inRange_any (w : World) (p : Pl) :
    Calls Tryz.prog 52 #[plV p] w fun e w' => e = .returned (.bool (inRangeB p)) ∧ Below w.heap.size w w' := by
  obtain ⟨a, b, c⟩ := p
  go_enter Tryz.func52, Tryz.ntmps52
  go_wp2
  all_goals
    go_ret
    exact ⟨ret_bool (by simp [inRangeB]; first | omega | simp [*]), Go.Joins.below_alloc1 w _⟩

theorem check1_any (w : World) (n m : Int) (b : Nat) (hc : w.cell? ⟨b, 0, none⟩ = some (.int .i64 m)) :
    Calls Tryz.prog 54 #[.int .i64 n, .pointer (some ⟨b, 0, none⟩)] w fun e w' => e = .returned (.bool (n == m)) ∧ w' = w := by
  go_enter Tryz.func54, Tryz.ntmps54
  go_wp2
  go_ret
  exact ⟨rfl, rfl⟩

theorem under1_any (w : World) (n m : Int) (b : Nat) (hc : w.cell? ⟨b, 0, none⟩ = some (.int .i64 m)) :
    Calls Tryz.prog 56 #[.int .i64 n, .pointer (some ⟨b, 0, none⟩)] w fun e w' => e = .returned (.bool (n == m)) ∧ w' = w := by
  go_enter Tryz.func56, Tryz.ntmps56
  go_wp2
  go_ret
  exact ⟨rfl, rfl⟩
end Go.Proofs.YtijjiccgpobjmaeGreat

/- tree.meets: from one parent to the next one, until one is what is sought. -/
namespace Go.Proofs.YtijjiccgpobjmaeGreat
open Go.ChangeShapes Go.WideShapes Go.ChangeAt Go.RowKit
open Orangery (Pl find isNodeB inRangeB meetsN)

set_option maxHeartbeats 1000000 in
theorem meets_any (w : World) (a : Option Addr) (c : Nat) (l : List Pl) (n : Int) (g : Nat) (v : Value) (f : Int → Bool) (hl : l.length ≤ maxLen) (h : SlP w a l)
    (eg : ∀ args w, (callFunc g args).run Tryz.prog w = .ok (.enter g args) w)
    (hg : ∀ W m, Below w.heap.size w W → Calls Tryz.prog g #[.int .i64 m, v] W fun e w' => e = .returned (.bool (f m)) ∧ w' = W) :
    Calls Tryz.prog 53 #[.agg #[.slice a l.length c], .int .i64 n, .func (.func g) #[] #[v]] w
      fun e w' => e = .returned (.bool (meetsN l f l.length n)) ∧ Below w.heap.size w w' := by
  have hl' : l.length ≤ 9223372036854775807 := hl
  go_enter Tryz.func53, Tryz.ntmps53
  go_wp2
  have hB := Go.Joins.below_alloc1 w (Obj.cells #[Value.slice a l.length c] 37)
  generalize hW : w.alloc (Obj.cells #[Value.slice a l.length c] 37) = W0 at hB
  have hS : W0.heap.size = w.heap.size + 1 := by subst hW; simp
  have hc : W0.cell? ⟨w.heap.size, 0, none⟩ = some (.slice a l.length c) := by subst hW; simp
  clear hW
  have hP := h.below hB
  clear h
  go_loopw [1, 11] (fun x i W => ∃ (k : Nat) (m : Int), k ≤ l.length ∧ x = .int .i64 m ∧ i = .int .i64 k ∧ meetsN l f (l.length - k) m = meetsN l f l.length n ∧ Below W0.heap.size W0 W) (fun _ i _ => l.length - (intOf i).toNat)
  case atStart => exact ⟨0, n, Nat.zero_le _, rfl, rfl, rfl, Below.refl _ _⟩
  case round =>
    obtain ⟨k, m, hk, rfl, rfl, hf, hb⟩ := hrel
    have hcr := hc
    rw [← hb.cell (by show w.heap.size < _; omega)] at hcr
    by_cases hlt : k < l.length
    · obtain ⟨s1, s2, s3⟩ := Orangery.meetsN_step l f k m hlt
      have hf' : Hid (meetsN l f (l.length - k) m = meetsN l f l.length n) := hf
      clear hf
      have H1 : Hid ((find l m).1 = 0 → meetsN l f (l.length - k) m = false) := s1
      have H2 : Hid ((find l m).1 ≠ 0 → f (find l m).2.1 = true → meetsN l f (l.length - k) m = true) := s2
      have H3 : Hid ((find l m).1 ≠ 0 → f (find l m).2.1 = false → meetsN l f (l.length - k) m = meetsN l f (l.length - (k + 1)) (find l m).2.1) := s3
      clear s1 s2 s3
      go_wp2_with fail
      refine (find_any wr a c l m hl (hP.below hb)).mono ?_
      rintro e w1 ⟨rfl, hb1⟩
      generalize hq : find l m = q at *
      obtain ⟨q0, q1, q2⟩ := q
      have HQ : Hid (find l m = (q0, q1, q2)) := hq
      clear hq
      simp only at H1 H2 H3 ⊢
      by_cases hz : q0 = 0
      · have e := H1.out hz
        have hz' : (q0 == 0) = true := by simpa using hz
        have HE : Hid (meetsN l f (l.length - k) m = false) := e
        clear hz e
        go_wp2
        go_ret
        exact ⟨ret_bool (by rw [← hf'.out, HE.out]), (hB.trans ((hb.trans (hb1.mono hb.size)).mono (by omega))).alloc (by have := hb.size; have := hb1.size; omega) _⟩
      · have hz' : (q0 == 0) = false := by simpa using hz
        have HZ : Hid (q0 ≠ 0) := hz
        clear hz
        have hbb : Below w.heap.size w w1 := hB.trans ((hb.trans (hb1.mono hb.size)).mono (by omega))
        have hb2 : Below w.heap.size w (w1.alloc (Obj.cells #[Value.int IntKind.i64 q0, Value.int IntKind.i64 q1, Value.int IntKind.i64 q2] 47)) := hbb.alloc (by have := hb.size; have := hb1.size; omega) _
        go_wp2_with fail
        refine (hg _ q1 hb2).mono ?_
        rintro e w2 ⟨rfl, rfl⟩
        cases hfq : f q1
        · have e := H3.out HZ.out hfq
          have HE : Hid (meetsN l f (l.length - k) m = meetsN l f (l.length - (k + 1)) q1) := e
          clear e
          go_wp2
          go_roundw
          case rel => exact ⟨k + 1, q1, hlt, rfl, by go_num, by rw [← HE.out, hf'.out], (hb.trans (hb1.mono hb.size)).alloc (by have := hb.size; have := hb1.size; omega) _⟩
          case measure => simp [intOf]; omega
        · have e := H2.out HZ.out hfq
          have HE : Hid (meetsN l f (l.length - k) m = true) := e
          clear e
          go_wp2
          go_ret
          exact ⟨ret_bool (by rw [← hf'.out, HE.out]), hb2⟩
    · have hk' : l.length - k = 0 := by omega
      rw [hk'] at hf
      have HF : Hid (meetsN l f 0 m = meetsN l f l.length n) := hf
      clear hf hk'
      go_wp2
      go_ret
      exact ⟨ret_bool (by rw [← HF.out]; rfl), hB.trans (hb.mono (by omega))⟩
end Go.Proofs.YtijjiccgpobjmaeGreat

/- tree.Check: the first thing that keeps places from being a tree. -/
namespace Go.Proofs.YtijjiccgpobjmaeGreat
open Go.ChangeShapes Go.WideShapes Go.ChangeAt Go.RowKit
open Orangery (Pl find isNodeB inRangeB meetsN scan ringAt check)

set_option maxHeartbeats 2000000 in
theorem check_any (w : World) (a : Option Addr) (c : Nat) (l : List Pl) (hl : l.length ≤ maxLen) (h : SlP w a l) :
    Calls Tryz.prog 23 #[.agg #[.slice a l.length c]] w
      fun e w' => e = .returned (.int .i64 (check l)) ∧ Below w.heap.size w w' := by
  have hl' : l.length ≤ 9223372036854775807 := hl
  go_enter Tryz.func23, Tryz.ntmps23
  go_wp2
  have hB := Go.Joins.below_alloc1 w (Obj.cells #[Value.slice a l.length c] 37)
  generalize hW : w.alloc (Obj.cells #[Value.slice a l.length c] 37) = W0 at hB
  have hS : W0.heap.size = w.heap.size + 1 := by subst hW; simp
  have hc : W0.cell? ⟨w.heap.size, 0, none⟩ = some (.slice a l.length c) := by subst hW; simp
  clear hW
  have hP := h.below hB
  clear h
  go_loopw [3, 11] (fun x i W => ∃ (k : Nat) (m : Int), k ≤ l.length ∧ x = .int .i64 m ∧ i = .int .i64 k ∧ scan m (l.drop k) = scan 0 l ∧ Below W0.heap.size W0 W) (fun _ i _ => l.length - (intOf i).toNat)
  case atStart => exact ⟨0, 0, Nat.zero_le _, rfl, rfl, rfl, Below.refl _ _⟩
  case round =>
    obtain ⟨k, m, hk, rfl, rfl, hf, hb⟩ := hrel
    by_cases hlt : k < l.length
    · obtain ⟨s1, s2, s3⟩ := Orangery.scan_step l k m hlt hf
      have H1 : Hid (inRangeB l[k] = false → scan 0 l = 3) := s1
      have H2 : Hid (inRangeB l[k] = true → l[k].1 ≤ m → scan 0 l = 6) := s2
      have H3 : Hid (inRangeB l[k] = true → ¬ l[k].1 ≤ m → scan l[k].1 (l.drop (k + 1)) = scan 0 l) := s3
      clear s1 s2 s3 hf
      rcases hP with hP | ⟨b, off, rfl, hbl, hp⟩
      · exact absurd hlt (by simp [hP])
      have g := hp k hlt
      rw [← hb.cell hbl, ← hb.cell hbl, ← hb.cell hbl] at g
      obtain ⟨g0, g1, g2⟩ := g
      generalize hq : l[k] = q at *
      obtain ⟨q0, q1, q2⟩ := q
      have HQ : Hid (l[k] = (q0, q1, q2)) := hq
      clear hq
      simp only at H1 H2 H3 g0 g1 g2
      go_wp2_with fail
      refine (inRange_any _ (q0, q1, q2)).mono ?_
      rintro e w1 ⟨rfl, hb1⟩
      have hz1 := hb1.size
      have hb2 : Below W0.heap.size W0 w1 := (hb.alloc hb.size _).trans (hb1.mono (by simp; exact Nat.le_succ_of_le hb.size))
      have x0 : w1.cell? ⟨wr.heap.size, 0, none⟩ = some (.int .i64 q0) := by rw [hb1.cell (by simp)]; simp
      clear hb1
      cases hr : inRangeB (q0, q1, q2)
      · have e := H1.out hr
        go_wp2
        go_ret
        exact ⟨ret_int (by rw [Orangery.check_of_scan _ (by rw [e]; decide), e]), hB.trans (hb2.mono (by omega))⟩
      · by_cases hle : q0 ≤ m
        · have e := H2.out hr hle
          have HE : Hid (scan 0 l = 6) := e
          clear e
          go_wp2
          go_ret
          exact ⟨ret_int (by rw [Orangery.check_of_scan _ (by rw [HE.out]; decide), HE.out]), hB.trans (hb2.mono (by omega))⟩
        · have e := H3.out hr (by omega)
          have HE : Hid (scan q0 (l.drop (k + 1)) = scan 0 l) := e
          clear e
          go_wp2
          go_roundw
          case rel => exact ⟨k + 1, q0, hlt, rfl, by go_num, HE.out, hb2⟩
          case measure => simp [intOf]; omega
    · have hk' : l.drop k = [] := by simp; omega
      rw [hk'] at hf
      have HF : Hid (scan 0 l = 0) := hf.symm
      clear hf hk'
      have hcr := hc
      rw [← hb.cell (by show w.heap.size < _; omega)] at hcr
      have hP2 := hP.below hb
      have hB2 : Below w.heap.size w wr := hB.trans (hb.mono (by omega))
      have hS2 : w.heap.size < wr.heap.size := by have := hb.size; omega
      clear hP hB hc
      rename World => W1
      go_wp2
      go_loopw [28] (fun i W => ∃ k : Nat, k ≤ l.length ∧ i = .int .i64 k ∧ (∀ j, (hj : j < l.length) → j < k → ringAt l l[j] = false) ∧ Below W1.heap.size W1 W) (fun i _ => l.length - (intOf i).toNat)
      case atStart => exact ⟨0, Nat.zero_le _, rfl, fun j _ hj => absurd hj (Nat.not_lt_zero _), Below.refl _ _⟩
      case round =>
        obtain ⟨k2, hk2, rfl, hno, hb⟩ := hrel
        have HNO : Hid (∀ j, (hj : j < l.length) → j < k2 → ringAt l l[j] = false) := hno
        clear hno
        have hcr2 := hcr
        rw [← hb.cell (by exact hS2)] at hcr2
        have hS3 : w.heap.size < wr.heap.size := Nat.lt_of_lt_of_le hS2 hb.size
        by_cases hlt2 : k2 < l.length
        · have hP3 := hP2.below hb
          rcases hP2 with hP2 | ⟨b, off, rfl, hbl, hp⟩
          · exact absurd hlt2 (by simp [hP2])
          have g := hp k2 hlt2
          rw [← hb.cell hbl, ← hb.cell hbl, ← hb.cell hbl] at g
          obtain ⟨g0, g1, g2⟩ := g
          have HR : Hid (ringAt l l[k2] = meetsN l (fun m => m == l[k2].1) l.length l[k2].1) := rfl
          generalize hq : l[k2] = q at *
          obtain ⟨q0, q1, q2⟩ := q
          have HQ : Hid (l[k2] = (q0, q1, q2)) := hq
          clear hq
          simp only at HR g0 g1 g2
          go_wp2_with fail
          have hb1 := Go.Joins.below_alloc1 wr (Obj.cells #[Value.int IntKind.i64 q0, Value.int IntKind.i64 q1, Value.int IntKind.i64 q2] 47)
          have x0 : (wr.alloc (Obj.cells #[Value.int IntKind.i64 q0, Value.int IntKind.i64 q1, Value.int IntKind.i64 q2] 47)).cell? ⟨wr.heap.size, 0, none⟩ = some (.int .i64 q0) := by simp
          have x1 : wr.heap.size < (wr.alloc (Obj.cells #[Value.int IntKind.i64 q0, Value.int IntKind.i64 q1, Value.int IntKind.i64 q2] 47)).heap.size := by simp
          refine (meets_any _ _ c l q0 54 (.pointer (some ⟨wr.heap.size, 0, none⟩)) (fun m => m == q0) hl (hP3.below hb1) (Go.Proofs.enters_of Tryz.func54 (by kernel_rfl) rfl) ?_).mono ?_
          · intro W m hbW
            exact check1_any W m q0 wr.heap.size (by rw [hbW.cell x1, x0])
          rintro e w1 ⟨rfl, hbm⟩
          have hb4 : Below W1.heap.size W1 w1 := (hb.trans (hb1.mono hb.size)).trans (hbm.mono (by simp; exact Nat.le_succ_of_le hb.size))
          rw [← HR.out]
          clear hb1 x0 x1 hbm g0 g1 g2 hcr hcr2
          cases hr : ringAt l (q0, q1, q2)
          · go_wp2
            go_roundw
            case rel =>
              refine ⟨k2 + 1, hlt2, by go_num, fun j hj hjk => ?_, hb4⟩
              by_cases hjk' : j < k2
              · exact HNO.out j hj hjk'
              · have : j = k2 := by omega
                subst this
                rw [HQ.out]
                exact hr
            case measure => simp [intOf]; omega
          · go_wp2
            go_ret
            exact ⟨ret_int (by rw [Orangery.check_of_ring l HF.out k2 hlt2 (by rw [HQ.out]; exact hr)]), hB2.trans (hb4.mono (by omega))⟩
        · go_wp2
          go_ret
          exact ⟨ret_int (by rw [Orangery.check_of_none l HF.out (fun i hi => HNO.out i hi (by omega))]), hB2.trans (hb.mono (by omega))⟩
end Go.Proofs.YtijjiccgpobjmaeGreat

/- slices.IndexFunc at places; orangeryref.FindIn; slices.Contains at ints; orangeryref.CheckPlace. -/
namespace Go.Proofs.YtijjiccgpobjmaeGreat
open Go.ChangeShapes Go.WideShapes Go.ChangeAt Go.RowKit
open Orangery (Pl find isNodeB inRangeB meetsN scan ringAt check idxF)

set_option maxHeartbeats 1000000 in
theorem indexFunc_any (w : World) (a : Option Addr) (c : Nat) (l : List Pl) (g : Nat) (v : Value) (f : Pl → Bool) (hl : l.length ≤ maxLen) (h : SlP w a l)
    (eg : ∀ args w, (callFunc g args).run Tryz.prog w = .ok (.enter g args) w)
    (hg : ∀ W p, Below w.heap.size w W → Calls Tryz.prog g #[plV p, v] W fun e w' => e = .returned (.bool (f p)) ∧ Below W.heap.size W w') :
    Calls Tryz.prog 91 #[.slice a l.length c, .func (.func g) #[] #[v]] w
      fun e w' => e = .returned (.int .i64 (idxF f 0 l)) ∧ Below w.heap.size w w' := by
  have hl' : l.length ≤ 9223372036854775807 := hl
  go_enter Tryz.func91, Tryz.ntmps91
  go_wp2
  go_loopw [8] (fun i W => ∃ k : Nat, k ≤ l.length ∧ i = .int .i64 k ∧ idxF f k (l.drop k) = idxF f 0 l ∧ Below w.heap.size w W) (fun i _ => l.length - (intOf i).toNat)
  case atStart => exact ⟨0, Nat.zero_le _, rfl, rfl, Below.refl _ _⟩
  case round =>
    obtain ⟨k, hk, rfl, hf, hb⟩ := hrel
    by_cases hlt : k < l.length
    · obtain ⟨s1, s2⟩ := Orangery.idxF_step f l k hlt hf
      have H1 : Hid (f l[k] = true → idxF f 0 l = k) := s1
      have H2 : Hid (f l[k] = false → idxF f (k + 1) (l.drop (k + 1)) = idxF f 0 l) := s2
      clear s1 s2 hf
      rcases h with h | ⟨b, off, rfl, hbl, hp⟩
      · exact absurd hlt (by simp [h])
      have g := hp k hlt
      rw [← hb.cell hbl, ← hb.cell hbl, ← hb.cell hbl] at g
      obtain ⟨g0, g1, g2⟩ := g
      go_wp2_with fail
      refine (hg wr l[k] hb).mono ?_
      rintro e w1 ⟨rfl, hb1⟩
      have hb2 : Below w.heap.size w w1 := hb.trans (hb1.mono hb.size)
      cases hr : f l[k]
      · have e := H2.out hr
        have HE : Hid (idxF f (k + 1) (l.drop (k + 1)) = idxF f 0 l) := e
        clear e
        go_wp2
        go_roundw
        case rel => exact ⟨k + 1, hlt, by go_num, HE.out, hb2⟩
        case measure => simp [intOf]; omega
      · have e := H1.out hr
        have HE : Hid (idxF f 0 l = k) := e
        clear e
        go_wp2
        go_ret
        exact ⟨ret_int (by rw [HE.out]), hb2⟩
    · have hk' : l.drop k = [] := by simp; omega
      rw [hk'] at hf
      have HF : Hid (idxF f 0 l = -1) := hf.symm
      clear hf hk'
      go_wp2
      go_ret
      exact ⟨ret_int (by rw [HF.out]), hb⟩

theorem findIn1_any (w : World) (p : Pl) (n : Int) (b : Nat) (hb : b < w.heap.size) (hc : w.cell? ⟨b, 0, none⟩ = some (.int .i64 n)) :
    Calls Tryz.prog 92 #[plV p, .pointer (some ⟨b, 0, none⟩)] w fun e w' => e = .returned (.bool (p.1 == n)) ∧ Below w.heap.size w w' := by
  go_enter Tryz.func92, Tryz.ntmps92
  go_wp2
  go_ret
  exact ⟨rfl, Go.Joins.below_alloc1 w _⟩

set_option maxHeartbeats 1000000 in
theorem findIn_any (w : World) (a : Option Addr) (c : Nat) (l : List Pl) (n : Int) (hl : l.length ≤ maxLen) (h : SlP w a l) :
    Calls Tryz.prog 70 #[.slice a l.length c, .int .i64 n] w
      fun e w' => e = .returned (plV (find l n)) ∧ Below w.heap.size w w' := by
  have hl' : l.length ≤ 9223372036854775807 := hl
  go_enter Tryz.func70, Tryz.ntmps70
  go_wp2_with fail
  have hB := Go.Joins.below_alloc2 w (Obj.cells #[Value.int IntKind.i64 n] 3) (Obj.cells #[Value.int IntKind.i64 0, Value.int IntKind.i64 0, Value.int IntKind.i64 0] 47)
  generalize hW : (w.alloc (Obj.cells #[Value.int IntKind.i64 n] 3)).alloc (Obj.cells #[Value.int IntKind.i64 0, Value.int IntKind.i64 0, Value.int IntKind.i64 0] 47) = W0 at hB
  have hS : W0.heap.size = w.heap.size + 2 := by subst hW; simp
  have hn : W0.cell? ⟨w.heap.size, 0, none⟩ = some (.int .i64 n) := by subst hW; rw [(Go.Joins.below_alloc1 _ _).cell (by simp)]; simp
  have hfr : ∀ j, W0.frozen? ⟨w.heap.size + 1, j, none⟩ = false := by intro j; subst hW; simp
  have hc : W0.cell? ⟨w.heap.size + 1, 0, none⟩ = some (.int .i64 0) ∧ W0.cell? ⟨w.heap.size + 1, 1, none⟩ = some (.int .i64 0) ∧ W0.cell? ⟨w.heap.size + 1, 2, none⟩ = some (.int .i64 0) := by subst hW; simp
  have hP := h.below hB
  clear hW h
  refine (indexFunc_any W0 a c l 92 (.pointer (some ⟨w.heap.size, 0, none⟩)) (fun p => p.1 == n) hl hP (Go.Proofs.enters_of Tryz.func92 (by kernel_rfl) rfl) ?_).mono ?_
  · intro W p hb
    exact findIn1_any W p n w.heap.size (by have := hb.size; omega) (by rw [hb.cell (by show w.heap.size < _; omega), hn])
  rintro e w1 ⟨rfl, hb⟩
  have hf0 : ∀ j, w1.frozen? ⟨w.heap.size + 1, j, none⟩ = false := by intro j; rw [hb.frozen (by show w.heap.size + 1 < _; omega)]; exact hfr j
  obtain ⟨c0, c1, c2⟩ := hc
  rw [← hb.cell (by show w.heap.size + 1 < _; omega)] at c0 c1 c2
  have hbw : Below w.heap.size w w1 := hB.trans (hb.mono (by omega))
  have hP2 := hP.below hb
  clear hfr hB hb hn hP
  rcases Orangery.idxF_spec n l 0 with ⟨h1, h2⟩ | ⟨i, hi, h1, h2⟩
  · rw [h1]
    have HE : Hid (find l n = (0, 0, 0)) := h2
    clear h1 h2
    go_wp2
    obtain ⟨d0, d1, d2⟩ := cells3 (.int .i64 0) (.int .i64 0) (.int .i64 0) c0 c1 c2
    refine bodyPost_ret (v := plV (0, 0, 0)) (by simp [results, Tryz.results70, go_sem, d0, d1, d2]) rfl ⟨by rw [HE.out], ?_⟩
    exact (((hbw.setCell (by simp) _).setCell (by simp) _).setCell (by simp) _)
  · rw [h1, Nat.zero_add]
    have HE : Hid (find l n = l[i]) := h2
    clear h1 h2
    rcases hP2 with hP2 | ⟨b, off, rfl, hbl, hp⟩
    · exact absurd hi (by simp [hP2])
    obtain ⟨g0, g1, g2⟩ := hp i hi
    go_wp2
    obtain ⟨d0, d1, d2⟩ := cells3 (.int .i64 l[i].1) (.int .i64 l[i].2.1) (.int .i64 l[i].2.2) c0 c1 c2
    refine bodyPost_ret (v := plV l[i]) (by simp [results, Tryz.results70, go_sem, d0, d1, d2]) rfl ⟨by rw [HE.out], ?_⟩
    exact (((hbw.setCell (by simp) _).setCell (by simp) _).setCell (by simp) _)

def cpE (p : Pl) : Int := if inRangeB p = true then 0 else 3

set_option maxHeartbeats 400000 in
theorem checkPlace_any (w : World) (p : Pl) :
    Calls Tryz.prog 67 #[plV p] w fun e w' => e = .returned (.int .i64 (cpE p)) ∧ Below w.heap.size w w' := by
  obtain ⟨a, b, c⟩ := p
  cases hr : inRangeB (a, b, c)
  · have e : cpE (a, b, c) = 3 := by simp [cpE, hr]
    have hn : ¬ (1 ≤ a ∧ a < 16 ∧ 0 ≤ b ∧ b ≤ 16 ∧ 0 ≤ c ∧ c ≤ 99) := by simpa [inRangeB] using hr
    have HE : Hid (cpE (a, b, c) = 3) := e
    clear e hr
    by_cases h1 : 1 ≤ a ∧ a ≤ 15
    · obtain ⟨h1, h2⟩ := h1
      by_cases h3 : 0 ≤ b ∧ b ≤ 16
      · obtain ⟨h3, h4⟩ := h3
        by_cases h5 : 0 ≤ c
        · have h6 : ¬ c ≤ 99 := by omega
          go_enter Tryz.func67, Tryz.ntmps67
          go_wp2
          go_ret
          exact ⟨ret_int (by rw [HE.out]), Go.Joins.below_alloc1 w _⟩
        · go_enter Tryz.func67, Tryz.ntmps67
          go_wp2
          go_ret
          exact ⟨ret_int (by rw [HE.out]), Go.Joins.below_alloc1 w _⟩
      · by_cases h5 : 0 ≤ b
        · have h6 : ¬ b ≤ 16 := by omega
          go_enter Tryz.func67, Tryz.ntmps67
          go_wp2
          go_ret
          exact ⟨ret_int (by rw [HE.out]), Go.Joins.below_alloc1 w _⟩
        · go_enter Tryz.func67, Tryz.ntmps67
          go_wp2
          go_ret
          exact ⟨ret_int (by rw [HE.out]), Go.Joins.below_alloc1 w _⟩
    · by_cases h5 : 1 ≤ a
      · have h6 : ¬ a ≤ 15 := by omega
        go_enter Tryz.func67, Tryz.ntmps67
        go_wp2
        go_ret
        exact ⟨ret_int (by rw [HE.out]), Go.Joins.below_alloc1 w _⟩
      · go_enter Tryz.func67, Tryz.ntmps67
        go_wp2
        go_ret
        exact ⟨ret_int (by rw [HE.out]), Go.Joins.below_alloc1 w _⟩
  · have e : cpE (a, b, c) = 0 := by simp [cpE, hr]
    have hn : 1 ≤ a ∧ a < 16 ∧ 0 ≤ b ∧ b ≤ 16 ∧ 0 ≤ c ∧ c ≤ 99 := by simpa [inRangeB] using hr
    obtain ⟨h1, h2, h3, h4, h5, h6⟩ := hn
    have HE : Hid (cpE (a, b, c) = 0) := e
    clear e hr
    go_enter Tryz.func67, Tryz.ntmps67
    go_wp2
    go_ret
    exact ⟨ret_int (by rw [HE.out]), Go.Joins.below_alloc1 w _⟩
end Go.Proofs.YtijjiccgpobjmaeGreat

/- move's small functions: within, Check, target, the closures; orangeryref.CheckOp. -/
namespace Go.Proofs.YtijjiccgpobjmaeGreat
open Go.ChangeShapes Go.WideShapes Go.ChangeAt Go.RowKit
open Orangery (Pl Mv Stp opOkB checkOp orI cmpI inRangeB)

/-- the value of an operation -/
abbrev opV (o : Mv) : Value := .agg #[.int .i64 o.1, .int .i64 o.2.1, .int .i64 o.2.2.1.1, .int .i64 o.2.2.1.2.1, .int .i64 o.2.2.1.2.2, .int .i64 o.2.2.2.1, .int .i64 o.2.2.2.2]
/-- the value of a step -/
abbrev stV (s : Stp) : Value := .agg #[.int .i64 s.1.1, .int .i64 s.1.2.1, .int .i64 s.1.2.2.1.1, .int .i64 s.1.2.2.1.2.1, .int .i64 s.1.2.2.1.2.2, .int .i64 s.1.2.2.2.1, .int .i64 s.1.2.2.2.2, .bool s.2.1, .int .i64 s.2.2.1, .int .i64 s.2.2.2.1, .int .i64 s.2.2.2.2]

/-- the cells of an operation, of a step -/
def opC (o : Mv) : List Value := [.int .i64 o.1, .int .i64 o.2.1, .int .i64 o.2.2.1.1, .int .i64 o.2.2.1.2.1, .int .i64 o.2.2.1.2.2, .int .i64 o.2.2.2.1, .int .i64 o.2.2.2.2]
def stC (s : Stp) : List Value := [.int .i64 s.1.1, .int .i64 s.1.2.1, .int .i64 s.1.2.2.1.1, .int .i64 s.1.2.2.1.2.1, .int .i64 s.1.2.2.1.2.2, .int .i64 s.1.2.2.2.1, .int .i64 s.1.2.2.2.2, .bool s.2.1, .int .i64 s.2.2.1, .int .i64 s.2.2.2.1, .int .i64 s.2.2.2.2]
theorem stC_len (s : Stp) : (stC s).length = 11 := rfl
theorem stC_one (s : Stp) : ∀ v ∈ stC s, v.oneCell' = true := by
  intro v hv
  simp [stC] at hv
  rcases hv with rfl | rfl | rfl | rfl | rfl | rfl | rfl | rfl | rfl | rfl | rfl <;> rfl

def inB (n a b : Int) : Bool := decide (a ≤ n ∧ n ≤ b)

set_option maxHeartbeats 400000 in
theorem within_any (w : World) (n a b : Int) :
    Calls Tryz.prog 57 #[.int .i64 n, .int .i64 a, .int .i64 b] w fun e w' => e = .returned (.bool (inB n a b)) ∧ w' = w := by
  by_cases h1 : a ≤ n
  all_goals by_cases h2 : n ≤ b
  all_goals
    go_enter Tryz.func57, Tryz.ntmps57
    go_wp2
    go_ret
    exact ⟨ret_bool (by simp [inB]; try omega), rfl⟩

theorem checkOp_in (o : Mv) : opOkB o = (inB o.1 1 10000 && inB o.2.1 0 2 && inB o.2.2.1.1 1 15 && inB o.2.2.1.2.1 0 16 && inB o.2.2.1.2.2 0 99 && inB o.2.2.2.1 1 50 && inB o.2.2.2.2 1 30) := by
  rw [Bool.eq_iff_iff]
  simp [opOkB, inB]
  omega

set_option maxHeartbeats 2000000 in
theorem moveCheck_any (w : World) (o : Mv) :
    Calls Tryz.prog 28 #[opV o] w fun e w' => e = .returned (.int .i64 (checkOp o)) ∧ Below w.heap.size w w' := by
  have hk := checkOp_in o
  obtain ⟨o1, o2, ⟨o3, o4, o5⟩, o6, o7⟩ := o
  have HE : Hid (checkOp (o1, o2, (o3, o4, o5), o6, o7) = if opOkB (o1, o2, (o3, o4, o5), o6, o7) = true then 0 else 3) := rfl
  have HK : Hid (opOkB (o1, o2, (o3, o4, o5), o6, o7) = (inB o1 1 10000 && inB o2 0 2 && inB o3 1 15 && inB o4 0 16 && inB o5 0 99 && inB o6 1 50 && inB o7 1 30)) := hk
  clear hk
  go_enter Tryz.func28, Tryz.ntmps28
  go_wp2_with fail
  refine (within_any _ o1 _ _).mono ?_
  rintro e w1 ⟨rfl, rfl⟩
  cases h1 : inB o1 1 10000
  · go_wp2
    go_ret
    exact ⟨ret_int (by rw [HE.out, HK.out]; simp [h1]), Go.Joins.below_alloc1 w _⟩
  go_wp2_with fail
  refine (within_any _ o2 _ _).mono ?_
  rintro e w1 ⟨rfl, rfl⟩
  cases h2 : inB o2 0 2
  · go_wp2
    go_ret
    exact ⟨ret_int (by rw [HE.out, HK.out]; simp [h2]), Go.Joins.below_alloc1 w _⟩
  go_wp2_with fail
  refine (within_any _ o3 _ _).mono ?_
  rintro e w1 ⟨rfl, rfl⟩
  cases h3 : inB o3 1 15
  · go_wp2
    go_ret
    exact ⟨ret_int (by rw [HE.out, HK.out]; simp [h3]), Go.Joins.below_alloc1 w _⟩
  go_wp2_with fail
  refine (within_any _ o4 _ _).mono ?_
  rintro e w1 ⟨rfl, rfl⟩
  cases h4 : inB o4 0 16
  · go_wp2
    go_ret
    exact ⟨ret_int (by rw [HE.out, HK.out]; simp [h4]), Go.Joins.below_alloc1 w _⟩
  go_wp2_with fail
  refine (within_any _ o5 _ _).mono ?_
  rintro e w1 ⟨rfl, rfl⟩
  cases h5 : inB o5 0 99
  · go_wp2
    go_ret
    exact ⟨ret_int (by rw [HE.out, HK.out]; simp [h5]), Go.Joins.below_alloc1 w _⟩
  go_wp2_with fail
  refine (within_any _ o6 _ _).mono ?_
  rintro e w1 ⟨rfl, rfl⟩
  cases h6 : inB o6 1 50
  · go_wp2
    go_ret
    exact ⟨ret_int (by rw [HE.out, HK.out]; simp [h6]), Go.Joins.below_alloc1 w _⟩
  go_wp2_with fail
  refine (within_any _ o7 _ _).mono ?_
  rintro e w1 ⟨rfl, rfl⟩
  cases h7 : inB o7 1 30
  · go_wp2
    go_ret
    exact ⟨ret_int (by rw [HE.out, HK.out]; simp [h7]), Go.Joins.below_alloc1 w _⟩
  go_wp2
  go_ret
  exact ⟨ret_int (by rw [HE.out, HK.out]; simp [h1, h2, h3, h4, h5, h6, h7]), Go.Joins.below_alloc1 w _⟩

theorem without1_any (w : World) (p : Pl) (n : Int) (b : Nat) (hb : b < w.heap.size) (hc : w.cell? ⟨b, 0, none⟩ = some (.int .i64 n)) :
    Calls Tryz.prog 124 #[plV p, .pointer (some ⟨b, 0, none⟩)] w fun e w' => e = .returned (.bool (p.1 == n)) ∧ Below w.heap.size w w' := by
  go_enter Tryz.func124, Tryz.ntmps124
  have hne : ¬ w.heap.size = b := by omega
  go_wp2
  go_ret
  exact ⟨rfl, Go.Joins.below_alloc1 w _⟩

set_option maxHeartbeats 400000 in
theorem target_any (w : World) (o : Mv) :
    Calls Tryz.prog 66 #[opV o] w fun e w' => e = .returned (plV o.2.2.1) ∧ Below w.heap.size w w' := by
  obtain ⟨o1, o2, ⟨o3, o4, o5⟩, o6, o7⟩ := o
  go_enter Tryz.func66, Tryz.ntmps66
  go_wp2
  refine bodyPost_ret (v := plV (o3, o4, o5)) (by simp [results, Tryz.results66, go_sem]) rfl ⟨rfl, Go.Joins.below_alloc2 w _ _⟩

theorem ref_in (o : Mv) : opOkB o = (inB o.1 1 10000 && inB o.2.1 0 2 && inRangeB o.2.2.1 && inB o.2.2.2.1 1 50 && inB o.2.2.2.2 1 30) := by
  rw [Bool.eq_iff_iff]
  simp [opOkB, inB, inRangeB]
  omega

set_option maxHeartbeats 400000 in
theorem rin_any (w : World) (n a b : Int) :
    Calls Tryz.prog 36 #[.int .i64 n, .int .i64 a, .int .i64 b] w fun e w' => e = .returned (.bool (inB n a b)) ∧ w' = w := by
  by_cases h1 : a ≤ n
  all_goals by_cases h2 : n ≤ b
  all_goals
    go_enter Tryz.func36, Tryz.ntmps36
    go_wp2
    go_ret
    exact ⟨ret_bool (by simp [inB]; try omega), rfl⟩

set_option maxHeartbeats 2000000 in
theorem refCheckOp_any (w : World) (o : Mv) :
    Calls Tryz.prog 33 #[opV o] w fun e w' => e = .returned (.int .i64 (checkOp o)) ∧ Below w.heap.size w w' := by
  have hk := ref_in o
  obtain ⟨o1, o2, ⟨o3, o4, o5⟩, o6, o7⟩ := o
  have HE : Hid (checkOp (o1, o2, (o3, o4, o5), o6, o7) = if opOkB (o1, o2, (o3, o4, o5), o6, o7) = true then 0 else 3) := rfl
  have HK : Hid (opOkB (o1, o2, (o3, o4, o5), o6, o7) = (inB o1 1 10000 && inB o2 0 2 && inRangeB (o3, o4, o5) && inB o6 1 50 && inB o7 1 30)) := hk
  clear hk
  go_enter Tryz.func33, Tryz.ntmps33
  go_wp2_with fail
  refine (rin_any _ o1 _ _).mono ?_
  rintro e w1 ⟨rfl, rfl⟩
  cases h1 : inB o1 1 10000
  · go_wp2
    go_ret
    exact ⟨ret_int (by rw [HE.out, HK.out]; simp [h1]), Go.Joins.below_alloc1 w _⟩
  go_wp2_with fail
  refine (rin_any _ o2 _ _).mono ?_
  rintro e w1 ⟨rfl, rfl⟩
  cases h2 : inB o2 0 2
  · go_wp2
    go_ret
    exact ⟨ret_int (by rw [HE.out, HK.out]; simp [h2]), Go.Joins.below_alloc1 w _⟩
  go_wp2_with fail
  refine (checkPlace_any _ (o3, o4, o5)).mono ?_
  rintro e w1 ⟨rfl, hb⟩
  have hb1 : Below w.heap.size w w1 := (Go.Joins.below_alloc1 w _).trans (hb.mono (by simp))
  have c6 : w1.cell? ⟨w.heap.size, 5, none⟩ = some (.int .i64 o6) := by rw [hb.cell (by simp)]; simp
  have c7 : w1.cell? ⟨w.heap.size, 6, none⟩ = some (.int .i64 o7) := by rw [hb.cell (by simp)]; simp
  have HC : Hid (cpE (o3, o4, o5) = if inRangeB (o3, o4, o5) = true then 0 else 3) := rfl
  clear hb
  cases h3 : inRangeB (o3, o4, o5)
  · rw [show cpE (o3, o4, o5) = 3 by rw [HC.out, h3]; rfl]
    go_wp2
    go_ret
    exact ⟨ret_int (by rw [HE.out, HK.out]; simp [h3]), hb1⟩
  rw [show cpE (o3, o4, o5) = 0 by rw [HC.out, h3]; rfl]
  go_wp2_with fail
  refine (rin_any _ o6 _ _).mono ?_
  rintro e w2 ⟨rfl, rfl⟩
  cases h4 : inB o6 1 50
  · go_wp2
    go_ret
    exact ⟨ret_int (by rw [HE.out, HK.out]; simp [h4]), hb1⟩
  go_wp2_with fail
  refine (rin_any _ o7 _ _).mono ?_
  rintro e w2 ⟨rfl, rfl⟩
  cases h5 : inB o7 1 30
  · go_wp2
    go_ret
    exact ⟨ret_int (by rw [HE.out, HK.out]; simp [h5]), hb1⟩
  go_wp2
  go_ret
  exact ⟨ret_int (by rw [HE.out, HK.out]; simp [h1, h2, h3, h4, h5]), hb1⟩
end Go.Proofs.YtijjiccgpobjmaeGreat

/- Slices of whatever elements in memory of the call's own; operations and steps in their cells. -/
namespace Go.Proofs.YtijjiccgpobjmaeGreat
open Go.ChangeShapes Go.WideShapes Go.ChangeAt Go.RowKit
open Orangery (Pl Mv Stp)

/-- a slice of the call's own, of elements of k cells -/
def OwnE {α : Type} (enc : α → List Value) (k : Nat) (e : TypeId) (w : World) (base : Nat) (v : Value) (l : List α) : Prop :=
  w.ownsRow base e k v l.length (l.flatMap enc)

theorem OwnE.row {α : Type} {enc : α → List Value} {k : Nat} {e : TypeId} {w : World} {base : Nat} {v : Value} {l : List α} (h : OwnE enc k e w base v l) : w.ownsRow base e k v l.length (l.flatMap enc) := h

theorem OwnE.val {α : Type} {enc : α → List Value} {k : Nat} {e : TypeId} {w : World} {base : Nat} {v : Value} {l : List α} (h : OwnE enc k e w base v l) :
    ∃ a cap, v = .slice a l.length cap ∧ SlE enc w a l ∧ l.length ≤ cap := by
  obtain ⟨a, cap, e1, h1, _⟩ := own_slE h
  refine ⟨a, cap, e1, h1, ?_⟩
  rcases h.2 with ⟨e2, hn⟩ | ⟨g, cap', cur, e2, _, _, hn, _⟩
  · rw [e1] at e2
    obtain ⟨_, h2, h3⟩ : a = none ∧ l.length = 0 ∧ cap = 0 := by simpa using e2
    omega
  · rw [e1] at e2
    obtain ⟨_, rfl⟩ : a = _ ∧ cap = cap' := by simpa using e2
    exact hn

theorem OwnE.read {α : Type} {enc : α → List Value} {k : Nat} {e : TypeId} {w : World} {base n c : Nat} {a : Option Addr} {l : List α} (h : OwnE enc k e w base (.slice a n c) l) : SlE enc w a l := own_readE h

theorem OwnE.keep {α : Type} {enc : α → List Value} {k : Nat} {e : TypeId} {w w' : World} {base : Nat} {v : Value} {l : List α} (h : OwnE enc k e w base v l) (hb : Below w.heap.size w w') : OwnE enc k e w' base v l := own_below h hb
theorem OwnE.alloc {α : Type} {enc : α → List Value} {k : Nat} {e : TypeId} {w : World} {base : Nat} {v : Value} {l : List α} (h : OwnE enc k e w base v l) (o : Obj) : OwnE enc k e (w.alloc o) base v l := h.keep (Go.Joins.below_alloc1 w o)
theorem OwnE.drew {α : Type} {enc : α → List Value} {k : Nat} {e : TypeId} {w : World} {base : Nat} {v : Value} {l : List α} (h : OwnE enc k e w base v l) : OwnE enc k e w.drew base v l := h
theorem OwnE.mono {α : Type} {enc : α → List Value} {k : Nat} {e : TypeId} {w : World} {base base' : Nat} {v : Value} {l : List α} (h : OwnE enc k e w base v l) (hb : base' ≤ base) : OwnE enc k e w base' v l := by
  obtain ⟨h1, h2⟩ := h
  refine ⟨h1, ?_⟩
  rcases h2 with h2 | ⟨g, cap, cur, e2, hg, r⟩
  · exact Or.inl h2
  · exact Or.inr ⟨g, cap, cur, e2, by omega, r⟩
theorem OwnE.other {α : Type} {enc : α → List Value} {k : Nat} {e : TypeId} {w : World} {base : Nat} {v : Value} {l : List α} (h : OwnE enc k e w base v l) (g : Nat) (hg : g < base) (j : Nat) (u : Value) : OwnE enc k e (w.setCell ⟨g, j, none⟩ u) base v l :=
  ownsRow_setCell_below h (a := ⟨g, j, none⟩) hg u
theorem OwnE.others {α : Type} {enc : α → List Value} {k : Nat} {e : TypeId} {base : Nat} {v : Value} {l : List α} (g : Nat) (hg : g < base) : ∀ (us : List Value) (o : Nat) (w : World), OwnE enc k e w base v l → OwnE enc k e (w.setCells g o us) base v l
  | [], _, _, h => h
  | u :: us, o, _, h => OwnE.others g hg us (o + 1) _ (h.other g hg o u)
/-- an own slice, behind an append to another one -/
theorem OwnE.grown {α : Type} {enc : α → List Value} {k : Nat} {e : TypeId} {w w' : World} {base : Nat} {v : Value} {l : List α} {row : Option Nat} (h : OwnE enc k e w base v l) (hg : w.grownBy w' row) (hne : ∀ g, row = some g → g < base) : OwnE enc k e w' base v l := by
  obtain ⟨h1, h2⟩ := h
  refine ⟨h1, ?_⟩
  rcases h2 with h2 | ⟨g, cap, cur, e2, hb, hh, r⟩
  · exact Or.inl h2
  · refine Or.inr ⟨g, cap, cur, e2, hb, ?_, r⟩
    rw [hg.block g (blk_lt hh) (fun e => by have := hne g e.symm; omega)]
    exact hh
theorem OwnE.nil {α : Type} {enc : α → List Value} {k : Nat} {e : TypeId} (w : World) (base : Nat) : OwnE enc k e w base (.slice none 0 0) ([] : List α) := ⟨by simp, Or.inl ⟨rfl, rfl⟩⟩

theorem OwnS.grown {w w' : World} {base : Nat} {v : Value} {l : List Pl} {row : Option Nat} (h : OwnS w base v l) (hg : w.grownBy w' row) (hne : ∀ g, row = some g → g < base) : OwnS w' base v l :=
  own_pls (OwnE.grown (enc := encPl) (k := 3) (e := 47) h.row hg hne)
theorem OwnS.alloc {w : World} {base : Nat} {v : Value} {l : List Pl} (h : OwnS w base v l) (o : Obj) : OwnS (w.alloc o) base v l := h.below (Go.Joins.below_alloc1 w o)
theorem OwnS.drew {w : World} {base : Nat} {v : Value} {l : List Pl} (h : OwnS w base v l) : OwnS w.drew base v l := h

theorem SlE.at {α : Type} {enc : α → List Value} {k : Nat} (hk : ∀ x, (enc x).length = k) {w : World} {a : Option Addr} {l : List α} (h : SlE enc w a l) (i : Nat) (hi : i < l.length) :
    ∃ b off, a = some ⟨b, off, none⟩ ∧ b < w.heap.size ∧ w.rangeAt b (off + i * k) (enc l[i]) := by
  rcases h with h | ⟨b, off, ha, hb, hr⟩
  · subst h; simp at hi
  · exact ⟨b, off, ha, hb, elemE hk hr i hi⟩
theorem SlE.take {α : Type} {enc : α → List Value} {w : World} {a : Option Addr} {l : List α} (h : SlE enc w a l) (i : Nat) : SlE enc w a (l.take i) := by
  rcases h with h | ⟨b, off, ha, hb, hr⟩
  · subst h; exact Or.inl (by simp)
  · refine Or.inr ⟨b, off, ha, hb, fun j v hv => hr j v ?_⟩
    have e : l.flatMap enc = (l.take i).flatMap enc ++ (l.drop i).flatMap enc := by rw [← List.flatMap_append, List.take_append_drop]
    rw [e, List.getElem?_append_left (List.getElem?_eq_some_iff.1 hv).1]
    exact hv
theorem SlE.drew {α : Type} {enc : α → List Value} {w : World} {a : Option Addr} {l : List α} (h : SlE enc w a l) : SlE enc w.drew a l := h
theorem SlE.nil {α : Type} {enc : α → List Value} {w : World} {a : Option Addr} : SlE enc w a ([] : List α) := Or.inl rfl

theorem opC_len (o : Mv) : (opC o).length = 7 := rfl
theorem opC_one (o : Mv) : ∀ v ∈ opC o, v.oneCell' = true := by
  intro v hv
  simp [opC] at hv
  rcases hv with rfl | rfl | rfl | rfl | rfl | rfl | rfl <;> rfl
theorem flat_oneE {α : Type} {enc : α → List Value} (h : ∀ x, ∀ v ∈ enc x, v.oneCell' = true) (l : List α) : ∀ v ∈ l.flatMap enc, v.oneCell' = true := by
  intro v hv
  rw [List.mem_flatMap] at hv
  obtain ⟨x, _, hx⟩ := hv
  exact h x v hx

theorem op_cells {w : World} {b o : Nat} {x : Mv} (h : w.rangeAt b o (opC x)) :
    w.cell? ⟨b, o, none⟩ = some (.int .i64 x.1) ∧ w.cell? ⟨b, o + 1, none⟩ = some (.int .i64 x.2.1) ∧ w.cell? ⟨b, o + 2, none⟩ = some (.int .i64 x.2.2.1.1) ∧ w.cell? ⟨b, o + 3, none⟩ = some (.int .i64 x.2.2.1.2.1) ∧ w.cell? ⟨b, o + 4, none⟩ = some (.int .i64 x.2.2.1.2.2) ∧ w.cell? ⟨b, o + 5, none⟩ = some (.int .i64 x.2.2.2.1) ∧ w.cell? ⟨b, o + 6, none⟩ = some (.int .i64 x.2.2.2.2) :=
  ⟨h 0 _ rfl, h 1 _ rfl, h 2 _ rfl, h 3 _ rfl, h 4 _ rfl, h 5 _ rfl, h 6 _ rfl⟩
theorem st_cells {w : World} {b o : Nat} {x : Stp} (h : w.rangeAt b o (stC x)) :
    w.cell? ⟨b, o, none⟩ = some (.int .i64 x.1.1) ∧ w.cell? ⟨b, o + 1, none⟩ = some (.int .i64 x.1.2.1) ∧ w.cell? ⟨b, o + 2, none⟩ = some (.int .i64 x.1.2.2.1.1) ∧ w.cell? ⟨b, o + 3, none⟩ = some (.int .i64 x.1.2.2.1.2.1) ∧ w.cell? ⟨b, o + 4, none⟩ = some (.int .i64 x.1.2.2.1.2.2) ∧ w.cell? ⟨b, o + 5, none⟩ = some (.int .i64 x.1.2.2.2.1) ∧ w.cell? ⟨b, o + 6, none⟩ = some (.int .i64 x.1.2.2.2.2) ∧ w.cell? ⟨b, o + 7, none⟩ = some (.bool x.2.1) ∧ w.cell? ⟨b, o + 8, none⟩ = some (.int .i64 x.2.2.1) ∧ w.cell? ⟨b, o + 9, none⟩ = some (.int .i64 x.2.2.2.1) ∧ w.cell? ⟨b, o + 10, none⟩ = some (.int .i64 x.2.2.2.2) :=
  ⟨h 0 _ rfl, h 1 _ rfl, h 2 _ rfl, h 3 _ rfl, h 4 _ rfl, h 5 _ rfl, h 6 _ rfl, h 7 _ rfl, h 8 _ rfl, h 9 _ rfl, h 10 _ rfl⟩

theorem infoOp : (Tryz.prog.info? 32).map (fun i => (i.zero, i.size, i.bytes)) = some (some (.agg #[.int .i64 0, .int .i64 0, .int .i64 0, .int .i64 0, .int .i64 0, .int .i64 0, .int .i64 0]), 7, 56) := by kernel_rfl
theorem infoStep : (Tryz.prog.info? 68).map (fun i => (i.zero, i.size, i.bytes)) = some (some (.agg #[.int .i64 0, .int .i64 0, .int .i64 0, .int .i64 0, .int .i64 0, .int .i64 0, .int .i64 0, .bool false, .int .i64 0, .int .i64 0, .int .i64 0]), 11, 88) := by kernel_rfl
theorem sizeStamp : (Tryz.prog.info? 30).map (·.size) = some 2 := by kernel_rfl
/-- the next operation is a store of this type -/
theorem at_store {ops : Array Oper} {Q : Exit → Act → World → Prop} {rest : List Oper} {x y : Operand} {t : TypeId} {pos : String} {after : Array Edge} {a : Act} {w : World} (ty : TypeId)
    (h : wpList Tryz.prog ops Q (⟨none, .store ty x y, t, pos, after, none⟩ :: rest) a w) : wpList Tryz.prog ops Q (⟨none, .store ty x y, t, pos, after, none⟩ :: rest) a w := h
/-- the value of a history -/
abbrev hiV (x y : Value) : Value := .agg #[x, y]
end Go.Proofs.YtijjiccgpobjmaeGreat

/- orangeryref.chain: a node, its parent, and so on; orangeryref.IsUnder. -/
namespace Go.Proofs.YtijjiccgpobjmaeGreat
open Go.ChangeShapes Go.WideShapes Go.ChangeAt Go.RowKit
open Orangery (Pl find isNodeB inRangeB meetsN scan ringAt check idxF chain chainN hasB outOk)

theorem infoInt : (Tryz.prog.info? 3).map (fun i => (i.zero, i.size, i.bytes)) = some (some (.int .i64 0), 1, 8) := by kernel_rfl

set_option maxHeartbeats 2000000 in
theorem chain_any (w : World) (a : Option Addr) (c : Nat) (l : List Pl) (n : Int) (hl : l.length ≤ maxLen) (h : SlP w a l)
    (hr : ∀ p ∈ l, 0 ≤ p.2.1 ∧ p.2.1 ≤ 16) (hn0 : 0 ≤ n) (hn1 : n ≤ 16) :
    Calls Tryz.prog 94 #[.slice a l.length c, .int .i64 n] w
      fun e w' => ∃ v, e = .returned v ∧ w'.ownsRow w.heap.size 3 1 v (chain l n).length ((chain l n).map (Value.int .i64)) ∧ outOk (chain l n) ∧ Below w.heap.size w w' := by
  obtain ⟨i0, hi, hz0, hz1, hz2⟩ := info_parts infoInt
  have HR : Hid (∀ p ∈ l, 0 ≤ p.2.1 ∧ p.2.1 ≤ 16) := hr
  clear hr
  go_enter Tryz.func94, Tryz.ntmps94
  go_wp2
  have hown : (w.alloc (Obj.cells #[Value.int IntKind.i64 n] 3)).ownsRow w.heap.size 3 1 (.slice (some ⟨w.heap.size, 0, none⟩) 1 1) 1 [.int .i64 n] :=
    ⟨rfl, Or.inr ⟨w.heap.size, 1, #[.int .i64 n], rfl, Nat.le_refl _, blk_new rfl, Nat.le_refl _, by unfold maxLen; omega, rfl, rfl⟩⟩
  have hB := Go.Joins.below_alloc1 w (Obj.cells #[Value.int IntKind.i64 n] 3)
  generalize hW : w.alloc (Obj.cells #[Value.int IntKind.i64 n] 3) = W0 at hB hown
  clear hW
  go_loopw [1, 5] (fun x v W => ∃ (m : Int) (out : List Int), x = .int .i64 m ∧ W.ownsRow w.heap.size 3 1 v out.length (out.map (Value.int .i64)) ∧ outOk out ∧ chainN l (18 - out.length) out m = chain l n ∧ Below w.heap.size w W) (fun _ v _ => 18 - lenOf v)
  case atStart => exact ⟨n, [n], rfl, hown, Orangery.outOk_one hn0 hn1, rfl, hB⟩
  case round =>
    obtain ⟨m, out, rfl, hown, hok, hch, hb⟩ := hrel
    have HOK : Hid (outOk out) := hok
    have hlen := Orangery.outOk_len hok
    have HCH : Hid (chainN l (18 - out.length) out m = chain l n) := hch
    have S1 := Orangery.chainN_stop l out m hok
    have S2 := Orangery.chainN_go l out m HR.out hok
    have hpos : 1 ≤ out.length := hok.2.2
    clear hok hch
    go_wp2_with fail
    refine (findIn_any wr a c l m hl (h.below hb)).mono ?_
    rintro e w1 ⟨rfl, hb1⟩
    generalize hq : find l m = q at *
    obtain ⟨q0, q1, q2⟩ := q
    have HQ : Hid (find l m = (q0, q1, q2)) := hq
    clear hq
    simp only at S1 S2
    have H1 : Hid (q0 = 0 ∨ q1 ∈ out → chainN l (18 - out.length) out m = out) := S1
    have H2 : Hid (q0 ≠ 0 → q1 ∉ out → outOk (out ++ [q1]) ∧ chainN l (18 - out.length) out m = chainN l (18 - (out ++ [q1]).length) (out ++ [q1]) q1) := S2
    clear S1 S2
    obtain ⟨_, hv⟩ := own_ints hown
    rcases hv with ⟨rfl, hv⟩ | ⟨g, cap, rfl, hgb, hgl, hints⟩
    · exact absurd hpos (by omega)
    have hown1 := own_below hown hb1
    have hints1 : IntsAt w1 g 0 out := fun i hi => by rw [hb1.cell hgl]; exact hints i hi
    have hgl1 : g < w1.heap.size := Nat.lt_of_lt_of_le hgl hb1.size
    have hb2 : Below w.heap.size w w1 := hb.trans (hb1.mono hb.size)
    clear hints hgl hown hb1 hb
    by_cases hz : q0 = 0
    · have hz' : (q0 == 0) = true := by simpa using hz
      have e := H1.out (Or.inl hz)
      have HE : Hid (chainN l (18 - out.length) out m = out) := e
      clear hz e
      go_wp2
      go_ret
      refine ⟨_, rfl, ?_, ?_, hb2.alloc hb2.size _⟩
      · rw [← HCH.out, HE.out]; exact hown1.alloc _
      · rw [← HCH.out, HE.out]; exact HOK.out
    · have hz' : (q0 == 0) = false := by simpa using hz
      have HZ : Hid (q0 ≠ 0) := hz
      clear hz
      go_wp2_with fail
      refine (contains_ints _ g 0 cap out.length q1 out rfl (by unfold maxLen; omega) ?_).mono ?_
      · intro i hi
        rw [(Go.Joins.below_alloc1 w1 _).cell hgl1]
        exact hints1 i hi
      rintro e w2 ⟨rfl, rfl⟩
      by_cases hm : q1 ∈ out
      · have e : hasB q1 out = true := by simp [hasB, hm]
        have e2 := H1.out (Or.inr hm)
        have HE : Hid (chainN l (18 - out.length) out m = out) := e2
        rw [e]
        clear hm e e2
        go_wp2
        go_ret
        refine ⟨_, rfl, ?_, ?_, hb2.alloc hb2.size _⟩
        · rw [← HCH.out, HE.out]; exact hown1.alloc _
        · rw [← HCH.out, HE.out]; exact HOK.out
      · have e : hasB q1 out = false := by simp [hasB, hm]
        have e2 := H2.out HZ.out hm
        have HE : Hid (outOk (out ++ [q1]) ∧ chainN l (18 - out.length) out m = chainN l (18 - (out ++ [q1]).length) (out ++ [q1]) q1) := e2
        rw [e]
        clear hm e e2
        have hown2 := (hown1.alloc (Obj.cells #[Value.int IntKind.i64 q0, Value.int IntKind.i64 q1, Value.int IntKind.i64 q2] 47)).alloc (Obj.cells #[Value.int IntKind.i64 q1] 3)
        have hb3 := (hb2.alloc hb2.size (Obj.cells #[Value.int IntKind.i64 q0, Value.int IntKind.i64 q1, Value.int IntKind.i64 q2] 47)).alloc (by simp; exact Nat.le_succ_of_le hb2.size) (Obj.cells #[Value.int IntKind.i64 q1] 3)
        go_wp2_with (at_builtin; refine wpList_append_own _ rfl _ _ 23 rfl w.heap.size 3 i0 (.int .i64 0) 1 8 Tryz.underlying23 hi hz0 hz1 hz2 rfl (by decide) _ _ _ rfl hown2 ⟨w1.heap.size + 1, 0, none⟩ 1 1 [.int .i64 q1] rfl rfl ?c1 ?c2 ?c3 ?c4 ?c5 ?_)
        case c1 =>
          intro j u hj
          match j, hj with
          | 0, hj => simp at hj; subst hj; simp [Addr.add]
        case c2 => intro u hu; simp at hu; subst hu; rfl
        case c3 => unfold maxLen; omega
        case c4 => omega
        case c5 => exact hb3.size
        · intro v' w4 hown' hgrow _
          have hb4 := hb3.trans (below_grown hown2 hb3.size hgrow)
          clear hgrow hown2
          go_wp2
          go_roundw
          case rel => exact ⟨q1, out ++ [q1], rfl, by simpa using hown', HE.out.1, by rw [← HCH.out, HE.out.2], hb4⟩
          case measure =>
            have : lenOf v' = out.length + 1 := by
              obtain ⟨_, hv'⟩ := own_ints (l := out ++ [q1]) (by simpa using hown')
              rcases hv' with ⟨_, hv'⟩ | ⟨g', cap', rfl, _⟩
              · exact absurd hv' (by omega)
              · rfl
            show 18 - lenOf v' < 18 - out.length
            rw [this]
            omega

set_option maxHeartbeats 400000 in
theorem isUnder_any (w : World) (a : Option Addr) (c : Nat) (l : List Pl) (n t : Int) (hl : l.length ≤ maxLen) (h : SlP w a l)
    (hr : ∀ p ∈ l, 0 ≤ p.2.1 ∧ p.2.1 ≤ 16) (hn0 : 0 ≤ n) (hn1 : n ≤ 16) :
    Calls Tryz.prog 71 #[.slice a l.length c, .int .i64 n, .int .i64 t] w
      fun e w' => e = .returned (.bool (hasB t (chain l n))) ∧ Below w.heap.size w w' := by
  have hc := chain_any w a c l n hl h hr hn0 hn1
  clear hr
  go_enter Tryz.func71, Tryz.ntmps71
  go_wp2_with fail
  refine hc.mono ?_
  rintro e w1 ⟨v, rfl, hown, hok, hb⟩
  have hlen := Orangery.outOk_len hok
  have hpos := hok.2.2
  obtain ⟨_, hv⟩ := own_ints hown
  rcases hv with ⟨rfl, hv⟩ | ⟨g, cap, rfl, hgb, hgl, hints⟩
  · exact absurd hpos (by omega)
  clear hown hok hc
  generalize hch : chain l n = ch at *
  have HC : Hid (chain l n = ch) := hch
  clear hch
  go_wp2_with fail
  refine (contains_ints _ g 0 cap ch.length t ch rfl (by unfold maxLen; omega) hints).mono ?_
  rintro e w2 ⟨rfl, rfl⟩
  go_wp2
  go_ret
  exact ⟨by rw [HC.out]; rfl, hb⟩
end Go.Proofs.YtijjiccgpobjmaeGreat

/- Slices of ints that a call reads; slices.Equal, slices.Clone, slices.Contains at them. -/
namespace Go.Proofs.YtijjiccgpobjmaeGreat
open Go.ChangeShapes Go.WideShapes Go.ChangeAt Go.RowKit
open Orangery (hasB)

/-- a slice's address holds these ints -/
def SlI (w : World) (a : Option Addr) (l : List Int) : Prop :=
  l = [] ∨ ∃ b off, a = some ⟨b, off, none⟩ ∧ b < w.heap.size ∧ IntsAt w b off l

theorem SlI.below {w w' : World} {a : Option Addr} {l : List Int} (h : SlI w a l) (hb : Below w.heap.size w w') : SlI w' a l := by
  rcases h with h | ⟨b, off, ha, hlt, hp⟩
  · exact Or.inl h
  · exact Or.inr ⟨b, off, ha, Nat.lt_of_lt_of_le hlt hb.size, fun i hi => by rw [hb.cell hlt]; exact hp i hi⟩
theorem SlI.nil {w : World} {a : Option Addr} : SlI w a [] := Or.inl rfl
theorem SlI.at {w : World} {a : Option Addr} {l : List Int} (h : SlI w a l) (k : Nat) (hk : k < l.length) : ∃ b off, a = some ⟨b, off, none⟩ ∧ b < w.heap.size ∧ w.cell? ⟨b, off + k, none⟩ = some (.int .i64 l[k]) := by
  rcases h with h | ⟨b, off, ha, hlt, hp⟩
  · exact absurd hk (by simp [h])
  · exact ⟨b, off, ha, hlt, hp k hk⟩
theorem SlI.take {w : World} {a : Option Addr} {l : List Int} (h : SlI w a l) (n : Nat) : SlI w a (l.take n) := by
  rcases h with h | ⟨b, off, ha, hlt, hp⟩
  · exact Or.inl (by simp [h])
  · exact Or.inr ⟨b, off, ha, hlt, fun i hi => by rw [List.getElem_take]; exact hp i (by simp at hi; omega)⟩
theorem SlI.news {w : World} {ad : Addr} {l : List Int} (h : SlI w (some ad) l) : ∀ j u, (l.map (Value.int .i64))[j]? = some u → w.cell? (ad.add j) = some u := by
  intro j u hj
  rcases h with rfl | ⟨b, off, ha, _, hp⟩
  · simp at hj
  · simp at ha
    subst ha
    rw [Addr.add_mid]
    have hlt : j < l.length := by
      have := (List.getElem?_eq_some_iff.1 hj).1
      simpa using this
    rw [List.getElem?_map, List.getElem?_eq_getElem hlt] at hj
    simp at hj
    rw [hp j hlt, hj]
theorem SlI.none_nil {w : World} {l : List Int} (h : SlI w none l) : l = [] := by
  rcases h with rfl | ⟨b, off, h, _⟩
  · rfl
  · simp at h

/-- a row of ints of the call's own -/
def OwnI (w : World) (base : Nat) (v : Value) (l : List Int) : Prop := w.ownsRow base 3 1 v l.length (l.map (Value.int .i64))
theorem OwnI.val {w : World} {base : Nat} {v : Value} {l : List Int} (h : OwnI w base v l) : ∃ a cap, v = .slice a l.length cap ∧ SlI w a l := by
  obtain ⟨_, h2⟩ := own_ints h
  rcases h2 with ⟨rfl, h2⟩ | ⟨g, cap, h3, _, h4, h5⟩
  · have : l = [] := List.length_eq_zero_iff.1 h2
    subst this
    exact ⟨none, 0, rfl, Or.inl rfl⟩
  · exact ⟨_, cap, h3, Or.inr ⟨g, 0, rfl, h4, h5⟩⟩
theorem OwnI.keep {w w' : World} {base : Nat} {v : Value} {l : List Int} (h : OwnI w base v l) (hb : Below w.heap.size w w') : OwnI w' base v l := own_below h hb

theorem OwnI.other {w : World} {base : Nat} {v : Value} {l : List Int} (h : OwnI w base v l) (g : Nat) (hg : g < base) (j : Nat) (u : Value) : OwnI (w.setCell ⟨g, j, none⟩ u) base v l := ownsRow_setCell_below h (a := ⟨g, j, none⟩) hg u
theorem OwnI.others {base : Nat} {v : Value} {l : List Int} (g : Nat) (hg : g < base) : ∀ (us : List Value) (o : Nat) (w : World), OwnI w base v l → OwnI (w.setCells g o us) base v l
  | [], _, _, h => h
  | u :: us, o, _, h => OwnI.others g hg us (o + 1) _ (h.other g hg o u)
theorem OwnI.reads {W : World} {base : Nat} {a : Option Addr} {n c : Nat} {l : List Int} (h : OwnI W base (.slice a n c) l) : SlI W a l := by
  obtain ⟨a', c', e, h1⟩ := h.val
  obtain ⟨rfl, _, _⟩ : a = a' ∧ n = l.length ∧ c = c' := by simpa using e
  exact h1

theorem map_one (l : List Int) : ∀ v ∈ l.map (Value.int .i64), v.oneCell' = true := by
  intro v hv
  simp at hv
  obtain ⟨x, _, rfl⟩ := hv
  rfl

def eqIs (l m : List Int) : Bool := decide (l = m)
theorem eqIs_no {l m : List Int} (h : l ≠ m) : eqIs l m = false := by simpa [eqIs] using h
theorem eqIs_yes {l m : List Int} (h : l = m) : eqIs l m = true := by simpa [eqIs] using h

set_option maxHeartbeats 1000000 in
theorem equal_is (w : World) (a a' : Option Addr) (c c' : Nat) (l m : List Int) (hl : l.length ≤ maxLen) (h1 : SlI w a l) (h2 : SlI w a' m) :
    Calls Tryz.prog 79 #[.slice a l.length c, .slice a' m.length c'] w
      fun e w' => e = .returned (.bool (eqIs l m)) ∧ ∃ n, w' = w.drewN n := by
  have hl' : l.length ≤ 9223372036854775807 := hl
  by_cases hlen : l.length = m.length
  · have hlen' : ((l.length : Int) != (m.length : Int)) = false := by simp [hlen]
    go_enter Tryz.func79, Tryz.ntmps79
    go_wp2
    go_loopw [13] (fun i w' => ∃ k n : Nat, k ≤ l.length ∧ i = .int .i64 k ∧ w' = w.drewN n ∧ l.take k = m.take k) (fun i _ => l.length - (intOf i).toNat)
    case atStart => exact ⟨0, 0, Nat.zero_le _, rfl, rfl, rfl⟩
    case round =>
      obtain ⟨k, n, hk, rfl, rfl, hpre⟩ := hrel
      have HP : Hid (l.take k = m.take k) := hpre
      clear hpre
      by_cases hlt : k < l.length
      · have hlt2 : k < m.length := by omega
        obtain ⟨b, off, rfl, hbl, g0⟩ := h1.at k hlt
        obtain ⟨b', off', rfl, hbl', x0⟩ := h2.at k hlt2
        have hlti : (k : Int) < (m.length : Int) := by omega
        have HT1 : Hid (l.take (k + 1) = l.take k ++ [l[k]]) := List.take_succ_eq_append_getElem hlt
        have HT2 : Hid (m.take (k + 1) = m.take k ++ [m[k]]) := List.take_succ_eq_append_getElem hlt2
        have HG : Hid (l = m → l[k] = m[k]) := fun e => by subst e; rfl
        generalize l[k] = s at *
        generalize m[k] = t at *
        by_cases hq : s = t
        · have hq' : (s != t) = false := by simp [hq]
          have HQ : Hid (s = t) := hq
          clear hq
          go_wp2
          go_quiet (fail)
          go_wp2
          go_roundw
          case rel => exact ⟨k + 1, _, by omega, by go_num, rfl, by rw [HT1.out, HT2.out, HP.out, HQ.out]⟩
          case measure => simp [intOf]; omega
        · have hq' : (s != t) = true := by simp [hq]
          have HQ : Hid (s ≠ t) := hq
          clear hq
          go_wp2
          go_quiet (fail)
          go_wp2
          go_ret
          exact ⟨ret_bool ((eqIs_no (fun e => HQ.out (HG.out e))).symm), n + nq, by simp⟩
      · go_wp2
        go_ret
        refine ⟨ret_bool ?_, n, rfl⟩
        have e := HP.out
        rw [List.take_of_length_le (by omega), List.take_of_length_le (by omega)] at e
        exact (eqIs_yes e).symm
  · have hlen' : ((l.length : Int) != (m.length : Int)) = true := by simp; omega
    have HL : Hid (l.length ≠ m.length) := hlen
    clear hlen
    go_enter Tryz.func79, Tryz.ntmps79
    go_wp2
    go_ret
    exact ⟨ret_bool ((eqIs_no (by intro e; subst e; exact HL.out rfl)).symm), 0, rfl⟩

set_option maxHeartbeats 1000000 in
theorem cloneInts_any (w : World) (a : Option Addr) (c : Nat) (l : List Int) (hl : l.length ≤ 1000) (h : SlI w a l) :
    Calls Tryz.prog 74 #[.slice a l.length c] w
      fun e w' => ∃ v, e = .returned v ∧ OwnI w' w.heap.size v l ∧ Below w.heap.size w w' := by
  obtain ⟨i0, hi, hz0, hz1, hz2⟩ := info_parts infoInt
  have hq := fun (W : World) (a : Option Addr) (n c : Nat) => Lib.run_eql_slice_nil (P := Tryz.prog) W 23 3 a n c 0 0 Tryz.underlying23
  cases a with
  | none =>
    have hl0 := h.none_nil
    subst hl0
    go_enter Tryz.func74, Tryz.ntmps74
    go_wp2
    go_ret
    exact ⟨_, rfl, World.ownsRow_nil _ _ _ _, Below.refl _ _⟩
  | some ad =>
    have hB := Go.Joins.below_alloc1 w (Obj.cells #[] 3)
    have hown : (w.alloc (Obj.cells #[] 3)).ownsRow w.heap.size 3 1 (.slice (some ⟨w.heap.size, 0, none⟩) 0 0) 0 [] :=
      ⟨rfl, Or.inr ⟨w.heap.size, 0, #[], rfl, Nat.le_refl _, blk_new rfl, Nat.le_refl _, by unfold maxLen; omega, rfl, rfl⟩⟩
    have HN : Hid (∀ j u, (l.map (Value.int .i64))[j]? = some u → (w.alloc (Obj.cells #[] 3)).cell? (ad.add j) = some u) := (h.below hB).news
    clear h
    go_enter Tryz.func74, Tryz.ntmps74
    go_wp2_with (at_builtin; refine wpList_append_own _ rfl _ _ 23 rfl w.heap.size 3 i0 _ 1 8 Tryz.underlying23 hi hz0 hz1 hz2 rfl (by decide) _ _ _ rfl hown ad l.length c (l.map (Value.int .i64)) rfl (by simp) ?c1 ?c2 ?c3 ?c4 ?c5 ?_)
    case c1 => exact HN.out
    case c2 => exact map_one l
    case c3 => unfold maxLen; omega
    case c4 => omega
    case c5 => exact hB.size
    · intro v' w1 hown' hgrow _
      have hb1 := hB.trans (below_grown hown hB.size hgrow)
      have hO : OwnI w1 w.heap.size v' l := by simpa [OwnI] using hown'
      clear hgrow hown hown'
      go_wp2
      go_ret
      exact ⟨_, rfl, hO, hb1⟩
end Go.Proofs.YtijjiccgpobjmaeGreat

