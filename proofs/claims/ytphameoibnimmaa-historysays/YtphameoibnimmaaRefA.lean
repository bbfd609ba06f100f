/- slices.IndexFunc at places; orangeryref.FindIn; slices.Contains at ints; orangeryref.CheckPlace. -/
import Derived.Test.YtphameoibnimmaaCheck
namespace Go.Proofs.Ytphameoibnimmaa
open Go.ChangeShapes Go.WideShapes Go.ChangeAt Go.RowKit
open Orangery (Pl find isNodeB inRangeB meetsN scan ringAt check idxF)

set_option maxHeartbeats 1000000 in
theorem indexFunc_any (w : World) (a : Option Addr) (c : Nat) (l : List Pl) (g : Nat) (v : Value) (f : Pl → Bool) (hl : l.length ≤ maxLen) (h : SlP w a l)
    (eg : ∀ args w, (callFunc g args).run Try.prog w = .ok (.enter g args) w)
    (hg : ∀ W p, Below w.heap.size w W → Calls Try.prog g #[plV p, v] W fun e w' => e = .returned (.bool (f p)) ∧ Below W.heap.size W w') :
    Calls Try.prog 52 #[.slice a l.length c, .func (.func g) #[] #[v]] w
      fun e w' => e = .returned (.int .i64 (idxF f 0 l)) ∧ Below w.heap.size w w' := by
  have hl' : l.length ≤ 9223372036854775807 := hl
  go_enter Try.func52, Try.ntmps52
  go_wp2
  go_loopw [8] (fun i W => ∃ k : Nat, k ≤ l.length ∧ i = .int .i64 k ∧ idxF f k (l.drop k) = idxF f 0 l ∧ Below w.heap.size w W) (fun i _ => l.length - (intOf i).toNat)
  case atStart => exact ⟨0, Nat.zero_le _, rfl, rfl, Below.refl _ _⟩
  case round =>
    obtain ⟨k, hk, rfl, hf, hb⟩ := hrel
    by_cases hlt : k < l.length
    · obtain ⟨s1, s2⟩ := Orangery.idxF_step f l k hlt hf
      have H1 : Hid (f l[k] = true → idxF f 0 l = k) := s1
      have H2 : Hid (f l[k] = false → idxF f (k + 1) (l.drop (k + 1)) = idxF f 0 l) := s2
      clear s1 s2 hf
      rcases h with h | ⟨b, off, rfl, hbl, hp⟩
      · exact absurd hlt (by simp [h])
      have g := hp k hlt
      rw [← hb.cell hbl, ← hb.cell hbl, ← hb.cell hbl] at g
      obtain ⟨g0, g1, g2⟩ := g
      go_wp2_with fail
      refine (hg wr l[k] hb).mono ?_
      rintro e w1 ⟨rfl, hb1⟩
      have hb2 : Below w.heap.size w w1 := hb.trans (hb1.mono hb.size)
      cases hr : f l[k]
      · have e := H2.out hr
        have HE : Hid (idxF f (k + 1) (l.drop (k + 1)) = idxF f 0 l) := e
        clear e
        go_wp2
        go_roundw
        case rel => exact ⟨k + 1, hlt, by go_num, HE.out, hb2⟩
        case measure => simp [intOf]; omega
      · have e := H1.out hr
        have HE : Hid (idxF f 0 l = k) := e
        clear e
        go_wp2
        go_ret
        exact ⟨ret_int (by rw [HE.out]), hb2⟩
    · have hk' : l.drop k = [] := by simp; omega
      rw [hk'] at hf
      have HF : Hid (idxF f 0 l = -1) := hf.symm
      clear hf hk'
      go_wp2
      go_ret
      exact ⟨ret_int (by rw [HF.out]), hb⟩

theorem findIn1_any (w : World) (p : Pl) (n : Int) (b : Nat) (hb : b < w.heap.size) (hc : w.cell? ⟨b, 0, none⟩ = some (.int .i64 n)) :
    Calls Try.prog 53 #[plV p, .pointer (some ⟨b, 0, none⟩)] w fun e w' => e = .returned (.bool (p.1 == n)) ∧ Below w.heap.size w w' := by
  go_enter Try.func53, Try.ntmps53
  go_wp2
  go_ret
  exact ⟨rfl, Go.Joins.below_alloc1 w _⟩

set_option maxHeartbeats 1000000 in
theorem findIn_any (w : World) (a : Option Addr) (c : Nat) (l : List Pl) (n : Int) (hl : l.length ≤ maxLen) (h : SlP w a l) :
    Calls Try.prog 16 #[.slice a l.length c, .int .i64 n] w
      fun e w' => e = .returned (plV (find l n)) ∧ Below w.heap.size w w' := by
  have hl' : l.length ≤ 9223372036854775807 := hl
  go_enter Try.func16, Try.ntmps16
  go_wp2_with fail
  have hB := Go.Joins.below_alloc2 w (Obj.cells #[Value.int IntKind.i64 n] 3) (Obj.cells #[Value.int IntKind.i64 0, Value.int IntKind.i64 0, Value.int IntKind.i64 0] 36)
  generalize hW : (w.alloc (Obj.cells #[Value.int IntKind.i64 n] 3)).alloc (Obj.cells #[Value.int IntKind.i64 0, Value.int IntKind.i64 0, Value.int IntKind.i64 0] 36) = W0 at hB
  have hS : W0.heap.size = w.heap.size + 2 := by subst hW; simp
  have hn : W0.cell? ⟨w.heap.size, 0, none⟩ = some (.int .i64 n) := by subst hW; rw [(Go.Joins.below_alloc1 _ _).cell (by simp)]; simp
  have hfr : ∀ j, W0.frozen? ⟨w.heap.size + 1, j, none⟩ = false := by intro j; subst hW; simp
  have hc : W0.cell? ⟨w.heap.size + 1, 0, none⟩ = some (.int .i64 0) ∧ W0.cell? ⟨w.heap.size + 1, 1, none⟩ = some (.int .i64 0) ∧ W0.cell? ⟨w.heap.size + 1, 2, none⟩ = some (.int .i64 0) := by subst hW; simp
  have hP := h.below hB
  clear hW h
  refine (indexFunc_any W0 a c l 53 (.pointer (some ⟨w.heap.size, 0, none⟩)) (fun p => p.1 == n) hl hP (Go.Proofs.enters_of Try.func53 (by kernel_rfl) rfl) ?_).mono ?_
  · intro W p hb
    exact findIn1_any W p n w.heap.size (by have := hb.size; omega) (by rw [hb.cell (by show w.heap.size < _; omega), hn])
  rintro e w1 ⟨rfl, hb⟩
  have hf0 : ∀ j, w1.frozen? ⟨w.heap.size + 1, j, none⟩ = false := by intro j; rw [hb.frozen (by show w.heap.size + 1 < _; omega)]; exact hfr j
  obtain ⟨c0, c1, c2⟩ := hc
  rw [← hb.cell (by show w.heap.size + 1 < _; omega)] at c0 c1 c2
  have hbw : Below w.heap.size w w1 := hB.trans (hb.mono (by omega))
  have hP2 := hP.below hb
  clear hfr hB hb hn hP
  rcases Orangery.idxF_spec n l 0 with ⟨h1, h2⟩ | ⟨i, hi, h1, h2⟩
  · rw [h1]
    have HE : Hid (find l n = (0, 0, 0)) := h2
    clear h1 h2
    go_wp2
    obtain ⟨d0, d1, d2⟩ := cells3 (.int .i64 0) (.int .i64 0) (.int .i64 0) c0 c1 c2
    refine bodyPost_ret (v := plV (0, 0, 0)) (by simp [results, Try.results16, go_sem, d0, d1, d2]) rfl ⟨by rw [HE.out], ?_⟩
    exact (((hbw.setCell (by simp) _).setCell (by simp) _).setCell (by simp) _)
  · rw [h1, Nat.zero_add]
    have HE : Hid (find l n = l[i]) := h2
    clear h1 h2
    rcases hP2 with hP2 | ⟨b, off, rfl, hbl, hp⟩
    · exact absurd hi (by simp [hP2])
    obtain ⟨g0, g1, g2⟩ := hp i hi
    go_wp2
    obtain ⟨d0, d1, d2⟩ := cells3 (.int .i64 l[i].1) (.int .i64 l[i].2.1) (.int .i64 l[i].2.2) c0 c1 c2
    refine bodyPost_ret (v := plV l[i]) (by simp [results, Try.results16, go_sem, d0, d1, d2]) rfl ⟨by rw [HE.out], ?_⟩
    exact (((hbw.setCell (by simp) _).setCell (by simp) _).setCell (by simp) _)

def cpE (p : Pl) : Int := if inRangeB p = true then 0 else 3

set_option maxHeartbeats 400000 in
theorem checkPlace_any (w : World) (p : Pl) :
    Calls Try.prog 46 #[plV p] w fun e w' => e = .returned (.int .i64 (cpE p)) ∧ Below w.heap.size w w' := by
  obtain ⟨a, b, c⟩ := p
  cases hr : inRangeB (a, b, c)
  · have e : cpE (a, b, c) = 3 := by simp [cpE, hr]
    have hn : ¬ (1 ≤ a ∧ a < 16 ∧ 0 ≤ b ∧ b ≤ 16 ∧ 0 ≤ c ∧ c ≤ 99) := by simpa [inRangeB] using hr
    have HE : Hid (cpE (a, b, c) = 3) := e
    clear e hr
    by_cases h1 : 1 ≤ a ∧ a ≤ 15
    · obtain ⟨h1, h2⟩ := h1
      by_cases h3 : 0 ≤ b ∧ b ≤ 16
      · obtain ⟨h3, h4⟩ := h3
        by_cases h5 : 0 ≤ c
        · have h6 : ¬ c ≤ 99 := by omega
          go_enter Try.func46, Try.ntmps46
          go_wp2
          go_ret
          exact ⟨ret_int (by rw [HE.out]), Go.Joins.below_alloc1 w _⟩
        · go_enter Try.func46, Try.ntmps46
          go_wp2
          go_ret
          exact ⟨ret_int (by rw [HE.out]), Go.Joins.below_alloc1 w _⟩
      · by_cases h5 : 0 ≤ b
        · have h6 : ¬ b ≤ 16 := by omega
          go_enter Try.func46, Try.ntmps46
          go_wp2
          go_ret
          exact ⟨ret_int (by rw [HE.out]), Go.Joins.below_alloc1 w _⟩
        · go_enter Try.func46, Try.ntmps46
          go_wp2
          go_ret
          exact ⟨ret_int (by rw [HE.out]), Go.Joins.below_alloc1 w _⟩
    · by_cases h5 : 1 ≤ a
      · have h6 : ¬ a ≤ 15 := by omega
        go_enter Try.func46, Try.ntmps46
        go_wp2
        go_ret
        exact ⟨ret_int (by rw [HE.out]), Go.Joins.below_alloc1 w _⟩
      · go_enter Try.func46, Try.ntmps46
        go_wp2
        go_ret
        exact ⟨ret_int (by rw [HE.out]), Go.Joins.below_alloc1 w _⟩
  · have e : cpE (a, b, c) = 0 := by simp [cpE, hr]
    have hn : 1 ≤ a ∧ a < 16 ∧ 0 ≤ b ∧ b ≤ 16 ∧ 0 ≤ c ∧ c ≤ 99 := by simpa [inRangeB] using hr
    obtain ⟨h1, h2, h3, h4, h5, h6⟩ := hn
    have HE : Hid (cpE (a, b, c) = 0) := e
    clear e hr
    go_enter Try.func46, Try.ntmps46
    go_wp2
    go_ret
    exact ⟨ret_int (by rw [HE.out]), Go.Joins.below_alloc1 w _⟩
end Go.Proofs.Ytphameoibnimmaa
