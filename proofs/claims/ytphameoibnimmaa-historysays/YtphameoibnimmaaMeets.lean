/- tree.meets: from one parent to the next one, until one is what is sought. -/
import Derived.Test.YtphameoibnimmaaTreeA
namespace Go.Proofs.Ytphameoibnimmaa
open Go.ChangeShapes Go.WideShapes Go.ChangeAt Go.RowKit
open Orangery (Pl find isNodeB inRangeB meetsN)

set_option maxHeartbeats 1000000 in
theorem meets_any (w : World) (a : Option Addr) (c : Nat) (l : List Pl) (n : Int) (g : Nat) (v : Value) (f : Int → Bool) (hl : l.length ≤ maxLen) (h : SlP w a l)
    (eg : ∀ args w, (callFunc g args).run Try.prog w = .ok (.enter g args) w)
    (hg : ∀ W m, Below w.heap.size w W → Calls Try.prog g #[.int .i64 m, v] W fun e w' => e = .returned (.bool (f m)) ∧ w' = W) :
    Calls Try.prog 39 #[.agg #[.slice a l.length c], .int .i64 n, .func (.func g) #[] #[v]] w
      fun e w' => e = .returned (.bool (meetsN l f l.length n)) ∧ Below w.heap.size w w' := by
  have hl' : l.length ≤ 9223372036854775807 := hl
  go_enter Try.func39, Try.ntmps39
  go_wp2
  have hB := Go.Joins.below_alloc1 w (Obj.cells #[Value.slice a l.length c] 29)
  generalize hW : w.alloc (Obj.cells #[Value.slice a l.length c] 29) = W0 at hB
  have hS : W0.heap.size = w.heap.size + 1 := by subst hW; simp
  have hc : W0.cell? ⟨w.heap.size, 0, none⟩ = some (.slice a l.length c) := by subst hW; simp
  clear hW
  have hP := h.below hB
  clear h
  go_loopw [1, 11] (fun x i W => ∃ (k : Nat) (m : Int), k ≤ l.length ∧ x = .int .i64 m ∧ i = .int .i64 k ∧ meetsN l f (l.length - k) m = meetsN l f l.length n ∧ Below W0.heap.size W0 W) (fun _ i _ => l.length - (intOf i).toNat)
  case atStart => exact ⟨0, n, Nat.zero_le _, rfl, rfl, rfl, Below.refl _ _⟩
  case round =>
    obtain ⟨k, m, hk, rfl, rfl, hf, hb⟩ := hrel
    have hcr := hc
    rw [← hb.cell (by show w.heap.size < _; omega)] at hcr
    by_cases hlt : k < l.length
    · obtain ⟨s1, s2, s3⟩ := Orangery.meetsN_step l f k m hlt
      have hf' : Hid (meetsN l f (l.length - k) m = meetsN l f l.length n) := hf
      clear hf
      have H1 : Hid ((find l m).1 = 0 → meetsN l f (l.length - k) m = false) := s1
      have H2 : Hid ((find l m).1 ≠ 0 → f (find l m).2.1 = true → meetsN l f (l.length - k) m = true) := s2
      have H3 : Hid ((find l m).1 ≠ 0 → f (find l m).2.1 = false → meetsN l f (l.length - k) m = meetsN l f (l.length - (k + 1)) (find l m).2.1) := s3
      clear s1 s2 s3
      go_wp2_with fail
      refine (find_any wr a c l m hl (hP.below hb)).mono ?_
      rintro e w1 ⟨rfl, hb1⟩
      generalize hq : find l m = q at *
      obtain ⟨q0, q1, q2⟩ := q
      have HQ : Hid (find l m = (q0, q1, q2)) := hq
      clear hq
      simp only at H1 H2 H3 ⊢
      by_cases hz : q0 = 0
      · have e := H1.out hz
        have hz' : (q0 == 0) = true := by simpa using hz
        have HE : Hid (meetsN l f (l.length - k) m = false) := e
        clear hz e
        go_wp2
        go_ret
        exact ⟨ret_bool (by rw [← hf'.out, HE.out]), (hB.trans ((hb.trans (hb1.mono hb.size)).mono (by omega))).alloc (by have := hb.size; have := hb1.size; omega) _⟩
      · have hz' : (q0 == 0) = false := by simpa using hz
        have HZ : Hid (q0 ≠ 0) := hz
        clear hz
        have hbb : Below w.heap.size w w1 := hB.trans ((hb.trans (hb1.mono hb.size)).mono (by omega))
        have hb2 : Below w.heap.size w (w1.alloc (Obj.cells #[Value.int IntKind.i64 q0, Value.int IntKind.i64 q1, Value.int IntKind.i64 q2] 36)) := hbb.alloc (by have := hb.size; have := hb1.size; omega) _
        go_wp2_with fail
        refine (hg _ q1 hb2).mono ?_
        rintro e w2 ⟨rfl, rfl⟩
        cases hfq : f q1
        · have e := H3.out HZ.out hfq
          have HE : Hid (meetsN l f (l.length - k) m = meetsN l f (l.length - (k + 1)) q1) := e
          clear e
          go_wp2
          go_roundw
          case rel => exact ⟨k + 1, q1, hlt, rfl, by go_num, by rw [← HE.out, hf'.out], (hb.trans (hb1.mono hb.size)).alloc (by have := hb.size; have := hb1.size; omega) _⟩
          case measure => simp [intOf]; omega
        · have e := H2.out HZ.out hfq
          have HE : Hid (meetsN l f (l.length - k) m = true) := e
          clear e
          go_wp2
          go_ret
          exact ⟨ret_bool (by rw [← hf'.out, HE.out]), hb2⟩
    · have hk' : l.length - k = 0 := by omega
      rw [hk'] at hf
      have HF : Hid (meetsN l f 0 m = meetsN l f l.length n) := hf
      clear hf hk'
      go_wp2
      go_ret
      exact ⟨ret_bool (by rw [← HF.out]; rfl), hB.trans (hb.mono (by omega))⟩
end Go.Proofs.Ytphameoibnimmaa
