/- orangeryref.places: the places of a table. -/
import Derived.Test.YtphameoibnimmaaTable
namespace Go.Proofs.Ytphameoibnimmaa
open Go.ChangeShapes Go.WideShapes Go.ChangeAt Go.RowKit
open Orangery (Pl rows)

theorem flat_part (l : List Pl) : ∀ i, (h : i < l.length) → ((l.flatMap encPl).drop (i * 3)).take 3 = encPl l[i] := by
  induction l with
  | nil => intro i h; simp at h
  | cons p l ih =>
    intro i h
    cases i with
    | zero => simp [encPl]
    | succ i =>
      have e : (i + 1) * 3 = (encPl p).length + i * 3 := by simp [encPl]; omega
      have e2 : (encPl p).drop ((encPl p).length + i * 3) = [] := List.drop_of_length_le (by omega)
      rw [List.flatMap_cons, e, List.drop_append, e2, List.nil_append, Nat.add_sub_cancel_left]
      simpa using ih i (by simpa using h)

theorem run_index_tab (t : Nat → Pl) (k : Nat) (hk : k < 16) (w : World) : (Instr.index 100 (tabV t) (.int .i64 k)).run Try.prog w = .ok (plV (t k)) w := by
  have hu := Try.underlying100
  have ha := Try.isAgg36
  have hz := Try.sizeOf36
  have hx : ((((tabL t).flatMap encPl).drop (k * 3)).take 3) = [.int .i64 (t k).1, .int .i64 (t k).2.1, .int .i64 (t k).2.2] := by
    have h1 := flat_part (tabL t) k (by rw [tabL_len]; exact hk)
    rw [tabL_get] at h1
    exact h1
  have hlt : (0 : Int) ≤ k ∧ (k : Int) < 16 := by omega
  unfold Instr.index tabV
  go_simp

set_option maxHeartbeats 1000000 in
set_option maxRecDepth 100000 in
theorem places_any (w : World) (t : Nat → Pl) :
    Calls Try.prog 79 #[tabV t] w
      fun e w' => ∃ v, e = .returned v ∧ OwnS w' w.heap.size v (rows t 16) ∧ Below w.heap.size w w' := by
  have hlen : ((tabL t).flatMap encPl).length = 48 := by rw [flat_len, tabL_len]
  unfold tabV
  generalize hcs : (tabL t).flatMap encPl = cs at *
  have HCS : Hid ((tabL t).flatMap encPl = cs) := hcs
  clear hcs
  have hix : ∀ (k : Nat) (W : World), k < 16 → (Instr.index 100 (.agg cs.toArray) (.int .i64 k)).run Try.prog W = .ok (plV (t k)) W := fun k W hk => by
    rw [← HCS.out]
    exact run_index_tab t k hk W
  have HI : Hid ((Try.prog.info? 100).map (·.size) = some cs.length) := by show _ = _; rw [infoTable, hlen]
  have hN := Blk.new w cs 100
  have hB := Go.Joins.below_alloc1 w (Obj.cells cs.toArray 100)
  have HN : Hid ((w.alloc (Obj.cells cs.toArray 100)).rangeAt w.heap.size 0 cs) := fun j v hv => by rw [Nat.zero_add]; exact hN.at j hv
  clear hN
  go_enter Try.func79, Try.ntmps79
  obtain ⟨i0, hi, hz0, hz1, hz2⟩ := info_parts infoPlace
  go_wp2_with (first | (refine wpList_load_mid rfl 100 _ rfl w.heap.size 0 rfl cs _ HN.out Try.underlying100 rfl HI.out ?_))
  generalize hW : w.alloc (Obj.cells cs.toArray 100) = W0 at hB
  have hS : W0.heap.size = w.heap.size + 1 := by subst hW; simp
  clear hW HN HI HCS hlen
  go_loopw [3, 7] (fun v i W => ∃ k : Nat, k ≤ 16 ∧ i = .int .i64 k ∧ W.ownsRow W0.heap.size 36 3 v (rows t k).length ((rows t k).flatMap encPl) ∧ Below W0.heap.size W0 W) (fun _ i _ => 16 - (intOf i).toNat)
  case atStart => exact ⟨0, by omega, rfl, World.ownsRow_nil _ _ _ _, Below.refl _ _⟩
  case round =>
    obtain ⟨k, hk, rfl, hown, hb⟩ := hrel
    have hkl := Orangery.rows_len t k
    by_cases hlt : k < 16
    · have HS : Hid (rows t (k + 1) = rows t k ++ if 0 < k ∧ 0 ≤ (t k).2.1 then [t k] else []) := Orangery.rows_succ t k
      have hixk : ∀ W, (Instr.index 100 (.agg cs.toArray) (.int .i64 k)).run Try.prog W = .ok (plV (t k)) W := fun W => hix k W hlt
      have HIX : Hid (∀ (k : Nat) (W : World), k < 16 → (Instr.index 100 (.agg cs.toArray) (.int .i64 k)).run Try.prog W = .ok (plV (t k)) W) := hix
      clear hix
      generalize hq : t k = q at *
      obtain ⟨q0, q1, q2⟩ := q
      clear hq
      generalize rows t k = K at *
      have hown1 := hown.alloc (Obj.cells #[Value.int IntKind.i64 q0, Value.int IntKind.i64 q1, Value.int IntKind.i64 q2] 36)
      have hb1 := hb.alloc hb.size (Obj.cells #[Value.int IntKind.i64 q0, Value.int IntKind.i64 q1, Value.int IntKind.i64 q2] 36)
      by_cases h0 : 0 < k
      · have d0 : decide ((k : Int) > 0) = true := by simp; omega
        by_cases h1 : 0 ≤ q1
        · have d1 : decide (q1 ≥ 0) = true := by simpa using h1
          have HF : Hid ((if 0 < k ∧ 0 ≤ ((q0, q1, q2) : Pl).2.1 then [((q0, q1, q2) : Pl)] else []) = [(q0, q1, q2)]) := by show _ = _; rw [if_pos ⟨h0, h1⟩]
          have hown2 := hown1.alloc (Obj.cells #[Value.int IntKind.i64 q0, Value.int IntKind.i64 q1, Value.int IntKind.i64 q2] 36)
          have hb3 := hb1.alloc (by simp; exact Nat.le_succ_of_le hb.size) (Obj.cells #[Value.int IntKind.i64 q0, Value.int IntKind.i64 q1, Value.int IntKind.i64 q2] 36)
          clear hown hown1
          go_wp2_with (at_builtin; refine wpList_append_own _ rfl _ _ 27 rfl W0.heap.size 36 i0 _ 3 24 Try.underlying27 hi hz0 hz1 hz2 rfl (by decide) _ _ _ rfl hown2 ⟨wr.heap.size + 1, 0, none⟩ 1 1 [.int .i64 q0, .int .i64 q1, .int .i64 q2] rfl rfl ?c1 ?c2 ?c3 ?c4 ?c5 ?_)
          case c2 => exact ⟨rfl, rfl, rfl⟩
          case c3 => unfold maxLen; omega
          case c4 => omega
          case c5 => have := hb.size; omega
          · intro v' w4 hown' hgrow _
            have hb4 := hb3.trans (below_grown hown2 hb3.size hgrow)
            clear hgrow hown2
            go_wp2
            go_roundw
            case rel =>
              refine ⟨k + 1, hlt, by go_num, ?_, hb4⟩
              rw [HS.out, HF.out, hS]
              simpa [encPl] using hown'
            case measure => simp [intOf]; omega
        · have d1 : decide (q1 ≥ 0) = false := by simpa using h1
          have HF : Hid ((if 0 < k ∧ 0 ≤ ((q0, q1, q2) : Pl).2.1 then [((q0, q1, q2) : Pl)] else []) = []) := by show _ = _; rw [if_neg (fun hh => h1 hh.2)]
          go_wp2
          go_roundw
          case rel =>
            refine ⟨k + 1, hlt, by go_num, ?_, hb1⟩
            rw [HS.out, HF.out, List.append_nil]
            exact hown1
          case measure => simp [intOf]; omega
      · have d0 : decide ((k : Int) > 0) = false := by simp; omega
        have HF : Hid ((if 0 < k ∧ 0 ≤ ((q0, q1, q2) : Pl).2.1 then [((q0, q1, q2) : Pl)] else []) = []) := by show _ = _; rw [if_neg (fun hh => h0 hh.1)]
        go_wp2
        go_roundw
        case rel =>
          refine ⟨k + 1, hlt, by go_num, ?_, hb1⟩
          rw [HS.out, HF.out, List.append_nil]
          exact hown1
        case measure => simp [intOf]; omega
    · have hk' : k = 16 := by omega
      subst hk'
      have hO := own_pls hown
      clear hown
      go_wp2
      go_ret
      exact ⟨_, rfl, hO.mono (by omega), hB.trans (hb.mono (by omega))⟩
end Go.Proofs.Ytphameoibnimmaa
