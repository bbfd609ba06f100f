/- orangeryref.KidsOf. -/
import Derived.Test.YtaikapbhikhmnaaOwn
import Derived.Test.YtaikapbhikhmnaaPlainE
namespace Go.Proofs.Ytaikapbhikhmnaa
open Go.ChangeShapes Go.WideShapes Go.ChangeAt Go.RowKit
open Orangery (Pl kidAt kidsR)

set_option maxHeartbeats 2000000 in
theorem kidsOf_any (w : World) (a : Option Addr) (c : Nat) (l : List Pl) (n : Int) (hl : l.length ≤ 15) (h : SlP w a l) :
    Calls Try.prog 17 #[.agg #[.slice a l.length c], .int .i64 n] w
      fun e w' => ∃ v, e = .returned v ∧ OwnS w' w.heap.size v (kidsR l n 100) ∧ Below w.heap.size w w' := by
  obtain ⟨i0, hi, hz0, hz1, hz2⟩ := info_parts infoPlace
  go_enter Try.func17, Try.ntmps17
  go_wp2
  have hB := Go.Joins.below_alloc1 w (Obj.cells #[Value.slice a l.length c] 29)
  generalize hW : w.alloc (Obj.cells #[Value.slice a l.length c] 29) = W0 at hB
  have hS : W0.heap.size = w.heap.size + 1 := by subst hW; simp
  have hc : W0.cell? ⟨w.heap.size, 0, none⟩ = some (.slice a l.length c) := by subst hW; simp
  clear hW
  have hP := h.below hB
  clear h
  go_loopw [5, 9] (fun v i W => ∃ k : Nat, k ≤ 100 ∧ i = .int .i64 k ∧ W.ownsRow W0.heap.size 36 3 v (kidsR l n k).length ((kidsR l n k).flatMap encPl) ∧ Below W0.heap.size W0 W) (fun _ i _ => 100 - (intOf i).toNat)
  case atStart => exact ⟨0, by omega, rfl, World.ownsRow_nil _ _ _ _, Below.refl _ _⟩
  case round =>
    obtain ⟨k, hk, rfl, hown, hb⟩ := hrel
    have hkl := Orangery.kidsR_len l n k
    have hkl' : (kidsR l n k).length ≤ 1500 := Nat.le_trans hkl (Nat.le_trans (Nat.mul_le_mul hk hl) (by omega))
    by_cases hlt : k < 100
    · have hcr := hc
      rw [← hb.cell (by show w.heap.size < _; omega)] at hcr
      have HS : Hid (kidsR l n (k + 1) = kidsR l n k ++ l.filter (kidAt n k)) := Orangery.kidsR_succ l n k
      clear hkl
      generalize kidsR l n k = K at *
      rename World => W1
      have hd : decide ((k : Int) < 100) = true := by simp; omega
      go_wp2
      go_loopw [5, 15] (fun v i W => ∃ j : Nat, j ≤ l.length ∧ i = .int .i64 j ∧ W.ownsRow W0.heap.size 36 3 v (K ++ (l.take j).filter (kidAt n k)).length ((K ++ (l.take j).filter (kidAt n k)).flatMap encPl) ∧ Below W0.heap.size W0 W) (fun _ i _ => l.length - (intOf i).toNat)
      case atStart => exact ⟨0, by omega, rfl, by simpa using hown, hb⟩
      case round =>
        clear hown hb hcr
        obtain ⟨j, hj, rfl, hown, hb⟩ := hrel
        have hlf : ((l.take j).filter (kidAt n k)).length ≤ 15 := Nat.le_trans (List.length_filter_le _ _) (by simp; omega)
        by_cases hlt2 : j < l.length
        · rcases hP with hP | ⟨b, off, rfl, hbl, hp⟩
          · exact absurd hlt2 (by simp [hP])
          have g := hp j hlt2
          rw [← hb.cell hbl, ← hb.cell hbl, ← hb.cell hbl] at g
          obtain ⟨g0, g1, g2⟩ := g
          have HT : Hid ((l.take (j + 1)).filter (kidAt n k) = (l.take j).filter (kidAt n k) ++ [l[j]].filter (kidAt n k)) := by
            show _ = _
            rw [List.take_succ_eq_append_getElem hlt2, List.filter_append]
          generalize hq : l[j] = q at *
          obtain ⟨q0, q1, q2⟩ := q
          clear hq
          simp only at g0 g1 g2
          have hlen2 : (K ++ (l.take j).filter (kidAt n k)).length ≤ 1515 := by rw [List.length_append]; omega
          generalize hK2 : K ++ (l.take j).filter (kidAt n k) = K2 at *
          have HK2 : Hid (K ++ (l.take j).filter (kidAt n k) = K2) := hK2
          clear hK2 hlf
          by_cases h1 : q1 = n
          · by_cases h2 : q2 = k
            · have t1 : (q1 == n) = true := by simpa using h1
              have t2 : (q2 == (k : Int)) = true := by simpa using h2
              have HF : Hid ([((q0, q1, q2) : Pl)].filter (kidAt n k) = [(q0, q1, q2)]) := by show _ = _; simp [kidAt, h1, h2]
              clear h1 h2
              have hown2 := (hown.alloc (Obj.cells #[Value.int IntKind.i64 q0, Value.int IntKind.i64 q1, Value.int IntKind.i64 q2] 36)).alloc (Obj.cells #[Value.int IntKind.i64 q0, Value.int IntKind.i64 q1, Value.int IntKind.i64 q2] 36)
              have hb3 := (hb.alloc hb.size (Obj.cells #[Value.int IntKind.i64 q0, Value.int IntKind.i64 q1, Value.int IntKind.i64 q2] 36)).alloc (by simp; exact Nat.le_succ_of_le hb.size) (Obj.cells #[Value.int IntKind.i64 q0, Value.int IntKind.i64 q1, Value.int IntKind.i64 q2] 36)
              go_wp2_with (at_builtin; refine wpList_append_own _ rfl _ _ 27 rfl W0.heap.size 36 i0 _ 3 24 Try.underlying27 hi hz0 hz1 hz2 rfl (by decide) _ _ _ rfl hown2 ⟨wr.heap.size + 1, 0, none⟩ 1 1 [.int .i64 q0, .int .i64 q1, .int .i64 q2] rfl rfl ?c1 ?c2 ?c3 ?c4 ?c5 ?_)
              case c1 =>
                intro t u ht
                match t, ht with
                | 0, ht => simp at ht; subst ht; simp [Addr.add]
                | 1, ht => simp at ht; subst ht; simp [Addr.add]
                | 2, ht => simp at ht; subst ht; simp [Addr.add]
                | t + 3, ht => simp at ht
              case c2 => intro u hu; simp at hu; rcases hu with rfl | rfl | rfl <;> rfl
              case c3 => unfold maxLen; omega
              case c4 => omega
              case c5 => exact hb3.size
              · intro v' w4 hown' hgrow _
                have hb4 := hb3.trans (below_grown hown2 hb3.size hgrow)
                clear hgrow hown2
                go_wp2
                go_roundw
                case rel =>
                  refine ⟨j + 1, hlt2, by go_num, ?_, hb4⟩
                  rw [HT.out, HF.out, ← List.append_assoc, HK2.out]
                  rw [hS]
                  simpa [encPl] using hown'
                case measure => simp [intOf]; omega
            · have t1 : (q1 == n) = true := by simpa using h1
              have t2 : (q2 == (k : Int)) = false := by simpa using h2
              have HF : Hid ([((q0, q1, q2) : Pl)].filter (kidAt n k) = []) := by show _ = _; simp [kidAt, h2]
              clear h1 h2
              have hown2 := (hown.alloc (Obj.cells #[Value.int IntKind.i64 q0, Value.int IntKind.i64 q1, Value.int IntKind.i64 q2] 36))
              have hb3 := (hb.alloc hb.size (Obj.cells #[Value.int IntKind.i64 q0, Value.int IntKind.i64 q1, Value.int IntKind.i64 q2] 36))
              go_wp2
              go_roundw
              case rel =>
                refine ⟨j + 1, hlt2, by go_num, ?_, hb3⟩
                rw [HT.out, HF.out, List.append_nil, HK2.out]
                exact hown2
              case measure => simp [intOf]; omega
          · have t1 : (q1 == n) = false := by simpa using h1
            have HF : Hid ([((q0, q1, q2) : Pl)].filter (kidAt n k) = []) := by show _ = _; simp [kidAt, h1]
            clear h1
            have hown2 := (hown.alloc (Obj.cells #[Value.int IntKind.i64 q0, Value.int IntKind.i64 q1, Value.int IntKind.i64 q2] 36))
            have hb3 := (hb.alloc hb.size (Obj.cells #[Value.int IntKind.i64 q0, Value.int IntKind.i64 q1, Value.int IntKind.i64 q2] 36))
            go_wp2
            go_roundw
            case rel =>
              refine ⟨j + 1, hlt2, by go_num, ?_, hb3⟩
              rw [HT.out, HF.out, List.append_nil, HK2.out]
              exact hown2
            case measure => simp [intOf]; omega
        · have hj' : l.take j = l := List.take_of_length_le (by omega)
          rw [hj'] at hown
          rw [← HS.out] at hown
          go_wp2
          go_roundw
          case rel => exact ⟨k + 1, hlt, by go_num, hown, hb⟩
          case measure => simp [intOf]; omega
    · have hk' : k = 100 := by omega
      subst hk'
      have hO := own_pls hown
      clear hown
      go_wp2
      go_ret
      refine ⟨_, rfl, ?_, hB.trans (hb.mono (by omega))⟩
      rcases hO with hO | ⟨g, cap, e, h1, h2⟩
      · exact Or.inl hO
      · exact Or.inr ⟨g, cap, e, by omega, h2⟩
end Go.Proofs.Ytaikapbhikhmnaa
