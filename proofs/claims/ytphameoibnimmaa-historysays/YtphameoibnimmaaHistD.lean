/- orangeryref.OpsOf. -/
import Derived.Test.YtphameoibnimmaaHistC
namespace Go.Proofs.Ytphameoibnimmaa
open Go.ChangeShapes Go.WideShapes Go.ChangeAt Go.RowKit
open Orangery (Pl Mv Stp)

set_option maxHeartbeats 1000000 in
set_option maxRecDepth 100000 in
theorem rops_any (w : World) (a : Option Addr) (c : Nat) (l : List Stp) (y : Value) (hl : l.length * 88 ≤ 140737488351232) (h : SlE stC w a l) :
    Calls Try.prog 69 #[hiV (.slice a l.length c) y] w
      fun e w' => ∃ v, e = .returned v ∧ OwnE opC 7 49 w' w.heap.size v (l.map (·.1)) ∧ Below w.heap.size w w' := by
  obtain ⟨i0, hi, hz0, hz1, hz2⟩ := info_parts infoOp
  have hB := Go.Joins.below_alloc1 w (Obj.cells #[Value.slice a l.length c, y] 62)
  have HH : Hid (SlE stC w a l) := h
  clear h
  go_enter Try.func69, Try.ntmps69
  go_wp2
  go_loopw [3, 9] (fun v i W => ∃ k : Nat, k ≤ l.length ∧ i = .int .i64 k ∧ OwnE opC 7 49 W w.heap.size v ((l.take k).map (·.1)) ∧ Below w.heap.size w W) (fun _ i _ => l.length - (intOf i).toNat)
  case atStart => exact ⟨0, Nat.zero_le _, rfl, OwnE.nil _ _, hB⟩
  case round =>
    clear hB
    obtain ⟨k, hk, rfl, hown, hb⟩ := hrel
    by_cases hlt : k < l.length
    · obtain ⟨b, off, rfl, hbl, hr⟩ := (HH.out.below hb).at stC_len k hlt
      obtain ⟨g0, g1, g2, g3, g4, g5, g6, g7, g8, g9, g10⟩ := st_cells hr
      have HT1 : Hid ((l.take (k + 1)).map (·.1) = (l.take k).map (·.1) ++ [l[k].1]) := by show _ = _; rw [List.take_succ_eq_append_getElem hlt, List.map_append]; rfl
      have hlen : ((l.take k).map (·.1)).length = k := by simp; omega
      clear hr
      generalize l[k] = s at *
      obtain ⟨⟨o1, o2, ⟨o3, o4, o5⟩, o6, o7⟩, d, ⟨p1, p2, p3⟩⟩ := s
      simp only at g0 g1 g2 g3 g4 g5 g6 g7 g8 g9 g10
      generalize (l.take k).map (·.1) = K at *
      obtain ⟨W2, hW, hN, hM, hBn, _⟩ := laid2 wr [Value.int IntKind.i64 o1, Value.int IntKind.i64 o2, Value.int IntKind.i64 o3, Value.int IntKind.i64 o4, Value.int IntKind.i64 o5, Value.int IntKind.i64 o6, Value.int IntKind.i64 o7, Value.bool d, Value.int IntKind.i64 p1, Value.int IntKind.i64 p2, Value.int IntKind.i64 p3] 51 [Value.int IntKind.i64 o1, Value.int IntKind.i64 o2, Value.int IntKind.i64 o3, Value.int IntKind.i64 o4, Value.int IntKind.i64 o5, Value.int IntKind.i64 o6, Value.int IntKind.i64 o7] 49
      have hown2 : W2.ownsRow w.heap.size 49 7 u3 K.length (K.flatMap opC) := hown.keep hBn
      have hb2 : Below w.heap.size w W2 := hb.trans (hBn.mono hb.size)
      have HM : Hid (Blk W2 (wr.heap.size + 1) [Value.int IntKind.i64 o1, Value.int IntKind.i64 o2, Value.int IntKind.i64 o3, Value.int IntKind.i64 o4, Value.int IntKind.i64 o5, Value.int IntKind.i64 o6, Value.int IntKind.i64 o7]) := hM
      clear hN hM hBn hown hb
      go_wp2_with (at_builtin; refine wpList_append_own _ rfl _ _ 59 rfl w.heap.size 49 i0 _ 7 56 Try.underlying59 hi hz0 hz1 hz2 rfl (by decide) _ _ _ rfl hown2 ⟨wr.heap.size + 1, 0, none⟩ 1 1 [.int .i64 o1, .int .i64 o2, .int .i64 o3, .int .i64 o4, .int .i64 o5, .int .i64 o6, .int .i64 o7] rfl rfl ?c1 ?c2 ?c3 ?c4 ?c5 ?_)
      case c1 => intro j u hj; exact HM.out.at j hj
      case c2 => exact ⟨rfl, rfl, rfl, rfl, rfl, rfl, rfl⟩
      case c3 => unfold maxLen; omega
      case c4 => omega
      case c5 => have := hb2.size; omega
      · intro v' w4 hown' hgrow _
        have hb4 := hb2.trans (below_grown hown2 hb2.size hgrow)
        clear hgrow hown2
        go_wp2
        go_roundw
        case rel =>
          refine ⟨k + 1, hlt, by go_num, ?_, hb4⟩
          rw [HT1.out]
          show World.ownsRow _ _ _ _ _ _ _
          simpa [opC, hlen] using hown'
        case measure => simp [intOf]; omega
    · have hk' : k = l.length := by omega
      subst hk'
      rw [List.take_of_length_le (Nat.le_refl _)] at hown
      go_wp2
      go_ret
      exact ⟨_, rfl, hown, hb⟩
end Go.Proofs.Ytphameoibnimmaa
