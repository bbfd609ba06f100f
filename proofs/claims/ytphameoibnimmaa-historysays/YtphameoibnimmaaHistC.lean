/- history.operations, orangeryref.OpsOf: the operations of a history. -/
import Derived.Test.YtphameoibnimmaaHistB
import Derived.OwnWalk
import Derived.Deep.DeepCutAuto
namespace Go.Proofs.Ytphameoibnimmaa
open Go.ChangeShapes Go.WideShapes Go.ChangeAt Go.RowKit
open Orangery (Pl Mv Stp)

/-- cells set in a block, one behind the other -/
theorem setCells_block (g : Nat) (t : TypeId) : ∀ (vs : List Value) (o : Nat) (w : World) (cur : Array Value), w.heap[g]? = some (.cells cur t (0, 0)) → o + vs.length ≤ cur.size →
    ∃ cur', (w.setCells g o vs).heap[g]? = some (.cells cur' t (0, 0)) ∧ cur'.size = cur.size ∧ cur'.toList.take (o + vs.length) = cur.toList.take o ++ vs
  | [], o, w, cur, h, _ => ⟨cur, h, rfl, by simp⟩
  | v :: r, o, w, cur, h, hl => by
    have hs := heap_setCell_same w g o cur t v h
    have hlo : o < cur.size := by simp at hl; omega
    obtain ⟨cur', h1, h2, h3⟩ := setCells_block g t r (o + 1) (w.setCell ⟨g, o, none⟩ v) (cur.setIfInBounds o v) hs (by simp at hl ⊢; omega)
    refine ⟨cur', h1, by simpa using h2, ?_⟩
    have e : o + (v :: r).length = o + 1 + r.length := by simp; omega
    rw [e, h3, Array.toList_setIfInBounds]
    have e2 : (cur.toList.set o v).take (o + 1) = cur.toList.take o ++ [v] := by
      rw [List.take_succ_eq_append_getElem (by simpa using hlo), List.take_set_of_le (Nat.le_refl _)]
      simp
    rw [e2, List.append_assoc]
    rfl

theorem there_block {w : World} {g : Nat} {t : TypeId} {cur : Array Value} (h : w.heap[g]? = some (.cells cur t (0, 0))) (o n : Nat) (hl : o + n ≤ cur.size) : w.there g o n := by
  intro j hj
  refine ⟨?_, Go.Joins.unfrozen_of_block h _⟩
  rw [Go.Joins.cell_of_block h, Array.getElem?_eq_getElem (by omega)]
  rfl

theorem there_at {w : World} {g o n : Nat} (h : w.there g o n) (j : Nat) (hj : j < n) : ∃ u, w.cell? ⟨g, o + j, none⟩ = some u := Option.isSome_iff_exists.1 (h j hj).1

set_option maxHeartbeats 1000000 in
set_option maxRecDepth 100000 in
theorem hops_any (w : World) (a : Option Addr) (c : Nat) (l : List Stp) (y : Value) (hl : l.length * 88 ≤ 140737488351232) (h : SlE stC w a l) :
    Calls Try.prog 67 #[hiV (.slice a l.length c) y] w
      fun e w' => ∃ v, e = .returned v ∧ OwnE opC 7 49 w' w.heap.size v (l.map (·.1)) ∧ Below w.heap.size w w' := by
  obtain ⟨i0, hi, hz0, hz1, hz2⟩ := info_parts infoOp
  have hB := Go.Joins.below_alloc1 w (Obj.cells #[Value.slice a l.length c, y] 62)
  have HH : Hid (SlE stC w a l) := h
  clear h
  go_enter Try.func67, Try.ntmps67
  go_wp2_with (at_make; refine wpList_make_full _ rfl _ _ 59 rfl w.heap.size 49 i0 _ 7 Try.underlying59 hi hz0 hz1 .i64 .i64 _ _ l.length rfl rfl rfl rfl ?c1 ?c2 ?c3 ?_)
  case c1 => rw [hz2]; omega
  case c2 => unfold maxLen; omega
  case c3 => exact hB.size
  intro w1 hown hgrow
  have hb1 : Below w.heap.size w w1 := hB.trans (below_grown (v := .slice none 0 0) (World.ownsRow_nil _ _ 49 7) hB.size hgrow)
  have hbx := (Blk.new w [Value.slice a l.length c, y] 62).grown hgrow (by simp)
  obtain ⟨cur0, hcur0, hsz0⟩ : ∃ cur, w1.heap[w.heap.size + 1]? = some (.cells cur 49 (0, 0)) ∧ cur.size = l.length * 7 := by
    rcases hown.2 with ⟨h', _⟩ | ⟨g, cap, cur, h', _, hh, _, _, hs, _⟩
    · simp at h'
    · simp at h'
      obtain ⟨rfl, rfl⟩ := h'
      exact ⟨cur, hh, hs⟩
  have t0 := hbx.at 0 rfl
  clear hown hgrow hB hbx
  go_wp2
  go_loopw [13] (fun i W => ∃ (k : Nat) (cur : Array Value), k ≤ l.length ∧ i = .int .i64 k ∧ W.heap[w.heap.size + 1]? = some (.cells cur 49 (0, 0)) ∧ cur.size = l.length * 7 ∧ cur.toList.take (k * 7) = ((l.take k).map (·.1)).flatMap opC ∧ Below w.heap.size w W) (fun i _ => l.length - (intOf i).toNat)
  case atStart => exact ⟨0, cur0, Nat.zero_le _, rfl, hcur0, hsz0, by simp, hb1⟩
  case round =>
    clear hcur0 hsz0 hb1 t0
    obtain ⟨k, cur, hk, rfl, hcur, hsz, htk, hb⟩ := hrel
    have HTK : Hid (cur.toList.take (k * 7) = ((l.take k).map (·.1)).flatMap opC) := htk
    clear htk
    by_cases hlt : k < l.length
    · obtain ⟨b, off, rfl, hbl, hr⟩ := (HH.out.below hb).at stC_len k hlt
      obtain ⟨g0, g1, g2, g3, g4, g5, g6, g7, g8, g9, g10⟩ := st_cells hr
      have HT1 : Hid (l.take (k + 1) = l.take k ++ [l[k]]) := List.take_succ_eq_append_getElem hlt
      clear hr
      generalize l[k] = s at *
      obtain ⟨⟨o1, o2, ⟨o3, o4, o5⟩, o6, o7⟩, d, ⟨p1, p2, p3⟩⟩ := s
      simp only at g0 g1 g2 g3 g4 g5 g6 g7 g8 g9 g10
      have hgl : w.heap.size + 1 < wr.heap.size := blk_lt hcur
      obtain ⟨W2, hW, hN, hBn, _⟩ := laid1 wr [Value.int IntKind.i64 o1, Value.int IntKind.i64 o2, Value.int IntKind.i64 o3, Value.int IntKind.i64 o4, Value.int IntKind.i64 o5, Value.int IntKind.i64 o6, Value.int IntKind.i64 o7, Value.bool d, Value.int IntKind.i64 p1, Value.int IntKind.i64 p2, Value.int IntKind.i64 p3] 51
      have hcur2 : W2.heap[w.heap.size + 1]? = some (.cells cur 49 (0, 0)) := by rw [hBn.block _ hgl]; exact hcur
      have hle : k * 7 + (opC (o1, o2, (o3, o4, o5), o6, o7)).length ≤ cur.size := by rw [hsz, opC_len]; omega
      obtain ⟨cur', hc1, hc2, hc3⟩ := setCells_block (w.heap.size + 1) 49 (opC (o1, o2, (o3, o4, o5), o6, o7)) (k * 7) _ cur hcur2 hle
      have HTH : Hid (W2.there (w.heap.size + 1) (k * 7) 7) := there_block hcur2 _ _ (by simpa [opC] using hle)
      have HFZ : Hid (∀ j, W2.frozen? ⟨w.heap.size + 1, j, none⟩ = false) := fun j => Go.Joins.unfrozen_of_block hcur2 j
      have HB2 : Hid (Below w.heap.size w W2) := hb.trans (hBn.mono hb.size)
      have HC : Hid ((W2.setCells (w.heap.size + 1) (k * 7) (opC (o1, o2, (o3, o4, o5), o6, o7))).heap[w.heap.size + 1]? = some (.cells cur' 49 (0, 0)) ∧ cur'.size = cur.size ∧ cur'.toList.take (k * 7 + (opC (o1, o2, (o3, o4, o5), o6, o7)).length) = cur.toList.take (k * 7) ++ opC (o1, o2, (o3, o4, o5), o6, o7)) := ⟨hc1, hc2, hc3⟩
      have HSZ : Hid (cur.size = l.length * 7) := hsz
      clear hc1 hc2 hc3 hcur2 hcur hsz hle hBn hb
      go_upto_region 5 with fail
      clear hW g0 g1 g2 g3 g4 g5 g6 g7 g8 g9 g10
      have y0 := hN.at 0 rfl
      have y1 := hN.at 1 rfl
      have y2 := hN.at 2 rfl
      have y3 := hN.at 3 rfl
      have y4 := hN.at 4 rfl
      have y5 := hN.at 5 rfl
      have y6 := hN.at 6 rfl
      clear hN
      go_wp2_with (with_reducible refine at_store 49 ?_; refine wpList_store_mid ?c1 49 (Operand.tmp 22) (Operand.tmp 21) ?c2 (w.heap.size + 1) (k * 7) #[Value.int IntKind.i64 o1, Value.int IntKind.i64 o2, Value.int IntKind.i64 o3, Value.int IntKind.i64 o4, Value.int IntKind.i64 o5, Value.int IntKind.i64 o6, Value.int IntKind.i64 o7] ?c3 ?c4 ?c5 ?c6 ?c7 ?_)
      case c1 => rfl
      case c2 => rfl
      case c3 => rfl
      case c4 => rfl
      case c5 => exact HTH.out
      case c6 => exact sizeOp
      case c7 => exact all_oneCell_toArray (opC_one (o1, o2, (o3, o4, o5), o6, o7))
      go_roundw
      case rel =>
        obtain ⟨hc1, hc2, hc3⟩ := HC.out
        refine ⟨k + 1, cur', hlt, by go_num, hc1, hc2.trans HSZ.out, ?_, ?_⟩
        · rw [HT1.out, List.map_append, List.flatMap_append, ← HTK.out]
          have e : (k + 1) * 7 = k * 7 + (opC (o1, o2, (o3, o4, o5), o6, o7)).length := by rw [opC_len]; omega
          rw [e, hc3]
          simp
        · exact below_sets HB2.out (w.heap.size + 1) (by omega) (opC (o1, o2, (o3, o4, o5), o6, o7)) (k * 7)
      case measure => simp [intOf]; omega
    · have hk' : k = l.length := by omega
      subst hk'
      go_wp2
      go_ret
      refine ⟨_, rfl, ⟨flatE_len opC_len _, Or.inr ⟨w.heap.size + 1, l.length, cur, by simp, by omega, hcur, by simp, by unfold maxLen; omega, hsz, ?_⟩⟩, hb⟩
      have e := HTK.out
      rw [List.take_of_length_le (Nat.le_refl _)] at e
      simpa using e
end Go.Proofs.Ytphameoibnimmaa
