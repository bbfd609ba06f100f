/- 6 texts of the proof: history.operations, orangeryref.OpsOf: the operations of a history. history.Check. hub.New, orangeryref.FreshHub; hub.clone. A hub that is worked into, and what accepts a life and roots. history.Insert. slices.Grow of nothing, slices.Concat at places. -/
import Derived.OwnWalk
import Derived.Deep.DeepCutAuto
import Derived.Lib.AppendZerosOnto
import Derived.Laws.AppendOwnNone
import Derived.Test.YthlhnokgcnieeadGreatP04
import Derived.Test.YthlhnokgcnieeadGreatP09
import Derived.Test.YthlhnokgcnieeadGreatP07
import Derived.Test.YthlhnokgcnieeadGreatP08
import Derived.Test.YthlhnokgcnieeadGreatP03
/- history.operations, orangeryref.OpsOf: the operations of a history. -/
namespace Go.Proofs.YthlhnokgcnieeadGreat
open Go.ChangeShapes Go.WideShapes Go.ChangeAt Go.RowKit
open Orangery (Pl Mv Stp)

/-- cells set in a block, one behind the other -/
theorem setCells_block (g : Nat) (t : TypeId) : ∀ (vs : List Value) (o : Nat) (w : World) (cur : Array Value), w.heap[g]? = some (.cells cur t (0, 0)) → o + vs.length ≤ cur.size →
    ∃ cur', (w.setCells g o vs).heap[g]? = some (.cells cur' t (0, 0)) ∧ cur'.size = cur.size ∧ cur'.toList.take (o + vs.length) = cur.toList.take o ++ vs
  | [], o, w, cur, h, _ => ⟨cur, h, rfl, by simp⟩
  | v :: r, o, w, cur, h, hl => by
    have hs := heap_setCell_same w g o cur t v h
    have hlo : o < cur.size := by simp at hl; omega
    obtain ⟨cur', h1, h2, h3⟩ := setCells_block g t r (o + 1) (w.setCell ⟨g, o, none⟩ v) (cur.setIfInBounds o v) hs (by simp at hl ⊢; omega)
    refine ⟨cur', h1, by simpa using h2, ?_⟩
    have e : o + (v :: r).length = o + 1 + r.length := by simp; omega
    rw [e, h3, Array.toList_setIfInBounds]
    have e2 : (cur.toList.set o v).take (o + 1) = cur.toList.take o ++ [v] := by
      rw [List.take_succ_eq_append_getElem (by simpa using hlo), List.take_set_of_le (Nat.le_refl _)]
      simp
    rw [e2, List.append_assoc]
    rfl

theorem there_block {w : World} {g : Nat} {t : TypeId} {cur : Array Value} (h : w.heap[g]? = some (.cells cur t (0, 0))) (o n : Nat) (hl : o + n ≤ cur.size) : w.there g o n := by
  intro j hj
  refine ⟨?_, Go.Joins.unfrozen_of_block h _⟩
  rw [Go.Joins.cell_of_block h, Array.getElem?_eq_getElem (by omega)]
  rfl

theorem there_at {w : World} {g o n : Nat} (h : w.there g o n) (j : Nat) (hj : j < n) : ∃ u, w.cell? ⟨g, o + j, none⟩ = some u := Option.isSome_iff_exists.1 (h j hj).1

set_option maxHeartbeats 1000000 in
set_option maxRecDepth 100000 in
theorem hops_any (w : World) (a : Option Addr) (c : Nat) (l : List Stp) (y : Value) (hl : l.length * 88 ≤ 140737488351232) (h : SlE stC w a l) :
    Calls Tryz.prog 78 #[hiV (.slice a l.length c) y] w
      fun e w' => ∃ v, e = .returned v ∧ OwnE opC 7 35 w' w.heap.size v (l.map (·.1)) ∧ Below w.heap.size w w' := by
  obtain ⟨i0, hi, hz0, hz1, hz2⟩ := info_parts infoOp
  have hB := Go.Joins.below_alloc1 w (Obj.cells #[Value.slice a l.length c, y] 27)
  have HH : Hid (SlE stC w a l) := h
  clear h
  go_enter Tryz.func78, Tryz.ntmps78
  go_wp2_with (at_make; refine wpList_make_full _ rfl _ _ 58 rfl w.heap.size 35 i0 _ 7 Tryz.underlying58 hi hz0 hz1 .i64 .i64 _ _ l.length rfl rfl rfl rfl ?c1 ?c2 ?c3 ?_)
  case c1 => rw [hz2]; omega
  case c2 => unfold maxLen; omega
  case c3 => exact hB.size
  intro w1 hown hgrow
  have hb1 : Below w.heap.size w w1 := hB.trans (below_grown (v := .slice none 0 0) (World.ownsRow_nil _ _ 35 7) hB.size hgrow)
  have hbx := (Blk.new w [Value.slice a l.length c, y] 27).grown hgrow (by simp)
  obtain ⟨cur0, hcur0, hsz0⟩ : ∃ cur, w1.heap[w.heap.size + 1]? = some (.cells cur 35 (0, 0)) ∧ cur.size = l.length * 7 := by
    rcases hown.2 with ⟨h', _⟩ | ⟨g, cap, cur, h', _, hh, _, _, hs, _⟩
    · simp at h'
    · simp at h'
      obtain ⟨rfl, rfl⟩ := h'
      exact ⟨cur, hh, hs⟩
  have t0 := hbx.at 0 rfl
  clear hown hgrow hB hbx
  go_wp2
  go_loopw [13] (fun i W => ∃ (k : Nat) (cur : Array Value), k ≤ l.length ∧ i = .int .i64 k ∧ W.heap[w.heap.size + 1]? = some (.cells cur 35 (0, 0)) ∧ cur.size = l.length * 7 ∧ cur.toList.take (k * 7) = ((l.take k).map (·.1)).flatMap opC ∧ Below w.heap.size w W) (fun i _ => l.length - (intOf i).toNat)
  case atStart => exact ⟨0, cur0, Nat.zero_le _, rfl, hcur0, hsz0, by simp, hb1⟩
  case round =>
    clear hcur0 hsz0 hb1 t0
    obtain ⟨k, cur, hk, rfl, hcur, hsz, htk, hb⟩ := hrel
    have HTK : Hid (cur.toList.take (k * 7) = ((l.take k).map (·.1)).flatMap opC) := htk
    clear htk
    by_cases hlt : k < l.length
    · obtain ⟨b, off, rfl, hbl, hr⟩ := (HH.out.below hb).at stC_len k hlt
      obtain ⟨g0, g1, g2, g3, g4, g5, g6, g7, g8, g9, g10⟩ := st_cells hr
      have HT1 : Hid (l.take (k + 1) = l.take k ++ [l[k]]) := List.take_succ_eq_append_getElem hlt
      clear hr
      generalize l[k] = s at *
      obtain ⟨⟨o1, o2, ⟨o3, o4, o5⟩, o6, o7⟩, d, ⟨p1, p2, p3⟩⟩ := s
      simp only at g0 g1 g2 g3 g4 g5 g6 g7 g8 g9 g10
      have hgl : w.heap.size + 1 < wr.heap.size := blk_lt hcur
      obtain ⟨W2, hW, hN, hBn, _⟩ := laid1 wr [Value.int IntKind.i64 o1, Value.int IntKind.i64 o2, Value.int IntKind.i64 o3, Value.int IntKind.i64 o4, Value.int IntKind.i64 o5, Value.int IntKind.i64 o6, Value.int IntKind.i64 o7, Value.bool d, Value.int IntKind.i64 p1, Value.int IntKind.i64 p2, Value.int IntKind.i64 p3] 95
      have hcur2 : W2.heap[w.heap.size + 1]? = some (.cells cur 35 (0, 0)) := by rw [hBn.block _ hgl]; exact hcur
      have hle : k * 7 + (opC (o1, o2, (o3, o4, o5), o6, o7)).length ≤ cur.size := by rw [hsz, opC_len]; omega
      obtain ⟨cur', hc1, hc2, hc3⟩ := setCells_block (w.heap.size + 1) 35 (opC (o1, o2, (o3, o4, o5), o6, o7)) (k * 7) _ cur hcur2 hle
      have HTH : Hid (W2.there (w.heap.size + 1) (k * 7) 7) := there_block hcur2 _ _ (by simpa [opC] using hle)
      have HFZ : Hid (∀ j, W2.frozen? ⟨w.heap.size + 1, j, none⟩ = false) := fun j => Go.Joins.unfrozen_of_block hcur2 j
      have HB2 : Hid (Below w.heap.size w W2) := hb.trans (hBn.mono hb.size)
      have HC : Hid ((W2.setCells (w.heap.size + 1) (k * 7) (opC (o1, o2, (o3, o4, o5), o6, o7))).heap[w.heap.size + 1]? = some (.cells cur' 35 (0, 0)) ∧ cur'.size = cur.size ∧ cur'.toList.take (k * 7 + (opC (o1, o2, (o3, o4, o5), o6, o7)).length) = cur.toList.take (k * 7) ++ opC (o1, o2, (o3, o4, o5), o6, o7)) := ⟨hc1, hc2, hc3⟩
      have HSZ : Hid (cur.size = l.length * 7) := hsz
      clear hc1 hc2 hc3 hcur2 hcur hsz hle hBn hb
      go_upto_region 5 with fail
      clear hW g0 g1 g2 g3 g4 g5 g6 g7 g8 g9 g10
      have y0 := hN.at 0 rfl
      have y1 := hN.at 1 rfl
      have y2 := hN.at 2 rfl
      have y3 := hN.at 3 rfl
      have y4 := hN.at 4 rfl
      have y5 := hN.at 5 rfl
      have y6 := hN.at 6 rfl
      clear hN
      go_wp2_with (with_reducible refine at_store 35 ?_; refine wpList_store_mid ?c1 35 (Operand.tmp 22) (Operand.tmp 21) ?c2 (w.heap.size + 1) (k * 7) #[Value.int IntKind.i64 o1, Value.int IntKind.i64 o2, Value.int IntKind.i64 o3, Value.int IntKind.i64 o4, Value.int IntKind.i64 o5, Value.int IntKind.i64 o6, Value.int IntKind.i64 o7] ?c3 ?c4 ?c5 ?c6 ?c7 ?_)
      case c1 => rfl
      case c2 => rfl
      case c3 => rfl
      case c4 => rfl
      case c5 => exact HTH.out
      case c6 => exact sizeOp
      case c7 => exact all_oneCell_toArray (opC_one (o1, o2, (o3, o4, o5), o6, o7))
      go_roundw
      case rel =>
        obtain ⟨hc1, hc2, hc3⟩ := HC.out
        refine ⟨k + 1, cur', hlt, by go_num, hc1, hc2.trans HSZ.out, ?_, ?_⟩
        · rw [HT1.out, List.map_append, List.flatMap_append, ← HTK.out]
          have e : (k + 1) * 7 = k * 7 + (opC (o1, o2, (o3, o4, o5), o6, o7)).length := by rw [opC_len]; omega
          rw [e, hc3]
          simp
        · exact below_sets HB2.out (w.heap.size + 1) (by omega) (opC (o1, o2, (o3, o4, o5), o6, o7)) (k * 7)
      case measure => simp [intOf]; omega
    · have hk' : k = l.length := by omega
      subst hk'
      go_wp2
      go_ret
      refine ⟨_, rfl, ⟨flatE_len opC_len _, Or.inr ⟨w.heap.size + 1, l.length, cur, by simp, by omega, hcur, by simp, by unfold maxLen; omega, hsz, ?_⟩⟩, hb⟩
      have e := HTK.out
      rw [List.take_of_length_le (Nat.le_refl _)] at e
      simpa using e
end Go.Proofs.YthlhnokgcnieeadGreat

/- history.Check. -/
namespace Go.Proofs.YthlhnokgcnieeadGreat
open Go.ChangeShapes Go.WideShapes Go.ChangeAt Go.RowKit
open Orangery (Pl Mv Stp check checkOp foldE foldL foldT histE sameB)

theorem sameB_comm (l m : List Stp) (t u : List Pl) : sameB l m t u = sameB m l u t := by
  rw [Bool.eq_iff_iff, Orangery.sameB_iff, Orangery.sameB_iff]
  constructor <;> rintro ⟨rfl, rfl⟩ <;> exact ⟨rfl, rfl⟩
theorem histE_bad {l : List Stp} {t : List Pl} {m : List Mv} (hm : l.map (·.1) = m) (h : foldE m ≠ 0) : histE l t = foldE m := by subst hm; unfold histE; rw [if_pos h]
theorem histE_ok {l : List Stp} {t : List Pl} {m : List Mv} (hm : l.map (·.1) = m) (h : foldE m = 0) : histE l t = if sameB l (foldL m) t (foldT m) = true then 0 else 4 := by
  subst hm
  unfold histE
  rw [if_neg (by simp [h]), sameB_comm]

theorem foldL_len (m : List Mv) : (foldL m).length ≤ 30 := by
  by_cases h : foldE m = 0
  · rw [(Orangery.fold_ok h).2.2.2.1]; exact ((Orangery.foldE_zero m).1 h).1
  · rw [(Orangery.fold_err h).1]; simp
theorem foldT_len (m : List Mv) : (foldT m).length ≤ 15 := by
  by_cases h : foldE m = 0
  · exact Orangery.check_len _ (Orangery.fold_ok h).2.2.2.2
  · rw [(Orangery.fold_err h).2]; simp

set_option maxHeartbeats 2000000 in
set_option maxRecDepth 100000 in
theorem hcheck_any (w : World) (a p : Option Addr) (c d : Nat) (l : List Stp) (t : List Pl) (hl : l.length * 88 ≤ 140737488351232) (ht : t.length ≤ maxLen) (h1 : SlE stC w a l) (h3 : SlP w p t) :
    Calls Tryz.prog 41 #[hiV (.slice a l.length c) (.slice p t.length d)] w
      fun e w' => e = .returned (.int .i64 (histE l t)) ∧ Below w.heap.size w w' := by
  obtain ⟨W0, hW, hH, hB, hS⟩ := laid1 w [Value.slice a l.length c, Value.slice p t.length d] 27
  have hP := h1.below hB
  have hT := h3.below hB
  have x0 := hH.at 0 rfl
  have x1 := hH.at 1 rfl
  have HB : Hid (Below w.heap.size w W0) := hB
  have hlen : (l.map (·.1)).length ≤ maxLen := by simp; unfold maxLen; omega
  clear h1 h3 hB
  go_enter Tryz.func41, Tryz.ntmps41
  go_wp2_with fail
  refine (hops_any W0 a c l (.slice p t.length d) hl hP).mono ?_
  rintro e w1 ⟨v1, rfl, hO1, hb1⟩
  obtain ⟨a1, c1, rfl, hP1, hc1⟩ := hO1.val
  have hH1 := hH.keep hb1
  have hPa := hP.below hb1
  have hTa := hT.below hb1
  have HB1 : Hid (Below w.heap.size w w1) := HB.out.trans (hb1.mono HB.out.size)
  generalize hm : l.map (·.1) = m at *
  have HM : Hid (l.map (·.1) = m) := hm
  clear hm hO1 hb1 hH hP hT HB hS hW x0 x1
  go_wp2_with fail
  refine (fold_any w1 a1 c1 m hlen hc1 hP1).mono ?_
  rintro e w2 ⟨vL, vT, rfl, hL2, hT2, hb2⟩
  obtain ⟨aT, cT, rfl⟩ := hT2.val
  obtain ⟨aL, cL, rfl, hPL, _⟩ := hL2.val
  have hPT := hT2.read
  have hH2 := hH1.keep hb2
  have hPb := hPa.below hb2
  have hTb := hTa.below hb2
  have HB2 : Hid (Below w.heap.size w w2) := HB1.out.trans (hb2.mono HB1.out.size)
  have hLl := foldL_len m
  have hTl := foldT_len m
  clear hL2 hT2 hP1 hPa hTa HB1 hH1 hb2 hlen hc1
  by_cases hz : foldE m = 0
  · have HE : Hid (histE l t = if sameB l (foldL m) t (foldT m) = true then 0 else 4) := histE_ok HM.out hz
    rw [hz]
    clear hz HM
    generalize foldL m = L at *
    generalize foldT m = T at *
    obtain ⟨W3, hW3, hN, hBn, _⟩ := laid1 w2 [Value.slice aL L.length cL, Value.slice aT T.length cT] 27
    have hH3 := hH2.keep hBn
    have x0 := hH3.at 0 rfl
    have x1 := hH3.at 1 rfl
    have y0 := hN.at 0 rfl
    have y1 := hN.at 1 rfl
    have hl2 : l.length ≤ maxLen := by unfold maxLen; omega
    have HB3 : Hid (Below w.heap.size w W3) := HB2.out.trans (hBn.mono HB2.out.size)
    have hPL3 := hPL.below hBn
    have hPT3 := hPT.below hBn
    have hPb3 := hPb.below hBn
    have hTb3 := hTb.below hBn
    clear hH2 hH3 hN hBn hPL hPT hPb hTb HB2
    go_wp2_with fail
    refine (same_any W3 a aL p aT c cL d cT l L t T hl2 ht hPb3 hPL3 hTb3 hPT3).mono ?_
    rintro e w4 ⟨rfl, hb4⟩
    have HB4 : Hid (Below w.heap.size w w4) := HB3.out.trans (hb4.mono HB3.out.size)
    clear hb4 hPL3 hPT3 hPb3 hTb3 HB3 x0 x1 y0 y1
    cases hq : sameB l L t T
    · go_wp2
      go_ret
      exact ⟨ret_int (by rw [HE.out, hq]; rfl), HB4.out⟩
    · go_wp2
      go_ret
      exact ⟨ret_int (by rw [HE.out, hq]; rfl), HB4.out⟩
  · have hz' : (foldE m != 0) = true := by simpa using hz
    have HE : Hid (histE l t = foldE m) := histE_bad HM.out hz
    have HBx : Hid (Below w.heap.size w (w2.alloc (.cells #[Value.slice aL (foldL m).length cL, Value.slice aT (foldT m).length cT] 27))) := HB2.out.alloc HB2.out.size _
    clear hz HM
    generalize foldE m = E at *
    go_wp2
    go_ret
    exact ⟨ret_int (by rw [HE.out]), HBx.out⟩
end Go.Proofs.YthlhnokgcnieeadGreat

/- hub.New, orangeryref.FreshHub; hub.clone. -/
namespace Go.Proofs.YthlhnokgcnieeadGreat
open Go.ChangeShapes Go.WideShapes Go.ChangeAt Go.RowKit
open Orangery (Pl Mv Stp Rc Pr Hb peerE peersE rootsOk hubE histE newHb)

/-- what hub.clone leaves -/
def Cloned (w : World) (h : Hb) (e : Ending) (w' : World) : Prop :=
  ∃ g cap a c p d X, e = .returned (huV (.slice a h.1.1.length c) (.slice p h.1.2.length d) h.2.1 (.slice (some ⟨g, 0, none⟩) 3 cap)) ∧ w.heap.size ≤ g ∧ Row3 w' g X ∧ X.map (·.1) = h.2.2 ∧ SlE stC w' a h.1.1 ∧ SlP w' p h.1.2 ∧ OffL g a h.1.1 ∧ OffL g p h.1.2 ∧ (InL (w.heap.size ≤ ·) a h.1.1 ∧ InL (w.heap.size ≤ ·) p h.1.2 ∧ ∀ x ∈ X, InL (w.heap.size ≤ ·) x.2.1 x.1.2.2) ∧ Below w.heap.size w w'

theorem hub_few {h : Hb} (hok : hubE h = 0) : h.1.1.length ≤ 30 ∧ h.1.2.length ≤ 30 ∧ h.2.2.length = 3 ∧ ∀ p ∈ h.2.2, p.2.2.length ≤ 4 := by
  obtain ⟨h1, _, h3, h4⟩ := (Orangery.hubE_zero h).1 hok
  have h6 : Orangery.foldE (h.1.1.map (·.1)) = 0 := by
    unfold histE at h1
    split at h1
    · contradiction
    · rename_i h7
      simpa using h7
  rw [histE_ok rfl h6] at h1
  have h7 : Orangery.sameB h.1.1 (Orangery.foldL (h.1.1.map (·.1))) h.1.2 (Orangery.foldT (h.1.1.map (·.1))) = true := by
    split at h1
    · assumption
    · omega
  obtain ⟨e2, e3⟩ := (Orangery.sameB_iff _ _ _ _).1 h7
  have g2 := foldL_len (h.1.1.map (·.1))
  have g3 := foldT_len (h.1.1.map (·.1))
  refine ⟨by rw [e2]; exact g2, by rw [e3]; omega, h3, ?_⟩
  · intro p hp
    have h5 := h4 p hp
    refine Orangery.rootsOk_len ?_
    unfold peerE at h5
    split at h5
    · omega
    · split at h5
      · omega
      · exact h5
theorem map_set_same {X : List Pm} {P : List Pr} (h : X.map (·.1) = P) (k : Nat) (hk : k < X.length) (x : Pm) (hx : x.1 = X[k].1) : (X.set k x).map (·.1) = P := by
  rw [List.map_set, h, hx]
  subst h
  apply List.ext_getElem?
  intro j
  rw [List.getElem?_set]
  by_cases hj : k = j
  · subst hj; simp [hk]
  · simp [hj]

set_option maxHeartbeats 2000000 in
set_option maxRecDepth 100000 in
theorem uclone_any (w : World) (v : Value) (h : Hb) (hok : hubE h = 0) (hh : HuIs w v h) : Calls Tryz.prog 30 #[v] w (Cloned w h) := by
  obtain ⟨a, c, p, d, q, gc, X, rfl, hX⟩ := hh
  obtain ⟨f1, f2, f3, f4⟩ := hub_few hok
  have hl3 : X.length = 3 := by rw [← hX.are] at f3; simpa using f3
  have HF4 : Hid (∀ p ∈ h.2.2, p.2.2.length ≤ 4) := f4
  rw [hl3]
  have HL3 := Lib.hid hl3
  have HX := Lib.hid hX
  have HGOAL : Hid (∀ e w', (∃ g cap a c p d X, e = .returned (huV (.slice a h.1.1.length c) (.slice p h.1.2.length d) h.2.1 (.slice (some ⟨g, 0, none⟩) 3 cap)) ∧ w.heap.size ≤ g ∧ Row3 w' g X ∧ X.map (·.1) = h.2.2 ∧ SlE stC w' a h.1.1 ∧ SlP w' p h.1.2 ∧ OffL g a h.1.1 ∧ OffL g p h.1.2 ∧ (InL (w.heap.size ≤ ·) a h.1.1 ∧ InL (w.heap.size ≤ ·) p h.1.2 ∧ ∀ x ∈ X, InL (w.heap.size ≤ ·) x.2.1 x.1.2.2) ∧ Below w.heap.size w w') → Cloned w h e w') := fun e w' h => h
  clear hX f3 f4 hok hl3
  obtain ⟨⟨L, T⟩, n, P⟩ := h
  simp only at f1 f2
  go_enter Tryz.func30, Tryz.ntmps30
  go_wp2_with fail
  obtain ⟨W0, hW, hA, hC, hB, hZ⟩ := laid2 w [Value.slice a L.length c, .slice p T.length d, .int .i64 n, .slice q 3 gc] 30 [Value.slice none 0 0, .slice none 0 0, .int .i64 0, .slice none 0 0] 30
  rw [hW]
  clear hW
  refine (cloneSteps_any W0 a c L (by omega) (HX.out.keep hB).steps).mono ?_
  rintro e w1 ⟨vL, rfl, hL, hb⟩
  obtain ⟨aL, cL, rfl, hLr, -⟩ := hL.val
  have hA1 := (hA.keep hb).set 0 (by simp) (.slice aL L.length cL)
  have hC1 := (hC.keep hb).other (by omega : w.heap.size + 1 ≠ w.heap.size) 0 (.slice aL L.length cL)
  have HOL : Hid (OffL w.heap.size aL L) := row_off hL.row hA.lt
  have HIL : Hid (InL (w.heap.size ≤ ·) aL L) := (row_in hL.row).imp (fun b hb => by have := hB.size; omega)
  have HOL1 : Hid (OffL (w.heap.size + 1) aL L) := row_off hL.row hC.lt
  have hL1 : SlE stC (w1.setCell ⟨w.heap.size, 0, none⟩ (.slice aL L.length cL)) aL L := hLr.sets HOL.out [_] 0
  have HB1 : Hid (Below w.heap.size w (w1.setCell ⟨w.heap.size, 0, none⟩ (.slice aL L.length cL))) := below_sets (hB.trans (hb.mono hB.size)) w.heap.size (Nat.le_refl _) [_] 0
  have fz1 := (hA.keep hb).frz
  have k1 := (hA.keep hb).at 0 rfl
  have k2 := (hA.keep hb).at 1 rfl
  clear hA hC hL hLr hb hB hZ
  go_wp2_with fail
  clear fz1 k1 k2
  generalize w1.setCell ⟨w.heap.size, 0, none⟩ (.slice aL L.length cL) = W2 at *
  simp only [List.set_cons_zero] at hA1
  refine (clone_any W2 p d T (by omega) (HX.out.keep HB1.out).places).mono ?_
  rintro e w3 ⟨vT, rfl, hT, hb⟩
  obtain ⟨aT, cT, rfl⟩ := hT.val
  have hA2 := (hA1.keep hb).set 1 (by simp) (.slice aT T.length cT)
  have hC2 := (hC1.keep hb).other (by omega : w.heap.size + 1 ≠ w.heap.size) 1 (.slice aT T.length cT)
  have hL2 : SlE stC (w3.setCell ⟨w.heap.size, 1, none⟩ (.slice aT T.length cT)) aL L := (hL1.below hb).sets HOL.out [_] 1
  have HOT : Hid (OffL w.heap.size aT T) := row_off hT.row hA1.lt
  have HIT : Hid (InL (w.heap.size ≤ ·) aT T) := (row_in hT.row).imp (fun b hb => by have := HB1.out.size; omega)
  have HOT1 : Hid (OffL (w.heap.size + 1) aT T) := row_off hT.row hC1.lt
  have hT2 : SlP (w3.setCell ⟨w.heap.size, 1, none⟩ (.slice aT T.length cT)) aT T := hT.read.sets HOT.out [_] 1
  have HB2 : Hid (Below w.heap.size w (w3.setCell ⟨w.heap.size, 1, none⟩ (.slice aT T.length cT))) := below_sets (HB1.out.trans (hb.mono HB1.out.size)) w.heap.size (Nat.le_refl _) [_] 1
  have fz1 := (hA1.keep hb).frz
  have k1 := (hA1.keep hb).at 1 rfl
  have k2 := (hA1.keep hb).at 3 rfl
  clear hA1 hC1 hL1 hT hb HB1
  go_wp2_with fail
  clear fz1 k1 k2
  generalize w3.setCell ⟨w.heap.size, 1, none⟩ (.slice aT T.length cT) = W4 at *
  simp only [List.set_cons_zero, List.set_cons_succ] at hA2
  refine (clonePeers3_any W4 q gc X HL3.out (HX.out.keep HB2.out).peers.reads).mono ?_
  rintro e w5 ⟨g, cap, rfl, hG, hg, hb⟩
  have hlt : w.heap.size + 1 < W4.heap.size := hC2.lt
  have hA3 := (hA2.keep hb).set 3 (by simp) (.slice (some ⟨g, 0, none⟩) 3 cap)
  have hC3 := (hC2.keep hb).other (by omega : w.heap.size + 1 ≠ w.heap.size) 3 (.slice (some ⟨g, 0, none⟩) 3 cap)
  have hL3 : SlE stC (w5.setCell ⟨w.heap.size, 3, none⟩ (.slice (some ⟨g, 0, none⟩) 3 cap)) aL L := (hL2.below hb).sets HOL.out [_] 3
  have HOLg : Hid (OffL g aL L) := hL2.off hg
  have HOTg : Hid (OffL g aT T) := hT2.off hg
  have hT3 : SlP (w5.setCell ⟨w.heap.size, 3, none⟩ (.slice (some ⟨g, 0, none⟩) 3 cap)) aT T := (hT2.below hb).sets HOT.out [_] 3
  have HB3 : Hid (Below w.heap.size w (w5.setCell ⟨w.heap.size, 3, none⟩ (.slice (some ⟨g, 0, none⟩) 3 cap))) := below_sets (HB2.out.trans (hb.mono HB2.out.size)) w.heap.size (Nat.le_refl _) [_] 3
  have hg1 : w.heap.size + 1 < g := by omega
  have hR3 : Row3 (w5.setCell ⟨w.heap.size, 3, none⟩ (.slice (some ⟨g, 0, none⟩) 3 cap)) g X := by
    refine ⟨hG.other (by omega) 3 _, HL3.out, fun x hx => ?_, fun x hx => ?_⟩
    · exact (HX.out.peers.roots x hx).keep HB3.out
    · exact (HX.out.peers.roots x hx).1.off (by have := HB2.out.size; omega)
  have fz1 := (hA2.keep hb).frz
  have k1 := (hA2.keep hb).at 3 rfl
  have HM := Lib.hid HX.out.are
  have HOR : Hid (∀ x ∈ X, OffL (w.heap.size + 1) x.2.1 x.1.2.2) := fun x hx => (HX.out.peers.roots x hx).1.off (by omega)
  have HGS := Lib.hid hg
  clear hA2 hC2 hL2 hT2 hb HB2 hG hg hlt HX
  go_wp2_with fail
  clear fz1 k1
  generalize w5.setCell ⟨w.heap.size, 3, none⟩ (.slice (some ⟨g, 0, none⟩) 3 cap) = W6 at *
  simp only [List.set_cons_zero, List.set_cons_succ] at hA3
  go_loopw [26] (fun i W => ∃ (k : Nat) (Y : List Pm), k ≤ 3 ∧ i = .int .i64 k ∧ Row3 W g Y ∧ Y.map (·.1) = P ∧ Blk W w.heap.size [.slice aL L.length cL, .slice aT T.length cT, .int .i64 n, .slice (some ⟨g, 0, none⟩) 3 cap] ∧ Blk W (w.heap.size + 1) [.slice none 0 0, .slice none 0 0, .int .i64 0, .slice none 0 0] ∧ SlE stC W aL L ∧ SlP W aT T ∧ (∀ x ∈ Y, OffL (w.heap.size + 1) x.2.1 x.1.2.2) ∧ (∀ j, (hj : j < Y.length) → j < k → InL (w.heap.size ≤ ·) Y[j].2.1 Y[j].1.2.2) ∧ Below w.heap.size w W) (fun i _ => 3 - (intOf i).toNat)
  case atStart => exact ⟨0, X, by omega, rfl, hR3, HM.out, hA3, hC3, hL3, hT3, HOR.out, fun j _ hj => absurd hj (Nat.not_lt_zero _), HB3.out⟩
  case round =>
    obtain ⟨k, Y, hk, rfl, hR, hM, hA, hC, hLr, hTr, hor, hin, hb⟩ := hrel
    have HORY := Lib.hid hor
    have HINY := Lib.hid hin
    clear hor hin
    have HBr := Lib.hid hb
    have HMY := Lib.hid hM
    clear hR3 hA3 hC3 hL3 hT3 HB3 hb hM HM
    by_cases hlt : k < 3
    case neg =>
      have hk3 : k = 3 := by omega
      have hkk : ((k : Int) < 3) = False := by simp; omega
      have x0 := hA.at 0 rfl
      have x1 := hA.at 1 rfl
      have x2 := hA.at 2 rfl
      have x3 := hA.at 3 rfl
      have rf := hC.frz
      have r0 := hC.at 0 rfl
      have r1 := hC.at 1 rfl
      have r2 := hC.at 2 rfl
      have r3 := hC.at 3 rfl
      go_wp2
      have hRf := hC.sets [Value.slice aL L.length cL, .slice aT T.length cT, .int .i64 n, .slice (some ⟨g, 0, none⟩) 3 cap] rfl
      refine ret_cell Tryz.results30 rfl (hRf.load Tryz.underlying30 rfl sizeHub) ?_
      refine HGOAL.out _ _ ⟨g, cap, aL, cL, aT, cT, Y, rfl, by omega, ?_, HMY.out, ?_, ?_, HOLg.out, HOTg.out, ⟨HIL.out, HIT.out, fun x hx => by obtain ⟨j, hj, rfl⟩ := List.getElem_of_mem hx; exact HINY.out j hj (by have := hR.len; omega)⟩, below_sets HBr.out (w.heap.size + 1) (by omega) [Value.slice aL L.length cL, .slice aT T.length cT, .int .i64 n, .slice (some ⟨g, 0, none⟩) 3 cap] 0⟩
      · exact hR.other (by omega) HORY.out [Value.slice aL L.length cL, .slice aT T.length cT, .int .i64 n, .slice (some ⟨g, 0, none⟩) 3 cap] 0
      · exact hLr.sets HOL1.out [Value.slice aL L.length cL, .slice aT T.length cT, .int .i64 n, .slice (some ⟨g, 0, none⟩) 3 cap] 0
      · exact hTr.sets HOT1.out [Value.slice aL L.length cL, .slice aT T.length cT, .int .i64 n, .slice (some ⟨g, 0, none⟩) 3 cap] 0
    have hkl : k < Y.length := by rw [hR.len]; exact hlt
    have HF : Hid (Y[k].1.2.2.length ≤ 4) := HF4.out _ (by rw [← HMY.out]; exact List.mem_map_of_mem (List.getElem_mem hkl))
    have HPI := Lib.hid (hR.roots _ (List.getElem_mem hkl))
    have HMS : Hid (∀ R a c, R = Y[k].1.2.2 → (Y.set k ((Y[k].1.1, Y[k].1.2.1, R), a, c)).map (·.1) = P) := by
      intro R a c e
      subst e
      exact map_set_same HMY.out k hkl _ rfl
    have HSR : Hid (∀ (W : World) (R : List Int) (a : Option Addr) (c : Nat), Row3 W g Y → SlI W a R → R.length ≤ maxLen → OffL g a R → Row3 (W.setCell ⟨g, k * 3 + 2, none⟩ (.slice a R.length c)) g (Y.set k ((Y[k].1.1, Y[k].1.2.1, R), a, c))) := fun W R a c h1 h2 h3 h4 => h1.setRoots k hkl R a c h2 h3 h4
    have HIN2 : Hid (∀ y : Pm, InL (w.heap.size ≤ ·) y.2.1 y.1.2.2 → ∀ j, (hj : j < (Y.set k y).length) → j < k + 1 → InL (w.heap.size ≤ ·) (Y.set k y)[j].2.1 (Y.set k y)[j].1.2.2) := by
      intro y hy j hj hjk
      rw [List.getElem_set]
      by_cases hjk' : k = j
      · rw [if_pos hjk']; exact hy
      · rw [if_neg hjk']; exact HINY.out j (by simpa using hj) (by omega)
    obtain ⟨g0, g1, g2⟩ := hR.cells k hkl
    generalize Y[k] = y at *
    obtain ⟨⟨f, u, R⟩, ar, cr⟩ := y
    simp only at g0 g1 g2
    have hlti : (k : Int) < 3 := by omega
    have x3 := hA.at 3 rfl
    obtain ⟨W7, hW7, hN, hBn, -⟩ := laid1 wr [Value.int .i64 f, .int .i64 u, .slice ar R.length cr] 52
    have hbn : g < wr.heap.size := hR.blk.lt
    go_upto_region 7 with fail
    clear hW7 g0 g1 g2 x3
    have z3 := (hA.keep hBn).at 3 rfl
    have z2 := hN.at 2 rfl
    refine wp_region_held_drew (S := fun w' => w'.cell? ⟨w.heap.size, 3, none⟩ = some (.slice (some ⟨g, 0, none⟩) 3 cap) ∧ w'.cell? ⟨wr.heap.size, 2, none⟩ = some (.slice ar R.length cr)) (by kernel_rfl) ⟨z3, z2⟩ (fun hHeld => ?_)
    refine take_yes 0 31 (v := ?_) rfl rfl (by kernel_rfl) (by kernel_rfl) (by kernel_rfl) (fun _ _ _ h => h) (by rfl) ?_ hHeld ?_
    rotate_left 1
    · (intro w hSw; obtain ⟨q1, q2⟩ := hSw; go_simp; try with_reducible rfl)
    simp only [Act.put, List.setIfInBounds_toArray, List.set_cons_succ, List.set_cons_zero]
    refine take_yes 1 32 (v := ?_) rfl rfl (by kernel_rfl) (by kernel_rfl) (by kernel_rfl) (fun _ _ _ h => h) (by rfl) ?_ hHeld ?_
    rotate_left 1
    · (intro w hSw; obtain ⟨q1, q2⟩ := hSw; go_simp; try with_reducible rfl)
    simp only [Act.put, List.setIfInBounds_toArray, List.set_cons_succ, List.set_cons_zero]
    refine take_yes 2 33 (v := ?_) rfl rfl (by kernel_rfl) (by kernel_rfl) (by kernel_rfl) (fun _ _ _ h => h) (by rfl) ?_ hHeld ?_
    rotate_left 1
    · (intro w hSw; obtain ⟨q1, q2⟩ := hSw; go_simp; try with_reducible rfl)
    simp only [Act.put, List.setIfInBounds_toArray, List.set_cons_succ, List.set_cons_zero]
    refine take_yes 3 34 (v := ?_) rfl rfl (by kernel_rfl) (by kernel_rfl) (by kernel_rfl) (fun _ _ _ h => h) (by rfl) ?_ hHeld ?_
    rotate_left 1
    · (intro w hSw; obtain ⟨q1, q2⟩ := hSw; go_simp; try with_reducible rfl)
    simp only [Act.put, List.setIfInBounds_toArray, List.set_cons_succ, List.set_cons_zero]
    refine take_yes 4 35 (v := ?_) rfl rfl (by kernel_rfl) (by kernel_rfl) (by kernel_rfl) (fun _ _ _ h => h) (by rfl) ?_ hHeld ?_
    rotate_left 1
    · (intro w hSw; obtain ⟨q1, q2⟩ := hSw; go_simp; try with_reducible rfl)
    simp only [Act.put, List.setIfInBounds_toArray, List.set_cons_succ, List.set_cons_zero]
    refine wpAnyH_ready (rs := [5]) (by kernel_rfl) (by simp) ?_
    refine AllReadyH.cons rfl (fun KK hKK => ?_) AllReadyH.nil
    go_simp
    refine (cloneInts_any W7.drew ar cr R (by have := HF.out; simp only at this; omega) (HPI.out.keep hBn).1).mono ?_
    rintro e w8 ⟨vR, rfl, hOR, hb8⟩
    obtain ⟨aR, cR, rfl, hIR⟩ := hOR.val
    have hb9 : Below wr.heap.size wr w8 := hBn.drew.trans (hb8.mono hBn.size)
    have hR8 := hR.keep hb9
    have hA8 := hA.keep hb9
    have hN8 := hN.drew.keep hb8
    refine hKK.out _ _ (⟨hA8.at 3 rfl, hN8.at 2 rfl⟩) (fun hHeld => ?_)
    clear hKK KK
    refine take_yes 6 37 (v := ?_) rfl rfl (by kernel_rfl) (by kernel_rfl) (by kernel_rfl) (fun _ _ _ h => h) (by rfl) ?_ hHeld ?_
    rotate_left 1
    · (intro w hSw; obtain ⟨q1, q2⟩ := hSw; go_simp; try with_reducible rfl)
    simp only [Act.put, List.setIfInBounds_toArray, List.set_cons_succ, List.set_cons_zero]
    refine take_yes 7 38 (v := ?_) rfl rfl (by kernel_rfl) (by kernel_rfl) (by kernel_rfl) (fun _ _ _ h => h) (by rfl) ?_ hHeld ?_
    rotate_left 1
    · (intro w hSw; obtain ⟨q1, q2⟩ := hSw; go_simp; try with_reducible rfl)
    simp only [Act.put, List.setIfInBounds_toArray, List.set_cons_succ, List.set_cons_zero]
    have hgs : g < W7.drew.heap.size := by have := hBn.size; exact Nat.lt_of_lt_of_le hbn this
    have HOG : Hid (OffL g aR R) := row_off hOR hgs
    have HOG1 : Hid (OffL (w.heap.size + 1) aR R) := row_off hOR (by omega)
    have HIN3 := Lib.hid (HIN2.out ((f, u, R), aR, cR) ((row_in hOR).imp (fun b hb => by omega)))
    have fz8 := hR8.blk.frz (k * 3 + 2)
    obtain ⟨-, -, g8⟩ := hR8.cells k hkl
    have hRS := HSR.out w8 R aR cR hR8 hIR (by have := HF.out; simp only at this; unfold maxLen; omega) HOG.out
    have hAS := hA8.other (by omega : w.heap.size ≠ g) (k * 3 + 2) (.slice aR R.length cR)
    have hNS := hN8.other (by omega : wr.heap.size ≠ g) (k * 3 + 2) (.slice aR R.length cR)
    have hCS := (hC.keep hb9).other (by omega : w.heap.size + 1 ≠ g) (k * 3 + 2) (.slice aR R.length cR)
    have hLS : SlE stC (w8.setCell ⟨g, k * 3 + 2, none⟩ (.slice aR R.length cR)) aL L := (hLr.below hb9).sets HOLg.out [_] _
    have hTS : SlP (w8.setCell ⟨g, k * 3 + 2, none⟩ (.slice aR R.length cR)) aT T := (hTr.below hb9).sets HOTg.out [_] _
    have HBS : Hid (Below w.heap.size w (w8.setCell ⟨g, k * 3 + 2, none⟩ (.slice aR R.length cR))) := below_sets (HBr.out.trans (hb9.mono HBr.out.size)) g (by omega) [_] _
    have HOS : Hid (∀ x ∈ Y.set k ((f, u, R), aR, cR), OffL (w.heap.size + 1) x.2.1 x.1.2.2) := by
      intro x hx
      rcases List.mem_or_eq_of_mem_set hx with hx | rfl
      · exact HORY.out x hx
      · exact HOG1.out
    clear hA hC hLr hTr hR hOR hIR hb8 hb9 hA8 hN8 hR8 hN hBn
    refine wpAnyH_ready (rs := [8]) (by kernel_rfl) (by simp) ?_
    refine AllReadyH.cons rfl (fun KK hKK => ?_) AllReadyH.nil
    go_simp
    refine hKK.out _ _ (⟨hAS.at 3 rfl, hNS.at 2 rfl⟩) (fun hHeld => ?_)
    clear hKK KK
    refine wpAnyH_done (by kernel_rfl) ?_ _
    clear hHeld hNS fz8 g8 z3 z2
    generalize w8.setCell ⟨g, k * 3 + 2, none⟩ (.slice aR R.length cR) = W9 at *
    go_wp2
    go_roundw
    case rel => exact ⟨k + 1, _, by omega, by go_num, hRS, HMS.out R aR cR rfl, hAS, hCS, hLS, hTS, HOS.out, HIN3.out, HBS.out⟩
    case measure => simp [intOf]; omega
end Go.Proofs.YthlhnokgcnieeadGreat

/- A hub that is worked into, and what accepts a life and roots. -/
namespace Go.Proofs.YthlhnokgcnieeadGreat
open Go.ChangeShapes Go.WideShapes Go.ChangeAt Go.RowKit
open Orangery (Pl Mv Stp Rc Pr Hb peerE peersE rootsOk hubE histE newHb prOf stepE stepH)

/-- a hub in a box, its peers in a row beside it -/
structure BoxAt (B : Nat) (W : World) (nb g cap : Nat) (a : Option Addr) (c : Nat) (p : Option Addr) (d : Nat) (X : List Pm) (h : Hb) : Prop where
  blk : Blk W nb [.slice a h.1.1.length c, .slice p h.1.2.length d, .int .i64 h.2.1, .slice (some ⟨g, 0, none⟩) 3 cap]
  row : Row3 W g X
  are : X.map (·.1) = h.2.2
  steps : SlE stC W a h.1.1
  places : SlP W p h.1.2
  off1 : OffL g a h.1.1
  off2 : OffL nb a h.1.1
  off3 : OffL g p h.1.2
  off4 : OffL nb p h.1.2
  off5 : ∀ x ∈ X, OffL nb x.2.1 x.1.2.2
  ne : nb ≠ g
  new1 : InL (B ≤ ·) a h.1.1
  new2 : InL (B ≤ ·) p h.1.2
  new3 : ∀ x ∈ X, InL (B ≤ ·) x.2.1 x.1.2.2
def Box (B : Nat) (W : World) (nb g cap : Nat) (h : Hb) : Prop := ∃ a c p d X, BoxAt B W nb g cap a c p d X h
theorem BoxAt.keep {B : Nat} {W W' : World} {nb g cap : Nat} {a p : Option Addr} {c d : Nat} {X : List Pm} {h : Hb} (hx : BoxAt B W nb g cap a c p d X h) (hb : Below W.heap.size W W') : BoxAt B W' nb g cap a c p d X h :=
  ⟨hx.blk.keep hb, hx.row.keep hb, hx.are, hx.steps.below hb, hx.places.below hb, hx.off1, hx.off2, hx.off3, hx.off4, hx.off5, hx.ne, hx.new1, hx.new2, hx.new3⟩
/-- the row is written -/
theorem BoxAt.peers {B : Nat} {W : World} {nb g cap : Nat} {a p : Option Addr} {c d : Nat} {X Y : List Pm} {h : Hb} (hx : BoxAt B W nb g cap a c p d X h) (us : List Value) (o : Nat) (hR : Row3 (W.setCells g o us) g Y) (ho : ∀ x ∈ Y, OffL nb x.2.1 x.1.2.2) (hn : ∀ x ∈ Y, InL (B ≤ ·) x.2.1 x.1.2.2) (P : List Pr) (hP : Y.map (·.1) = P) :
    BoxAt B (W.setCells g o us) nb g cap a c p d Y (h.1, h.2.1, P) :=
  ⟨hx.blk.others hx.ne us o, hR, hP, hx.steps.sets hx.off1 us o, hx.places.sets hx.off3 us o, hx.off1, hx.off2, hx.off3, hx.off4, ho, hx.ne, hx.new1, hx.new2, hn⟩
theorem BoxAt.load {B : Nat} {W : World} {nb g cap : Nat} {a p : Option Addr} {c d : Nat} {X : List Pm} {h : Hb} (hx : BoxAt B W nb g cap a c p d X h) (few : h.1.1.length ≤ 1000) (few2 : h.1.2.length ≤ 1000) :
    HuIs W (huV (.slice a h.1.1.length c) (.slice p h.1.2.length d) h.2.1 (.slice (some ⟨g, 0, none⟩) 3 cap)) h := by
  refine ⟨a, c, p, d, some ⟨g, 0, none⟩, cap, X, by rw [hx.row.len], ⟨hx.steps, hx.places, hx.row.reads, hx.are, by omega, by unfold maxLen; omega, by rw [hx.row.len]; unfold maxLen; omega⟩⟩
theorem prOf_at {h : Hb} {X : List Pm} (e : X.map (·.1) = h.2.2) (k : Nat) (hk : k < X.length) : X[k].1 = prOf h (k : Int) := by
  unfold prOf
  rw [← e]
  simp [List.getD_eq_getElem?_getD, hk]
theorem map_set_peer {h : Hb} {X : List Pm} (e : X.map (·.1) = h.2.2) (k : Nat) (x : Pm) : (X.set k x).map (·.1) = h.2.2.set k x.1 := by rw [List.map_set, e]

/-- what the accept functions leave -/
def Took (W : World) (B nb g cap : Nat) (h : Hb) (E : Int) (e : Ending) (w' : World) : Prop := e = .returned (.int .i64 E) ∧ Below B W w' ∧ (E = 0 → Box B w' nb g cap h)

set_option maxHeartbeats 1000000 in
theorem ulife_any (W : World) (B nb g cap : Nat) (a p : Option Addr) (c d : Nat) (X : List Pm) (h : Hb) (k : Nat) (f : Int) (hx : BoxAt B W nb g cap a c p d X h) (hk : k < 3) (h1 : 0 ≤ (prOf h k).1) (h2 : (prOf h k).1 ≤ 50) (hB : B ≤ g) (E : Int) (hE : E = if (prOf h k).1 + 1 ≠ f then 7 else 0) :
    Calls Tryz.prog 72 #[.pointer (some ⟨g, k * 3, none⟩), .int .i64 f] W (fun e w' => Took W B nb g cap (h.1, h.2.1, h.2.2.set k (f, 0, [])) E e w' ∧ ∀ b, b < W.heap.size → b ≠ g → w'.heap[b]? = W.heap[b]?) := by
  have hkl : k < X.length := by rw [hx.row.len]; exact hk
  have HNEW : Hid (BoxAt B (W.setCells g (k * 3) (prC ((f, 0, []), none, 0))) nb g cap a c p d (X.set k ((f, 0, []), none, 0)) (h.1, h.2.1, h.2.2.set k (f, 0, []))) := by
    refine hx.peers _ _ (hx.row.set k hk ((f, 0, []), none, 0) (PIn.nil _ _ _ _) (Or.inl rfl)) ?_ ?_ _ (map_set_peer hx.are k _)
    · intro x hm
      rcases List.mem_or_eq_of_mem_set hm with hm | rfl
      · exact hx.off5 x hm
      · exact Or.inl rfl
    · intro x hm
      rcases List.mem_or_eq_of_mem_set hm with hm | rfl
      · exact hx.new3 x hm
      · exact Or.inl rfl
  obtain ⟨g0, g1, g2⟩ := hx.row.cells k hkl
  have fz := hx.row.blk.frz
  rw [prOf_at hx.are k hkl] at g0 g1
  have HB : Hid (Below B W (W.setCells g (k * 3) (prC ((f, 0, []), none, 0)))) := below_sets (Below.refl _ _) g hB _ _
  generalize X[k] = y at *
  clear hx hB
  generalize (prOf h k) = pr at *
  obtain ⟨p1, p2, p3⟩ := pr
  simp only at h1 h2 g0 g1 g2
  by_cases hf : p1 + 1 = f
  · have HE : Hid (E = 0) := by rw [hE]; exact if_neg (by simp [hf])
    have d1 : (f != p1 + 1) = false := by simp [hf]
    clear hf hE
    go_enter Tryz.func72, Tryz.ntmps72
    go_wp2
    go_ret
    exact ⟨⟨ret_int HE.out.symm, HB.out, fun _ => ⟨a, c, p, d, _, HNEW.out⟩⟩, fun b _ hne => sets_heap b g hne (prC ((f, 0, []), none, 0)) (k * 3) W⟩
  · have HE : Hid (E = 7) := by rw [hE]; exact if_pos hf
    have d1 : (f != p1 + 1) = true := by simp; omega
    clear hf hE
    go_enter Tryz.func72, Tryz.ntmps72
    go_wp2
    go_ret
    exact ⟨⟨ret_int HE.out.symm, Below.refl _ _, fun e => by rw [HE.out] at e; simp at e⟩, fun b _ _ => rfl⟩

set_option maxHeartbeats 1000000 in
theorem uroots_any (W : World) (B nb g cap : Nat) (a p : Option Addr) (c d : Nat) (X : List Pm) (h : Hb) (k : Nat) (ar : Option Addr) (cr : Nat) (R : List Int) (hx : BoxAt B W nb g cap a c p d X h) (hk : k < 3) (h1 : 0 ≤ (prOf h k).1) (hB : B ≤ g) (hl : R.length ≤ 1000) (hr : SlI W ar R) (E : Int) (hE : E = if (prOf h k).1 < 1 then 5 else 0) :
    Calls Tryz.prog 73 #[.pointer (some ⟨g, k * 3, none⟩), .slice ar R.length cr] W (fun e w' => Took W B nb g cap (h.1, h.2.1, h.2.2.set k ((prOf h k).1, (prOf h k).2.1, R)) E e w' ∧ ∀ b, b < W.heap.size → b ≠ g → w'.heap[b]? = W.heap[b]?) := by
  have hkl : k < X.length := by rw [hx.row.len]; exact hk
  have HX := Lib.hid hx
  obtain ⟨g0, g1, g2⟩ := hx.row.cells k hkl
  have fz := hx.row.blk.frz
  have HP := Lib.hid (prOf_at hx.are k hkl)
  rw [prOf_at hx.are k hkl] at g0 g1
  have hgl : g < W.heap.size := hx.row.blk.lt
  have hnl : nb < W.heap.size := hx.blk.lt
  clear hx
  by_cases hf : (prOf h k).1 = 0
  · have HE : Hid (E = 5) := by rw [hE]; exact if_pos (by omega)
    have d1 : ((prOf h k).1 == 0) = true := by simp [hf]
    clear hf hE
    go_enter Tryz.func73, Tryz.ntmps73
    go_wp2
    go_ret
    exact ⟨⟨ret_int HE.out.symm, Below.refl _ _, fun e => by rw [HE.out] at e; simp at e⟩, fun b _ _ => rfl⟩
  · have HE : Hid (E = 0) := by rw [hE]; exact if_neg (by omega)
    have d1 : ((prOf h k).1 == 0) = false := by simp [hf]
    clear hf hE
    go_enter Tryz.func73, Tryz.ntmps73
    go_wp2_with fail
    refine (cloneInts_any W ar cr R hl hr).mono ?_
    rintro e w1 ⟨vR, rfl, hO, hb⟩
    obtain ⟨aR, cR, rfl, hI⟩ := hO.val
    have hX1 := HX.out.keep hb
    have og : OffL g aR R := row_off hO hgl
    have on : OffL nb aR R := row_off hO hnl
    have hR := hX1.row.setRoots k hkl R aR cR hI (by unfold maxLen; omega) og
    have HNEW : Hid (BoxAt B (w1.setCells g (k * 3 + 2) [.slice aR R.length cR]) nb g cap a c p d (X.set k ((X[k].1.1, X[k].1.2.1, R), aR, cR)) (h.1, h.2.1, h.2.2.set k ((prOf h k).1, (prOf h k).2.1, R))) := by
      refine hX1.peers [.slice aR R.length cR] (k * 3 + 2) hR ?_ ?_ _ (by rw [map_set_peer hX1.are k, HP.out])
      · intro x hm
        rcases List.mem_or_eq_of_mem_set hm with hm | rfl
        · exact hX1.off5 x hm
        · exact on
      · intro x hm
        rcases List.mem_or_eq_of_mem_set hm with hm | rfl
        · exact hX1.new3 x hm
        · exact (row_in hO).imp (fun b hb => by omega)
    have HB : Hid (Below B W (w1.setCells g (k * 3 + 2) [.slice aR R.length cR])) := below_sets (hb.mono (by omega)) g hB _ _
    obtain ⟨y0, y1, y2⟩ := hX1.row.cells k hkl
    have fz1 := hX1.row.blk.frz
    have HON : Hid (∀ b, b < W.heap.size → b ≠ g → (w1.setCells g (k * 3 + 2) [.slice aR R.length cR]).heap[b]? = W.heap[b]?) := fun b hlt hne => by rw [sets_heap b g hne]; exact hb.block b hlt
    clear hR hX1 hO hI hb g0 g1 g2 fz
    go_wp2
    go_ret
    exact ⟨⟨ret_int HE.out.symm, HB.out, fun _ => ⟨a, c, p, d, _, HNEW.out⟩⟩, HON.out⟩
end Go.Proofs.YthlhnokgcnieeadGreat

/- history.Insert. -/
namespace Go.Proofs.YthlhnokgcnieeadGreat
open Go.ChangeShapes Go.WideShapes Go.ChangeAt Go.RowKit
open Orangery (Pl Mv Stp check checkOp foldE foldL foldT histE hasM thereB insE insL insT orI)

theorem there_has {l : List Stp} {m : List Mv} (hm : l.map (·.1) = m) (o : Mv) : thereB l o = hasM m o.1 o.2.1 := by
  subst hm
  rw [Bool.eq_iff_iff, Orangery.hasM_iff]
  unfold thereB
  rw [List.any_eq_true]
  constructor
  · rintro ⟨s, hs, h⟩
    simp at h
    exact ⟨s.1, List.mem_map.2 ⟨s, hs, rfl⟩, h⟩
  · rintro ⟨x, hx, h⟩
    obtain ⟨s, hs, rfl⟩ := List.mem_map.1 hx
    exact ⟨s, hs, by simp [h]⟩
theorem ins_err {l : List Stp} {t : List Pl} {o : Mv} (h : insE l t o ≠ 0) : insL l t o = [] ∧ insT l t o = [] := by
  unfold insL insT
  rw [if_pos h, if_pos h]
  exact ⟨rfl, rfl⟩
theorem insE_or {l : List Stp} {t : List Pl} {o : Mv} (h : orI (histE l t) (checkOp o) ≠ 0) : insE l t o = orI (histE l t) (checkOp o) := by
  unfold insE
  unfold orI at h ⊢
  by_cases h1 : histE l t = 0
  · rw [if_neg (by simp [h1])] at h
    rw [if_neg (by simp [h1]), if_pos h, if_neg (by simp [h1])]
  · rw [if_pos h1, if_pos h1]
theorem or_zero {x y : Int} (h : orI x y = 0) : x = 0 ∧ y = 0 := by
  unfold orI at h
  split at h
  · contradiction
  · rename_i hx; exact ⟨by simpa using hx, h⟩
theorem insE_go {l : List Stp} {t : List Pl} {o : Mv} {m : List Mv} (hm : l.map (·.1) = m) (h : orI (histE l t) (checkOp o) = 0) :
    (hasM m o.1 o.2.1 = true → insE l t o = 6) ∧ (hasM m o.1 o.2.1 = false → insE l t o = foldE (m ++ [o]) ∧ insL l t o = foldL (m ++ [o]) ∧ insT l t o = foldT (m ++ [o])) := by
  obtain ⟨h1, h2⟩ := or_zero h
  have ht := there_has hm o
  constructor
  · intro hh
    unfold insE
    rw [if_neg (by simp [h1]), if_neg (by simp [h2]), if_pos (by rw [ht]; exact hh)]
  · intro hh
    have e : insE l t o = foldE (m ++ [o]) := by
      unfold insE
      rw [if_neg (by simp [h1]), if_neg (by simp [h2]), if_neg (by rw [ht, hh]; simp), hm]
    refine ⟨e, ?_, ?_⟩
    · unfold insL
      rw [e, hm]
      by_cases hz : foldE (m ++ [o]) = 0
      · rw [if_neg (by simp [hz])]
      · rw [if_pos hz, (Orangery.fold_err hz).1]
    · unfold insT
      rw [e, hm]
      by_cases hz : foldE (m ++ [o]) = 0
      · rw [if_neg (by simp [hz])]
      · rw [if_pos hz, (Orangery.fold_err hz).2]
theorem hist_len {l : List Stp} {t : List Pl} (h : histE l t = 0) : l.length ≤ 30 := by
  have h1 : foldE (l.map (·.1)) = 0 := by
    unfold histE at h
    split at h
    · contradiction
    · rename_i hx; simpa using hx
  have := ((Orangery.foldE_zero _).1 h1).1
  simpa using this

set_option maxHeartbeats 2000000 in
set_option maxRecDepth 100000 in
theorem insert_any (w : World) (a p : Option Addr) (c d : Nat) (l : List Stp) (t : List Pl) (o : Mv) (hl : l.length * 88 ≤ 140737488351232) (ht : t.length ≤ maxLen) (h1 : SlE stC w a l) (h3 : SlP w p t) :
    Calls Tryz.prog 92 #[hiV (.slice a l.length c) (.slice p t.length d), opV o] w fun e w' => Folds w (insL l t o) (insT l t o) (insE l t o) e w' := by
  obtain ⟨i0, hi, hz0, hz1, hz2⟩ := info_parts infoOp
  obtain ⟨m, hm⟩ : ∃ m, l.map (·.1) = m := ⟨_, rfl⟩
  have HBAD : Hid (orI (histE l t) (checkOp o) ≠ 0 → insE l t o = orI (histE l t) (checkOp o)) := insE_or
  have HGO : Hid (orI (histE l t) (checkOp o) = 0 → (hasM m o.1 o.2.1 = true → insE l t o = 6) ∧ (hasM m o.1 o.2.1 = false → insE l t o = foldE (m ++ [o]) ∧ insL l t o = foldL (m ++ [o]) ∧ insT l t o = foldT (m ++ [o]))) := insE_go hm
  have HLEN : Hid (orI (histE l t) (checkOp o) = 0 → m.length ≤ 30) := fun h => by rw [← hm, List.length_map]; exact hist_len (or_zero h).1
  have HM : Hid (l.map (·.1) = m) := hm
  clear hm
  obtain ⟨o1, o2, ⟨o3, o4, o5⟩, o6, o7⟩ := o
  obtain ⟨W0, hW, hH, hO, hR, hB, hS⟩ := laid3 w [Value.slice a l.length c, Value.slice p t.length d] 27 [Value.int IntKind.i64 o1, Value.int IntKind.i64 o2, Value.int IntKind.i64 o3, Value.int IntKind.i64 o4, Value.int IntKind.i64 o5, Value.int IntKind.i64 o6, Value.int IntKind.i64 o7] 35 [Value.slice none 0 0, Value.slice none 0 0] 27
  have hP := h1.below hB
  have hT := h3.below hB
  have HS : Hid (W0.heap.size = w.heap.size + 3) := hS
  clear h1 h3 hS
  go_enter Tryz.func92, Tryz.ntmps92
  go_wp2_with fail
  clear hW
  have x0 := hH.at 0 rfl
  have x1 := hH.at 1 rfl
  have m0 := hO.at 0 rfl
  have m1 := hO.at 1 rfl
  have m2 := hO.at 2 rfl
  have m3 := hO.at 3 rfl
  have m4 := hO.at 4 rfl
  have m5 := hO.at 5 rfl
  have m6 := hO.at 6 rfl
  go_region_held3 (fun w' => w'.cell? ⟨w.heap.size, 0, none⟩ = some (.slice a l.length c) ∧ w'.cell? ⟨w.heap.size, 1, none⟩ = some (.slice p t.length d) ∧ w'.cell? ⟨w.heap.size + 1, 0, none⟩ = some (.int .i64 o1) ∧ w'.cell? ⟨w.heap.size + 1, 1, none⟩ = some (.int .i64 o2) ∧ w'.cell? ⟨w.heap.size + 1, 2, none⟩ = some (.int .i64 o3) ∧ w'.cell? ⟨w.heap.size + 1, 3, none⟩ = some (.int .i64 o4) ∧ w'.cell? ⟨w.heap.size + 1, 4, none⟩ = some (.int .i64 o5) ∧ w'.cell? ⟨w.heap.size + 1, 5, none⟩ = some (.int .i64 o6) ∧ w'.cell? ⟨w.heap.size + 1, 6, none⟩ = some (.int .i64 o7)) (go_keep)
    (first | (go_at_call 41; refine (hcheck_any _ a p c d l t hl ht ?_ ?_).mono ?_; exact hP.drew; exact hT; rintro e w1 ⟨rfl, hb1⟩; have hb1' : Below W0.heap.size W0 w1 := ((Below.refl _ W0).drew).trans hb1; have hH1 := hH.keep hb1'; have x10 := hH1.at 0 rfl; have x11 := hH1.at 1 rfl; have hO1 := hO.keep hb1'; have m10 := hO1.at 0 rfl; have m11 := hO1.at 1 rfl; have m12 := hO1.at 2 rfl; have m13 := hO1.at 3 rfl; have m14 := hO1.at 4 rfl; have m15 := hO1.at 5 rfl; have m16 := hO1.at 6 rfl) | (go_at_call 52; refine (moveCheck_any _ (o1, o2, (o3, o4, o5), o6, o7)).mono ?_; rintro e w2 ⟨rfl, hb2⟩; have hb2' := hb1'.trans (hb2.mono hb1'.size); have hH2 := hH.keep hb2'; have x20 := hH2.at 0 rfl; have x21 := hH2.at 1 rfl; have hO2 := hO.keep hb2'; have m20 := hO2.at 0 rfl; have m21 := hO2.at 1 rfl; have m22 := hO2.at 2 rfl; have m23 := hO2.at 3 rfl; have m24 := hO2.at 4 rfl; have m25 := hO2.at 5 rfl; have m26 := hO2.at 6 rfl) | (go_at_call 28; refine (orE_any _ _ _ (histE l t) (checkOp (o1, o2, (o3, o4, o5), o6, o7)) ?_ ?_).mono ?_; simp; simp; rintro e w3 ⟨rfl, rfl⟩))
  have hH3 := hH2.alloc (Obj.cells #[Value.int IntKind.i64 (histE l t), Value.int IntKind.i64 (checkOp (o1, o2, (o3, o4, o5), o6, o7))] 38)
  have hO3 := hO2.alloc (Obj.cells #[Value.int IntKind.i64 (histE l t), Value.int IntKind.i64 (checkOp (o1, o2, (o3, o4, o5), o6, o7))] 38)
  have hR3 := (hR.keep hb2').alloc (Obj.cells #[Value.int IntKind.i64 (histE l t), Value.int IntKind.i64 (checkOp (o1, o2, (o3, o4, o5), o6, o7))] 38)
  have hb3 : Below W0.heap.size W0 (w2.alloc (Obj.cells #[Value.int IntKind.i64 (histE l t), Value.int IntKind.i64 (checkOp (o1, o2, (o3, o4, o5), o6, o7))] 38)) := hb2'.alloc hb2'.size _
  have hP3 := hP.below hb3
  have hT3 := hT.below hb3
  have HB3 : Hid (Below w.heap.size w (w2.alloc (Obj.cells #[Value.int IntKind.i64 (histE l t), Value.int IntKind.i64 (checkOp (o1, o2, (o3, o4, o5), o6, o7))] 38))) := hB.trans (hb3.mono hB.size)
  have hsz3 := hb3.size
  rw [HS.out] at hsz3
  generalize w2.alloc (Obj.cells #[Value.int IntKind.i64 (histE l t), Value.int IntKind.i64 (checkOp (o1, o2, (o3, o4, o5), o6, o7))] 38) = W3 at *
  clear hH hO hR hB hP hT x0 x1 m0 m1 m2 m3 m4 m5 m6 x10 x11 m10 m11 m12 m13 m14 m15 m16 x20 x21 m20 m21 m22 m23 m24 m25 m26 hb1 hb1' hb2 hb2' hO1 hO2 hH1 hH2 hb3
  generalize orI (histE l t) (checkOp (o1, o2, (o3, o4, o5), o6, o7)) = E at *
  by_cases hz : E = 0
  · subst hz
    have HG := HGO.out rfl
    have hml := HLEN.out rfl
    have HG1 : Hid (hasM m o1 o2 = true → insE l t (o1, o2, (o3, o4, o5), o6, o7) = 6) := HG.1
    have HG2 : Hid (hasM m o1 o2 = false → insE l t (o1, o2, (o3, o4, o5), o6, o7) = foldE (m ++ [(o1, o2, (o3, o4, o5), o6, o7)]) ∧ insL l t (o1, o2, (o3, o4, o5), o6, o7) = foldL (m ++ [(o1, o2, (o3, o4, o5), o6, o7)]) ∧ insT l t (o1, o2, (o3, o4, o5), o6, o7) = foldT (m ++ [(o1, o2, (o3, o4, o5), o6, o7)])) := HG.2
    clear HG HGO HLEN HBAD
    have x0 := hH3.at 0 rfl
    have x1 := hH3.at 1 rfl
    go_wp2_with fail
    refine (hops_any W3 a c l (.slice p t.length d) hl hP3).mono ?_
    rintro e w4 ⟨v4, rfl, hO4, hb4⟩
    rw [HM.out] at hO4
    obtain ⟨a4, c4, rfl, hP4, hc4⟩ := hO4.val
    have hOp4 := hO3.keep hb4
    have hR4 := hR3.keep hb4
    have HB4 : Hid (Below w.heap.size w w4) := HB3.out.trans (hb4.mono HB3.out.size)
    have hsz4 : w.heap.size + 3 ≤ w4.heap.size := by have := hb4.size; omega
    have hsz34 := hb4.size
    clear hO3 hR3 hH3 hP3 hT3 HB3 hb4 x0 x1
    have m0 := hOp4.at 0 rfl
    have m1 := hOp4.at 1 rfl
    go_wp2_with fail
    refine (has_any w4 a4 c4 m o1 o2 (by unfold maxLen; omega) hP4).mono ?_
    rintro e w5 ⟨rfl, hb5⟩
    have hOp5 := hOp4.keep hb5
    have hR5 := hR4.keep hb5
    have hO5 := (hO4.keep hb5)
    have HB5 : Hid (Below w.heap.size w w5) := HB4.out.trans (hb5.mono HB4.out.size)
    have hsz5 : W3.heap.size ≤ w5.heap.size := by have := hb5.size; omega
    have HE5 : Hid (hasS m o1 o2 = hasM m o1 o2) := rfl
    rw [HE5.out]
    clear hOp4 hR4 hO4 hP4 HB4 hb5 m0 m1
    cases hq : hasM m o1 o2
    · obtain ⟨e1, e2, e3⟩ := HG2.out hq
      have HQ : Hid (insE l t (o1, o2, (o3, o4, o5), o6, o7) = foldE (m ++ [(o1, o2, (o3, o4, o5), o6, o7)]) ∧ insL l t (o1, o2, (o3, o4, o5), o6, o7) = foldL (m ++ [(o1, o2, (o3, o4, o5), o6, o7)]) ∧ insT l t (o1, o2, (o3, o4, o5), o6, o7) = foldT (m ++ [(o1, o2, (o3, o4, o5), o6, o7)])) := ⟨e1, e2, e3⟩
      clear e1 e2 e3 HG1 HG2 hq HE5
      obtain ⟨W6, hW6, hN, hBn, _⟩ := laid1 w5 [Value.int IntKind.i64 o1, Value.int IntKind.i64 o2, Value.int IntKind.i64 o3, Value.int IntKind.i64 o4, Value.int IntKind.i64 o5, Value.int IntKind.i64 o6, Value.int IntKind.i64 o7] 35
      have hR6 := hR5.keep hBn
      have hown6 : W6.ownsRow W3.heap.size 35 7 (.slice a4 m.length c4) m.length (m.flatMap opC) := hO5.keep hBn
      have HB6 : Hid (Below w.heap.size w W6) := HB5.out.trans (hBn.mono HB5.out.size)
      have HN : Hid (Blk W6 w5.heap.size [Value.int IntKind.i64 o1, Value.int IntKind.i64 o2, Value.int IntKind.i64 o3, Value.int IntKind.i64 o4, Value.int IntKind.i64 o5, Value.int IntKind.i64 o6, Value.int IntKind.i64 o7]) := hN
      have m0 := hOp5.at 0 rfl
      have m1 := hOp5.at 1 rfl
      have m2 := hOp5.at 2 rfl
      have m3 := hOp5.at 3 rfl
      have m4 := hOp5.at 4 rfl
      have m5 := hOp5.at 5 rfl
      have m6 := hOp5.at 6 rfl
      have hsz6 : W3.heap.size ≤ W6.heap.size := by have := hBn.size; omega
      clear hOp5 hR5 hO5 HB5 hN hBn
      go_wp2_with (at_builtin; refine wpList_append_own _ rfl _ _ 58 rfl W3.heap.size 35 i0 _ 7 56 Tryz.underlying58 hi hz0 hz1 hz2 rfl (by decide) _ _ _ rfl hown6 ⟨w5.heap.size, 0, none⟩ 1 1 [Value.int IntKind.i64 o1, Value.int IntKind.i64 o2, Value.int IntKind.i64 o3, Value.int IntKind.i64 o4, Value.int IntKind.i64 o5, Value.int IntKind.i64 o6, Value.int IntKind.i64 o7] rfl rfl ?c1 ?c2 ?c3 ?c4 ?c5 ?_)
      case c1 => intro j u hj; first | exact HN.out.at j hj | (rw [Addr.add_mid, Nat.zero_add]; exact HN.out.at j hj)
      case c2 => first | exact ⟨rfl, rfl, rfl, rfl, rfl, rfl, rfl⟩ | exact opC_one (o1, o2, (o3, o4, o5), o6, o7)
      case c3 => unfold maxLen; omega
      case c4 => omega
      case c5 => omega
      intro v7 w7 hown' hgrow _
      obtain ⟨Mn, hMn⟩ : ∃ Mn, Mn = m ++ [(o1, o2, (o3, o4, o5), o6, o7)] := ⟨_, rfl⟩
      have hO7 : OwnE opC 7 35 w7 W3.heap.size v7 Mn := by
        show World.ownsRow _ _ _ _ _ _ _
        rw [hMn]
        simpa [opC] using hown'
      have hgb : ∀ g, (Value.slice a4 m.length c4).ownBlock = some g → W3.heap.size ≤ g := fun g hg => (hown6.lt g hg).1
      have hR7 := hR6.grown hgrow (by intro e; have := hgb _ e.symm; omega)
      have HB7 : Hid (Below w.heap.size w w7) := HB6.out.grown hgrow (by omega) (fun g hg => by have := hgb g hg; omega)
      have hlen7 : Mn.length ≤ maxLen := by rw [hMn]; simp; unfold maxLen; omega
      have HMN : Hid (Mn = m ++ [(o1, o2, (o3, o4, o5), o6, o7)]) := hMn
      have hsz7 : w.heap.size + 3 ≤ w7.heap.size := by have := hgrow.size; omega
      obtain ⟨a7, c7, rfl, hP7, hc7⟩ := hO7.val
      clear hMn hown' hown6 hgrow hgb hR6 HB6 hO7 m0 m1 m2 m3 m4 m5 m6 hW6 HN
      go_wp2_with fail
      refine (fold_any w7 a7 c7 Mn hlen7 hc7 hP7).mono ?_
      rintro e w8 ⟨vL, vT, rfl, hL8, hT8, hb8⟩
      have hR8 := hR7.keep hb8
      have HB8 : Hid (Below w.heap.size w w8) := HB7.out.trans (hb8.mono HB7.out.size)
      have hL9 := hL8.mono (base' := w.heap.size + 3) hsz7
      have hT9 := hT8.mono (base' := w.heap.size + 3) hsz7
      obtain ⟨aT, cT, rfl⟩ := hT9.val
      obtain ⟨aL, cL, rfl, _, _⟩ := hL9.val
      have r0 := hR8.at 0 rfl
      have r1 := hR8.at 1 rfl
      have rf := hR8.frz
      clear hL8 hT8 hP7 hR7 HB7 hb8
      go_wp2
      have hRf := hR8.sets [Value.slice aL (foldL Mn).length cL, Value.slice aT (foldT Mn).length cT] rfl
      refine ret_cell_tmp Tryz.results92 rfl rfl (hRf.load Tryz.underlying27 rfl sizeHist) ?_
      rw [HQ.out.1, HQ.out.2.1, HQ.out.2.2, ← HMN.out]
      have e1 := (OwnE.others (w.heap.size + 1 + 1) (by omega) [Value.slice aL (foldL Mn).length cL, Value.slice aT (foldT Mn).length cT] 0 w8 hL9).mono (base' := w.heap.size) (by omega)
      have e2 := (OwnS.others (w.heap.size + 1 + 1) (by omega) [Value.slice aL (foldL Mn).length cL, Value.slice aT (foldT Mn).length cT] 0 w8 hT9).mono (base' := w.heap.size) (by omega)
      exact ⟨_, _, rfl, e1, e2, below_sets HB8.out (w.heap.size + 1 + 1) (by omega) [Value.slice aL (foldL Mn).length cL, Value.slice aT (foldT Mn).length cT] 0⟩
    · have HE : Hid (insE l t (o1, o2, (o3, o4, o5), o6, o7) = 6) := HG1.out hq
      have r0 := hR5.at 0 rfl
      have r1 := hR5.at 1 rfl
      have rf := hR5.frz
      clear HG1 HG2 hq HE5
      go_wp2
      have hRf := hR5.sets [Value.slice none 0 0, Value.slice none 0 0] rfl
      refine ret_cell_tmp Tryz.results92 rfl rfl (hRf.load Tryz.underlying27 rfl sizeHist) ?_
      have hzz := ins_err (l := l) (t := t) (o := (o1, o2, (o3, o4, o5), o6, o7)) (by rw [HE.out]; decide)
      rw [HE.out]
      exact folds_err hzz.1 hzz.2 (below_sets HB5.out (w.heap.size + 1 + 1) (by omega) [Value.slice none 0 0, Value.slice none 0 0] 0)
  · have HE : Hid (insE l t (o1, o2, (o3, o4, o5), o6, o7) = E) := HBAD.out hz
    have HZ : Hid (E ≠ 0) := hz
    have hz' : (E != 0) = true := by simpa using hz
    have r0 := hR3.at 0 rfl
    have r1 := hR3.at 1 rfl
    have rf := hR3.frz
    clear HBAD HGO HLEN hz
    go_wp2
    have hRf := hR3.sets [Value.slice none 0 0, Value.slice none 0 0] rfl
    refine ret_cell_tmp Tryz.results92 rfl rfl (hRf.load Tryz.underlying27 rfl sizeHist) ?_
    have hzz := ins_err (l := l) (t := t) (o := (o1, o2, (o3, o4, o5), o6, o7)) (by rw [HE.out]; exact HZ.out)
    rw [HE.out]
    exact folds_err hzz.1 hzz.2 (below_sets HB3.out (w.heap.size + 1 + 1) (by omega) [Value.slice none 0 0, Value.slice none 0 0] 0)
end Go.Proofs.YthlhnokgcnieeadGreat

/- slices.Grow of nothing, slices.Concat at places. -/
namespace Go.Proofs.YthlhnokgcnieeadGreat
open Go.ChangeShapes Go.WideShapes Go.ChangeAt Go.RowKit
open Orangery (Pl)

theorem encPl_one (p : Pl) : ∀ v ∈ encPl p, v.oneCell' = true := by
  intro v hv
  simp [encPl] at hv
  rcases hv with rfl | rfl | rfl <;> rfl
theorem encPl_len (x : Pl) : (encPl x).length = 3 := rfl
/-- one slice behind another one of the call's own -/
theorem SlP.news {w : World} {ad : Addr} {l : List Pl} (h : SlP w (some ad) l) : ∀ j u, (l.flatMap encPl)[j]? = some u → w.cell? (ad.add j) = some u := by
  intro j u hj
  rcases h with rfl | ⟨b, off, ha, _, hp⟩
  · simp at hj
  · simp at ha
    subst ha
    exact pls_flat hp j u hj
theorem SlP.none_nil {w : World} {l : List Pl} (h : SlP w none l) : l = [] := by
  rcases h with rfl | ⟨b, off, h, _⟩
  · rfl
  · simp at h

end Go.Proofs.YthlhnokgcnieeadGreat

