/- 5 texts of the proof: slices.Grow of nothing, slices.Concat at operations. slices.Reverse at operations, on a slice of the call's own. orangerylaw.at: a number brought within bounds. orangerylaw.HistoryAny: the walk. A tree that came in as an argument: which places it holds. -/
import Derived.Lib.AppendZerosOnto
import Derived.Laws.AppendOwnNone
import Derived.Deep.Slices
import Derived.Deep.Strs
import Derived.ChangeOld
import Derived.Test.YtphameoibnimmabP03
import Derived.Test.YtphameoibnimmabP07
import Derived.Test.YtphameoibnimmabP05
import Derived.Test.YtphameoibnimmabP01
import Derived.Test.YtphameoibnimmabP02
import Derived.Test.YtphameoibnimmabP08
/- slices.Grow of nothing, slices.Concat at operations. -/
namespace Go.Proofs.Ytphameoibnimmab
open Go.ChangeShapes Go.WideShapes Go.ChangeAt Go.RowKit
open Orangery (Pl Mv Stp)

set_option maxHeartbeats 1000000 in
set_option maxRecDepth 100000 in
theorem growOps_any (w : World) (n : Nat) (hn : n ≤ 1000) :
    Calls Try.prog 25 #[.slice none 0 0, .int .i64 n] w
      fun e w' => ∃ v, e = .returned v ∧ OwnE opC 7 38 w' w.heap.size v [] ∧ Below w.heap.size w w' := by
  obtain ⟨i0, hi, hz0, hz1, hz2⟩ := info_parts infoOp
  have h1 : ¬ ((n : Int) < 0) := by omega
  by_cases hp : 0 < n
  · have h4 : (n : Int) > 0 := by omega
    have hold : (Builtin.firstCells i0.size 0 (.slice none 0 0)).run Try.prog w.drew = .ok ([] : List Value).toArray w.drew := by simp [Builtin.firstCells]
    have hr : ∀ ty, (Builtin.append_ #[22, 3] ty #[.slice none 0 0, .int .i64 (n : Int)]).run Try.prog w = _ := fun ty => Lib.run_append_grow_zeros w 22 3 ty 38 i0 _ .i64 .i64 Try.underlying22 Try.underlying3 hi hz0 none 0 0 [] hold n hp (by omega) (by omega) (by omega) (by rw [hz2]; omega) (growslice_fits (by omega) (by rw [hz2]; omega))
    have hge := grownCap_ge w (0 + n) 0 38
    have hle := grownCap_le_maxLen w (0 + n) 0 38 (by unfold maxLen; omega)
    generalize grownCap w (0 + n) 0 38 = G at *
    have hle' : G ≤ 9223372036854775807 := hle
    have HO : Hid (∀ cur : Array Value, cur.size = G * 7 → OwnE opC 7 38 (w.drew.alloc (.cells cur 38)) w.heap.size (.slice (some ⟨w.heap.size, 0, none⟩) 0 G) []) := fun cur hc =>
      ⟨rfl, Or.inr ⟨w.heap.size, G, cur, rfl, Nat.le_refl _, blk_new rfl, Nat.zero_le _, hle, hc, by simp⟩⟩
    have HB : Hid (∀ o : Obj, Below w.heap.size w (w.drew.alloc o)) := fun o => ((Below.refl _ w).drew).alloc (Nat.le_refl _) o
    have HSZ : Hid ((([] : List Value).toArray ++ Builtin.zeroCells (Value.agg #[.int .i64 0, .int .i64 0, .int .i64 0, .int .i64 0, .int .i64 0, .int .i64 0, .int .i64 0]).cells n ++ Builtin.zeroCells (Value.agg #[.int .i64 0, .int .i64 0, .int .i64 0, .int .i64 0, .int .i64 0, .int .i64 0, .int .i64 0]).cells (G - (0 + n))).size = G * 7) := by
      show _ = _
      rw [Array.size_append, Array.size_append, size_zeroCells, size_zeroCells]
      simp [Value.cells]
      omega
    generalize (([] : List Value).toArray ++ Builtin.zeroCells (Value.agg #[.int .i64 0, .int .i64 0, .int .i64 0, .int .i64 0, .int .i64 0, .int .i64 0, .int .i64 0]).cells n ++ Builtin.zeroCells (Value.agg #[.int .i64 0, .int .i64 0, .int .i64 0, .int .i64 0, .int .i64 0, .int .i64 0, .int .i64 0]).cells (G - (0 + n))) = cur at *
    clear hold
    go_enter Try.func25, Try.ntmps25
    go_wp2_with (at_builtin; refine Lib.wpList_append_run _ rfl _ _ _ _ rfl _ _ rfl rfl _ _ (hr _) ?_)
    all_goals (go_ret; exact ⟨_, rfl, HO.out cur HSZ.out, HB.out _⟩)
  · obtain rfl : n = 0 := by omega
    go_enter Try.func25, Try.ntmps25
    go_wp2
    go_ret
    exact ⟨_, rfl, OwnE.nil _ _, Below.refl _ _⟩

/-- one slice behind another one of the call's own -/
theorem SlE.news {w : World} {ad : Addr} {l : List Mv} (h : SlE opC w (some ad) l) : ∀ j u, (l.flatMap opC)[j]? = some u → w.cell? (ad.add j) = some u := by
  intro j u hj
  rcases h with rfl | ⟨b, off, ha, _, hp⟩
  · simp at hj
  · simp at ha
    subst ha
    rw [Addr.add_mid]
    exact hp j u hj
theorem SlE.none_nil {w : World} {l : List Mv} (h : SlE opC w none l) : l = [] := by
  rcases h with rfl | ⟨b, off, h, _⟩
  · rfl
  · simp at h

set_option maxHeartbeats 2000000 in
set_option maxRecDepth 100000 in
theorem concatOps_any (w : World) (bq : Nat) (a1 a2 : Option Addr) (c1 c2 : Nat) (l1 l2 : List Mv) (hl1 : l1.length ≤ 500) (hl2 : l2.length ≤ 500) (hc1 : a1 = none → c1 = 0) (hc2 : a2 = none → c2 = 0)
    (q0 : w.cell? ⟨bq, 0, none⟩ = some (.slice a1 l1.length c1)) (q1 : w.cell? ⟨bq, 1, none⟩ = some (.slice a2 l2.length c2)) (h1 : SlE opC w a1 l1) (h2 : SlE opC w a2 l2) :
    Calls Try.prog 9 #[.slice (some ⟨bq, 0, none⟩) 2 2] w
      fun e w' => ∃ v, e = .returned v ∧ OwnE opC 7 38 w' w.heap.size v (l1 ++ l2) ∧ Below w.heap.size w w' := by
  obtain ⟨i0, hi, hz0, hz1, hz2⟩ := info_parts infoOp
  have hbq : bq < w.heap.size := World.block_lt_of_cell? w ⟨bq, 0, none⟩ q0
  go_enter Try.func9, Try.ntmps9
  go_wp2
  go_loop [3, 11] (fun x i => ∃ k : Nat, k ≤ 2 ∧ i = .int .i64 k ∧ x = .int .i64 (if k = 0 then 0 else if k = 1 then l1.length else l1.length + l2.length : Nat)) (fun _ i => 2 - (intOf i).toNat)
  case atStart => exact ⟨0, by omega, rfl, rfl⟩
  case round =>
    obtain ⟨k, hk, rfl, rfl⟩ := hrel
    have hc : k = 0 ∨ k = 1 ∨ k = 2 := by omega
    rcases hc with rfl | rfl | rfl
    · simp only [if_true]
      have d1 : decide ((l1.length : Int) < 0) = false := by simp <;> omega
      go_wp2
      go_round
      case rel => exact ⟨1, by omega, by go_num, by simp⟩
      case measure => simp [intOf]
    · simp only [show ¬ (1 = 0) by omega, if_true, if_false]
      have d1 : decide ((l1.length : Int) + (l2.length : Int) < 0) = false := by simp <;> omega
      go_wp2
      go_round
      case rel => exact ⟨2, by omega, by go_num, by simp⟩
      case measure => simp [intOf]
    · simp only [show ¬ (2 = 0) by omega, show ¬ (2 = 1) by omega, if_false]
      have HG := growOps_any w (l1.length + l2.length) (by omega)
      have HGG : Hid (Calls Try.prog 25 #[.slice none 0 0, .int .i64 (l1.length + l2.length : Nat)] w fun e w' => ∃ v, e = .returned v ∧ OwnE opC 7 38 w' w.heap.size v [] ∧ Below w.heap.size w w') := HG
      clear HG
      go_wp2_with fail
      refine HGG.out.mono ?_
      rintro e w1 ⟨v1, rfl, hO1, hb1⟩
      clear HGG
      go_wp2
      go_loopw [6, 27] (fun v i W => ∃ k : Nat, k ≤ 2 ∧ i = .int .i64 k ∧ OwnE opC 7 38 W w.heap.size v (if k = 0 then [] else if k = 1 then l1 else l1 ++ l2) ∧ Below w.heap.size w W) (fun _ i _ => 2 - (intOf i).toNat)
      case atStart => exact ⟨0, by omega, rfl, hO1, hb1⟩
      case round =>
        obtain ⟨k, hk, rfl, hO, hb⟩ := hrel
        have hc : k = 0 ∨ k = 1 ∨ k = 2 := by omega
        have qr0 : wr.cell? ⟨bq, 0, none⟩ = some (.slice a1 l1.length c1) := by rw [hb.cell (by exact hbq)]; exact q0
        have qr1 : wr.cell? ⟨bq, 1, none⟩ = some (.slice a2 l2.length c2) := by rw [hb.cell (by exact hbq)]; exact q1
        rcases hc with rfl | rfl | rfl
        · simp only [if_true] at hO
          cases a1 with
          | none =>
            have e1 := h1.none_nil
            have e2 := hc1 rfl
            have qr0' : wr.cell? ⟨bq, 0, none⟩ = some (.slice none 0 0) := by rw [qr0, e1, e2]; rfl
            have HE : Hid (l1 = []) := e1
            clear qr0 e1 e2
            go_wp2_with (at_builtin; refine wpList_append_own_none rfl _ _ 22 rfl w.heap.size 38 i0 7 Try.underlying22 hi _ 0 [] rfl hO.row rfl ?_)
            go_roundw
            case rel => exact ⟨1, by omega, by go_num, by simp [HE.out]; exact hO, hb⟩
            case measure => simp [intOf]
          | some ad =>
            have hn := (h1.below hb).news
            have HN : Hid (∀ j u, (l1.flatMap opC)[j]? = some u → wr.cell? (ad.add j) = some u) := hn
            have hown : wr.ownsRow w.heap.size 38 7 u6 0 [] := hO.row
            clear hn
            go_wp2_with (at_builtin; refine wpList_append_own _ rfl _ _ 22 rfl w.heap.size 38 i0 _ 7 56 Try.underlying22 hi hz0 hz1 hz2 rfl (by decide) _ _ _ rfl hown ad l1.length c1 (l1.flatMap opC) rfl (flatE_len opC_len l1) ?c1 ?c2 ?c3 ?c4 ?c5 ?_)
            case c1 => exact HN.out
            case c2 => exact flat_oneE opC_one l1
            case c3 => unfold maxLen; omega
            case c4 => omega
            case c5 => exact hb.size
            intro v' w4 hown' hgrow _
            have hb4 := hb.trans (below_grown hown hb.size hgrow)
            clear hgrow hown
            go_wp2
            go_roundw
            case rel => exact ⟨1, by omega, by go_num, by simp; simpa [OwnE] using hown', hb4⟩
            case measure => simp [intOf]
        · simp only [show ¬ (1 = 0) by omega, if_true, if_false] at hO
          cases a2 with
          | none =>
            have e1 := h2.none_nil
            have e2 := hc2 rfl
            have qr1' : wr.cell? ⟨bq, 1, none⟩ = some (.slice none 0 0) := by rw [qr1, e1, e2]; rfl
            have HE : Hid (l2 = []) := e1
            clear qr1 e1 e2
            go_wp2_with (at_builtin; refine wpList_append_own_none rfl _ _ 22 rfl w.heap.size 38 i0 7 Try.underlying22 hi _ l1.length (l1.flatMap opC) rfl hO.row rfl ?_)
            go_roundw
            case rel => exact ⟨2, by omega, by go_num, by simp [HE.out]; exact hO, hb⟩
            case measure => simp [intOf]
          | some ad =>
            have hn := (h2.below hb).news
            have HN : Hid (∀ j u, (l2.flatMap opC)[j]? = some u → wr.cell? (ad.add j) = some u) := hn
            have hown : wr.ownsRow w.heap.size 38 7 u6 l1.length (l1.flatMap opC) := hO.row
            clear hn
            go_wp2_with (at_builtin; refine wpList_append_own _ rfl _ _ 22 rfl w.heap.size 38 i0 _ 7 56 Try.underlying22 hi hz0 hz1 hz2 rfl (by decide) _ _ _ rfl hown ad l2.length c2 (l2.flatMap opC) rfl (flatE_len opC_len l2) ?d1 ?d2 ?d3 ?d4 ?d5 ?_)
            case d1 => exact HN.out
            case d2 => exact flat_oneE opC_one l2
            case d3 => unfold maxLen; omega
            case d4 => omega
            case d5 => exact hb.size
            intro v' w4 hown' hgrow _
            have hb4 := hb.trans (below_grown hown hb.size hgrow)
            clear hgrow hown
            go_wp2
            go_roundw
            case rel => exact ⟨2, by omega, by go_num, by simp; simpa [OwnE] using hown', hb4⟩
            case measure => simp [intOf]
        · simp only [show ¬ (2 = 0) by omega, show ¬ (2 = 1) by omega, if_false] at hO
          go_wp2
          go_ret
          exact ⟨_, rfl, hO, hb⟩
end Go.Proofs.Ytphameoibnimmab

/- slices.Reverse at operations, on a slice of the call's own. -/
namespace Go.Proofs.Ytphameoibnimmab
open Go.ChangeShapes Go.WideShapes Go.ChangeAt Go.RowKit
open Orangery (Pl Mv Stp)

/-- a store of a whole struct anywhere in a block, the only operation that may come up -/
theorem step_store_at {P : Program} {md : Region.Mode} {ops : Array Oper} {Q : Exit → Act → World → Prop} {S : World → Prop} (i : Nat) {oi : Oper} (ty : TypeId) {x y : Operand} (b o : Nat) (cs : List Value) {fuel : Nat} {listed : Array Bool} {a : Act} {w : World} (hr : Region.ready md ops listed = [i]) (hi : ops[i]? = some oi) (hd : oi.dst = none)
    (hw : Region.wanted oi (yielded ops a.tmps) = true) (ho : oi.op = .store ty x y) (hx : a.eval x = .pointer (some ⟨b, o, none⟩)) (hy : a.eval y = .agg cs.toArray)
    (ht : w.there b o cs.length) (hz : (P.info? ty).map (·.size) = some cs.length) (h1 : ∀ v ∈ cs, v.oneCell' = true) (hS : S (w.setCells b o cs))
    (h : wpAnyH P md ops Q S fuel (listed.setIfInBounds i true) a (w.setCells b o cs)) : wpAnyH P md ops Q S (fuel + 1) listed a w := by
  refine wpAnyH_ready hr (by simp) (AllReadyH.cons hi (fun K hK => ?_) AllReadyH.nil)
  rw [if_pos hw]
  refine wp_store_mid ty x y ho b o cs.toArray hx hy (by simpa using ht) (by simpa using hz) (all_oneCell_toArray h1) ?_
  rw [hd]
  have e : cs.toArray.toList = cs := rfl
  rw [e]
  exact hK.out _ _ hS (fun _ => h)

/-- cells set in a block, and the block as a whole -/
theorem setCells_whole (g : Nat) (t : TypeId) : ∀ (vs : List Value) (o : Nat) (w : World) (cur : Array Value), w.heap[g]? = some (.cells cur t (0, 0)) → o + vs.length ≤ cur.size →
    ∃ cur', (w.setCells g o vs).heap[g]? = some (.cells cur' t (0, 0)) ∧ cur'.toList = cur.toList.take o ++ vs ++ cur.toList.drop (o + vs.length)
  | [], o, w, cur, h, _ => ⟨cur, h, by simp⟩
  | v :: r, o, w, cur, h, hl => by
    have hs := heap_setCell_same w g o cur t v h
    have hlo : o < cur.toList.length := by simp at hl ⊢; omega
    obtain ⟨cur', h1, h2⟩ := setCells_whole g t r (o + 1) (w.setCell ⟨g, o, none⟩ v) (cur.setIfInBounds o v) hs (by simp at hl ⊢; omega)
    refine ⟨cur', h1, ?_⟩
    rw [h2, Array.toList_setIfInBounds]
    have e2 : (cur.toList.set o v).take (o + 1) = cur.toList.take o ++ [v] := by
      rw [List.take_succ_eq_append_getElem (by simpa using hlo), List.take_set_of_le (Nat.le_refl _)]
      simp
    have e3 : (cur.toList.set o v).drop (o + 1 + r.length) = cur.toList.drop (o + (v :: r).length) := by
      rw [List.drop_set_of_lt (by omega)]
      congr 1
      simp
      omega
    rw [e2, e3]
    simp

theorem flat_set {α : Type} {enc : α → List Value} {k : Nat} (hk : ∀ x, (enc x).length = k) (x : α) : ∀ (l : List α) (i : Nat), i < l.length →
    (l.set i x).flatMap enc = (l.flatMap enc).take (i * k) ++ enc x ++ (l.flatMap enc).drop (i * k + k)
  | [], i, h => by simp at h
  | y :: l, 0, _ => by
    have e : (enc y).length = k := hk y
    simp [List.flatMap_cons, ← e]
  | y :: l, i + 1, h => by
    have e : (enc y).length = k := hk y
    have ih := flat_set hk x l i (by simpa using h)
    simp only [List.set_cons_succ, List.flatMap_cons]
    rw [ih]
    have e1 : (i + 1) * k = (enc y).length + i * k := by rw [e, Nat.succ_mul]; omega
    have e3 : (enc y).length + i * k + k = (enc y).length + (i * k + k) := by omega
    rw [e1, e3, List.take_length_add_append, List.drop_length_add_append]
    simp only [List.append_assoc]

/-- one element of an own slice set -/
theorem OwnE.set {α : Type} {enc : α → List Value} {k : Nat} (hk : ∀ x, (enc x).length = k) {e : TypeId} {w : World} {base g cap : Nat} {l : List α} (h : OwnE enc k e w base (.slice (some ⟨g, 0, none⟩) l.length cap) l) (i : Nat) (hi : i < l.length) (x : α) :
    OwnE enc k e (w.setCells g (i * k) (enc x)) base (.slice (some ⟨g, 0, none⟩) (l.set i x).length cap) (l.set i x) := by
  refine ⟨flatE_len hk _, ?_⟩
  rcases h.2 with ⟨h', _⟩ | ⟨g', cap', cur, h', hb, hg, hn, hm, hs, ht⟩
  · simp at h'
  · obtain ⟨rfl, rfl⟩ : g = g' ∧ cap = cap' := by simpa using h'
    have hle : i * k + k ≤ l.length * k := by
      have := Nat.mul_le_mul_right k (Nat.succ_le_of_lt hi)
      rw [Nat.succ_mul] at this
      exact this
    have hle2 : l.length * k ≤ cap * k := Nat.mul_le_mul_right k hn
    obtain ⟨cur', h1, h2⟩ := setCells_whole g e (enc x) (i * k) w cur hg (by rw [hk]; omega)
    rw [hk] at h2
    have hsz : cur'.size = cap * k := by
      have := congrArg List.length h2
      simp [hk] at this
      omega
    refine Or.inr ⟨g, cap, cur', rfl, hb, h1, by simpa using hn, hm, hsz, ?_⟩
    rw [List.length_set, flat_set hk x l i hi, ← ht, h2]
    have hcl : cur.toList.length = cap * k := by simpa using hs
    apply List.ext_getElem?
    intro p
    simp only [List.getElem?_take, List.getElem?_append, List.getElem?_drop, List.length_append, List.length_take, hk, hcl]
    grind

theorem OwnE.lt {α : Type} {enc : α → List Value} {k : Nat} {e : TypeId} {w : World} {base : Nat} {v : Value} {l : List α} (h : OwnE enc k e w base v l) : ∀ g, v.ownBlock = some g → base ≤ g ∧ g < w.heap.size := fun g hg => h.row.lt g hg
theorem OwnE.there {α : Type} {enc : α → List Value} {k : Nat} {e : TypeId} {w : World} {base g cap : Nat} {l : List α} (h : OwnE enc k e w base (.slice (some ⟨g, 0, none⟩) l.length cap) l) (i : Nat) (hi : i < l.length) : w.there g (i * k) k := by
  rcases h.2 with ⟨h', _⟩ | ⟨g', cap', cur, h', hb, hg, hn, hm, hs, ht⟩
  · simp at h'
  · obtain ⟨rfl, rfl⟩ : g = g' ∧ cap = cap' := by simpa using h'
    have hle : i * k + k ≤ l.length * k := by
      have := Nat.mul_le_mul_right k (Nat.succ_le_of_lt hi)
      rw [Nat.succ_mul] at this
      exact this
    have hle2 : l.length * k ≤ cap * k := Nat.mul_le_mul_right k hn
    exact there_block hg _ _ (by omega)

/-- what stands where behind i exchanges -/
def revAt (l : List Mv) (i p : Nat) : Option Mv := if p < i ∨ l.length ≤ p + i then l[l.length - 1 - p]? else l[p]?
theorem rev_start (l : List Mv) (p : Nat) (hp : p < l.length) : l[p]? = revAt l 0 p := by
  unfold revAt
  rw [if_neg (by omega)]
theorem rev_step {l cur : List Mv} {i j : Nat} {xi xj : Mv} (hj : i + j + 1 = l.length) (hij : i < j) (hcl : cur.length = l.length) (hrev : ∀ p, p < l.length → cur[p]? = revAt l i p) (hxi : cur[i]? = some xi) (hxj : cur[j]? = some xj) :
    ∀ p, p < l.length → ((cur.set i xj).set j xi)[p]? = revAt l (i + 1) p := by
  intro p hp
  have h1 := hrev i (by omega)
  have h2 := hrev j (by omega)
  have h3 := hrev p hp
  unfold revAt at h1 h2 h3 ⊢
  rw [if_neg (by omega), hxi] at h1
  rw [if_neg (by omega), hxj] at h2
  rw [List.getElem?_set, List.getElem?_set]
  by_cases e1 : j = p
  · subst e1
    rw [if_pos rfl, if_pos (by simp; omega), if_pos (Or.inr (by omega)), h1]
    congr 1
    omega
  · rw [if_neg e1]
    by_cases e2 : i = p
    · subst e2
      rw [if_pos rfl, if_pos (by omega), if_pos (Or.inl (by omega)), h2]
      congr 1
      omega
    · rw [if_neg e2, h3]
      by_cases e3 : p < i ∨ l.length ≤ p + i
      · rw [if_pos e3, if_pos (by omega)]
      · rw [if_neg e3, if_neg (by omega)]
theorem rev_end {l cur : List Mv} {i : Nat} (hi : l.length ≤ i + i + 1) (hcl : cur.length = l.length) (hrev : ∀ p, p < l.length → cur[p]? = revAt l i p) : cur = l.reverse := by
  apply List.ext_getElem?
  intro p
  by_cases hp : p < l.length
  · rw [hrev p hp, List.getElem?_reverse hp]
    unfold revAt
    by_cases e3 : p < i ∨ l.length ≤ p + i
    · rw [if_pos e3]
    · rw [if_neg e3]
      congr 1
      omega
  · rw [List.getElem?_eq_none (by omega), List.getElem?_eq_none (by simp; omega)]

set_option maxHeartbeats 2000000 in
set_option maxRecDepth 100000 in
theorem reverseOps_any (w : World) (base : Nat) (v : Value) (l : List Mv) (hl : l.length ≤ 1000) (h : OwnE opC 7 38 w base v l) :
    Calls Try.prog 10 #[v] w
      fun e w' => e = .returned (.tuple #[]) ∧ OwnE opC 7 38 w' base v l.reverse ∧ Below base w w' := by
  obtain ⟨a, cap, rfl, hP, hcase⟩ := own_slE h.row
  rcases hcase with rfl | ⟨g, rfl, hg, hgl⟩
  · have hn : l = [] := by
      rcases hP with rfl | ⟨b, off, h', _⟩
      · rfl
      · simp at h'
    subst hn
    have HO : Hid (OwnE opC 7 38 w base (.slice none ([] : List Mv).length cap) ([] : List Mv).reverse) := h
    clear h hP
    go_enter Try.func10, Try.ntmps10
    go_wp2
    refine wp_loop_rounds 1 ?_
    rw [rounds_succ]
    go_wp2
    refine bodyPost_end (v := .tuple #[]) (by simp [results, Try.results10, go_sem]) rfl ?_
    exact ⟨rfl, HO.out, Below.refl _ _⟩
  go_enter Try.func10, Try.ntmps10
  go_wp2
  go_loopw [2, 3] (fun x y W => ∃ (i : Nat) (cur : List Mv), i ≤ l.length ∧ x = .int .i64 i ∧ y = .int .i64 ((l.length : Int) - 1 - (i : Int)) ∧ cur.length = l.length ∧ (∀ p, p < l.length → cur[p]? = revAt l i p) ∧ OwnE opC 7 38 W base (.slice (some ⟨g, 0, none⟩) l.length cap) cur ∧ Below base w W) (fun x _ _ => l.length - (intOf x).toNat)
  case atStart => exact ⟨0, l, Nat.zero_le _, rfl, by go_num, rfl, fun p hp => rev_start l p hp, h, Below.refl _ _⟩
  case round =>
    obtain ⟨i, cur, hi, rfl, rfl, hcl, hrev, hO, hb⟩ := hrel
    by_cases hlt : (i : Int) < (l.length : Int) - 1 - (i : Int)
    · obtain ⟨j, hj⟩ : ∃ j : Nat, (l.length : Int) - 1 - (i : Int) = j := ⟨l.length - 1 - i, by omega⟩
      have hij : i < j := by omega
      have hjl : j < l.length := by omega
      have hil : i < l.length := by omega
      have HRV : Hid (∀ p, p < l.length → cur[p]? = revAt l i p) := hrev
      obtain ⟨b, off, e1, _, r1⟩ := hO.read.at opC_len i (by omega)
      obtain ⟨rfl, rfl⟩ : g = b ∧ 0 = off := by simpa using e1
      obtain ⟨b, off, e2, _, r2⟩ := hO.read.at opC_len j (by omega)
      obtain ⟨rfl, rfl⟩ : g = b ∧ 0 = off := by simpa using e2
      rw [Nat.zero_add] at r1 r2
      obtain ⟨x0, x1, x2, x3, x4, x5, x6⟩ := op_cells r1
      obtain ⟨y0, y1, y2, y3, y4, y5, y6⟩ := op_cells r2
      have HO : Hid (OwnE opC 7 38 wr base (.slice (some ⟨g, 0, none⟩) cur.length cap) cur) := by show OwnE _ _ _ _ _ _ _; rw [hcl]; exact hO
      obtain ⟨xi, hxi⟩ : ∃ xi, cur[i]? = some xi ∧ cur[i]'(by omega) = xi := ⟨_, List.getElem?_eq_getElem (by omega), rfl⟩
      obtain ⟨xj, hxj⟩ : ∃ xj, cur[j]? = some xj ∧ cur[j]'(by omega) = xj := ⟨_, List.getElem?_eq_getElem (by omega), rfl⟩
      rw [hxi.2] at x0 x1 x2 x3 x4 x5 x6
      rw [hxj.2] at y0 y1 y2 y3 y4 y5 y6
      have HX : Hid (cur[i]? = some xi ∧ cur[j]? = some xj) := ⟨hxi.1, hxj.1⟩
      rw [hj]
      clear hxi hxj hrev hO r1 r2 e1 e2 h hP
      obtain ⟨o1, o2, ⟨o3, o4, o5⟩, o6, o7⟩ := xi
      obtain ⟨q1, q2, ⟨q3, q4, q5⟩, q6, q7⟩ := xj
      simp only at x0 x1 x2 x3 x4 x5 x6 y0 y1 y2 y3 y4 y5 y6
      have hlt2 : (i : Int) < (j : Int) := by omega
      have hjl2 : (j : Int) < (l.length : Int) := by omega
      have hil2 : (i : Int) < (l.length : Int) := by omega
      have hO1 := HO.out.drew.set opC_len i (by omega) (q1, q2, (q3, q4, q5), q6, q7)
      have hO2 := hO1.set opC_len j (by simp; omega) (o1, o2, (o3, o4, o5), o6, o7)
      have HTH : Hid (wr.drew.there g (i * 7) 7 ∧ (wr.drew.setCells g (i * 7) (opC (q1, q2, (q3, q4, q5), q6, q7))).there g (j * 7) 7) := ⟨HO.out.drew.there i (by omega), hO1.there j (by simp; omega)⟩
      have HEND : Hid (((cur.set i (q1, q2, (q3, q4, q5), q6, q7)).set j (o1, o2, (o3, o4, o5), o6, o7)).length = l.length ∧ (∀ p, p < l.length → ((cur.set i (q1, q2, (q3, q4, q5), q6, q7)).set j (o1, o2, (o3, o4, o5), o6, o7))[p]? = revAt l (i + 1) p) ∧ OwnE opC 7 38 ((wr.drew.setCells g (i * 7) (opC (q1, q2, (q3, q4, q5), q6, q7))).setCells g (j * 7) (opC (o1, o2, (o3, o4, o5), o6, o7))) base (.slice (some ⟨g, 0, none⟩) l.length cap) ((cur.set i (q1, q2, (q3, q4, q5), q6, q7)).set j (o1, o2, (o3, o4, o5), o6, o7))) := by
        refine ⟨by simpa using hcl, rev_step (by omega) hij hcl HRV.out HX.out.1 HX.out.2, ?_⟩
        have e : ((cur.set i (q1, q2, (q3, q4, q5), q6, q7)).set j (o1, o2, (o3, o4, o5), o6, o7)).length = l.length := by simpa using hcl
        rw [e] at hO2
        exact hO2
      have HBE : Hid (Below base w ((wr.drew.setCells g (i * 7) (opC (q1, q2, (q3, q4, q5), q6, q7))).setCells g (j * 7) (opC (o1, o2, (o3, o4, o5), o6, o7)))) := below_sets (below_sets hb.drew g hg _ _) g hg _ _
      clear hO1 hO2
      go_upto_region 3 with fail
      refine wp_region_held_drew (S := fun _ => True) (by kernel_rfl) trivial (fun hHeld => ?_)
      refine take_yes 0 14 (v := ?_) rfl rfl (by kernel_rfl) (by kernel_rfl) (by kernel_rfl) (fun _ _ _ h => h) (by rfl) ?_ hHeld ?_
      rotate_left 1
      · (intro w hSw; go_simp; try with_reducible rfl)
      simp only [Act.put, List.setIfInBounds_toArray, List.set_cons_succ, List.set_cons_zero]
      refine take_yes 1 15 (v := ?_) rfl rfl (by kernel_rfl) (by kernel_rfl) (by kernel_rfl) (fun _ _ _ h => h) (by rfl) ?_ hHeld ?_
      rotate_left 1
      · (intro w hSw; go_simp; try with_reducible rfl)
      simp only [Act.put, List.setIfInBounds_toArray, List.set_cons_succ, List.set_cons_zero]
      refine take_yes 2 16 (v := ?_) rfl rfl (by kernel_rfl) (by kernel_rfl) (by kernel_rfl) (fun _ _ _ h => h) (by rfl) ?_ hHeld ?_
      rotate_left 1
      · (intro w hSw; go_simp; try with_reducible rfl)
      simp only [Act.put, List.setIfInBounds_toArray, List.set_cons_succ, List.set_cons_zero]
      refine take_yes 3 17 (v := ?_) rfl rfl (by kernel_rfl) (by kernel_rfl) (by kernel_rfl) (fun _ _ _ h => h) (by rfl) ?_ hHeld ?_
      rotate_left 1
      · (intro w hSw; go_simp; try with_reducible rfl)
      simp only [Act.put, List.setIfInBounds_toArray, List.set_cons_succ, List.set_cons_zero]
      refine take_yes 4 18 (v := ?_) rfl rfl (by kernel_rfl) (by kernel_rfl) (by kernel_rfl) (fun _ _ _ h => h) (by rfl) ?_ hHeld ?_
      rotate_left 1
      · (intro w hSw; go_simp; try with_reducible rfl)
      simp only [Act.put, List.setIfInBounds_toArray, List.set_cons_succ, List.set_cons_zero]
      refine take_yes 5 19 (v := ?_) rfl rfl (by kernel_rfl) (by kernel_rfl) (by kernel_rfl) (fun _ _ _ h => h) (by rfl) ?_ hHeld ?_
      rotate_left 1
      · (intro w hSw; go_simp; try with_reducible rfl)
      simp only [Act.put, List.setIfInBounds_toArray, List.set_cons_succ, List.set_cons_zero]
      refine take_yes 6 20 (v := ?_) rfl rfl (by kernel_rfl) (by kernel_rfl) (by kernel_rfl) (fun _ _ _ h => h) (by rfl) ?_ hHeld ?_
      rotate_left 1
      · (intro w hSw; go_simp; try with_reducible rfl)
      simp only [Act.put, List.setIfInBounds_toArray, List.set_cons_succ, List.set_cons_zero]
      refine take_yes 8 22 (v := ?_) rfl rfl (by kernel_rfl) (by kernel_rfl) (by kernel_rfl) (fun _ _ _ h => h) (by rfl) ?_ hHeld ?_
      rotate_left 1
      · (intro w hSw; go_simp; try with_reducible rfl)
      simp only [Act.put, List.setIfInBounds_toArray, List.set_cons_succ, List.set_cons_zero]
      refine take_yes 9 23 (v := ?_) rfl rfl (by kernel_rfl) (by kernel_rfl) (by kernel_rfl) (fun _ _ _ h => h) (by rfl) ?_ hHeld ?_
      rotate_left 1
      · (intro w hSw; go_simp; try with_reducible rfl)
      simp only [Act.put, List.setIfInBounds_toArray, List.set_cons_succ, List.set_cons_zero]
      refine take_yes 10 24 (v := ?_) rfl rfl (by kernel_rfl) (by kernel_rfl) (by kernel_rfl) (fun _ _ _ h => h) (by rfl) ?_ hHeld ?_
      rotate_left 1
      · (intro w hSw; go_simp; try with_reducible rfl)
      simp only [Act.put, List.setIfInBounds_toArray, List.set_cons_succ, List.set_cons_zero]

      refine wpAnyH_ready (rs := [7, 11]) (by kernel_rfl) (by simp) ?_
      refine AllReadyH.cons rfl (fun K hK => ?_) (AllReadyH.cons rfl (fun K hK => ?_) AllReadyH.nil)
      · go_simp
        refine hK.out _ _ trivial (fun hHeld => ?_)
        clear hK K
        refine wpAnyH_ready (rs := [11]) (by kernel_rfl) (by simp) (AllReadyH.cons rfl (fun K hK => ?_) AllReadyH.nil)
        go_simp
        refine hK.out _ _ trivial (fun hHeld => ?_)
        clear hK K
        refine take_yes 12 26 (v := ?_) rfl rfl (by kernel_rfl) (by kernel_rfl) (by kernel_rfl) (fun _ _ _ h => h) (by rfl) ?_ hHeld ?_
        rotate_left 1
        · (intro w hSw; go_simp; try with_reducible rfl)
        simp only [Act.put, List.setIfInBounds_toArray, List.set_cons_succ, List.set_cons_zero]
        refine step_store_at 13 38 g (i * 7) [Value.int IntKind.i64 q1, Value.int IntKind.i64 q2, Value.int IntKind.i64 q3, Value.int IntKind.i64 q4, Value.int IntKind.i64 q5, Value.int IntKind.i64 q6, Value.int IntKind.i64 q7] (by kernel_rfl) rfl rfl (by rfl) (by rfl) (by rfl) (by rfl) HTH.out.1 sizeOp (opC_one (q1, q2, (q3, q4, q5), q6, q7)) trivial ?_
        refine take_yes 14 27 (v := ?_) rfl rfl (by kernel_rfl) (by kernel_rfl) (by kernel_rfl) (fun _ _ _ h => h) (by rfl) ?_ hHeld ?_
        rotate_left 1
        · (intro w hSw; go_simp; try with_reducible rfl)
        simp only [Act.put, List.setIfInBounds_toArray, List.set_cons_succ, List.set_cons_zero]
        refine step_store_at 15 38 g (j * 7) [Value.int IntKind.i64 o1, Value.int IntKind.i64 o2, Value.int IntKind.i64 o3, Value.int IntKind.i64 o4, Value.int IntKind.i64 o5, Value.int IntKind.i64 o6, Value.int IntKind.i64 o7] (by kernel_rfl) rfl rfl (by rfl) (by rfl) (by rfl) (by rfl) HTH.out.2 sizeOp (opC_one (o1, o2, (o3, o4, o5), o6, o7)) trivial ?_
        refine wpAnyH_done (by kernel_rfl) ?_ _
        clear hHeld
        go_wp2
        go_roundw
        case rel => exact ⟨i + 1, _, by omega, by go_num, by first | go_num | (congr 1; omega), HEND.out.1, HEND.out.2.1, HEND.out.2.2, HBE.out⟩
        case measure => simp [intOf]; omega
      · go_simp
        refine hK.out _ _ trivial (fun hHeld => ?_)
        clear hK K
        refine wpAnyH_ready (rs := [7]) (by kernel_rfl) (by simp) (AllReadyH.cons rfl (fun K hK => ?_) AllReadyH.nil)
        go_simp
        refine hK.out _ _ trivial (fun hHeld => ?_)
        clear hK K
        refine take_yes 12 26 (v := ?_) rfl rfl (by kernel_rfl) (by kernel_rfl) (by kernel_rfl) (fun _ _ _ h => h) (by rfl) ?_ hHeld ?_
        rotate_left 1
        · (intro w hSw; go_simp; try with_reducible rfl)
        simp only [Act.put, List.setIfInBounds_toArray, List.set_cons_succ, List.set_cons_zero]
        refine step_store_at 13 38 g (i * 7) [Value.int IntKind.i64 q1, Value.int IntKind.i64 q2, Value.int IntKind.i64 q3, Value.int IntKind.i64 q4, Value.int IntKind.i64 q5, Value.int IntKind.i64 q6, Value.int IntKind.i64 q7] (by kernel_rfl) rfl rfl (by rfl) (by rfl) (by rfl) (by rfl) HTH.out.1 sizeOp (opC_one (q1, q2, (q3, q4, q5), q6, q7)) trivial ?_
        refine take_yes 14 27 (v := ?_) rfl rfl (by kernel_rfl) (by kernel_rfl) (by kernel_rfl) (fun _ _ _ h => h) (by rfl) ?_ hHeld ?_
        rotate_left 1
        · (intro w hSw; go_simp; try with_reducible rfl)
        simp only [Act.put, List.setIfInBounds_toArray, List.set_cons_succ, List.set_cons_zero]
        refine step_store_at 15 38 g (j * 7) [Value.int IntKind.i64 o1, Value.int IntKind.i64 o2, Value.int IntKind.i64 o3, Value.int IntKind.i64 o4, Value.int IntKind.i64 o5, Value.int IntKind.i64 o6, Value.int IntKind.i64 o7] (by kernel_rfl) rfl rfl (by rfl) (by rfl) (by rfl) (by rfl) HTH.out.2 sizeOp (opC_one (o1, o2, (o3, o4, o5), o6, o7)) trivial ?_
        refine wpAnyH_done (by kernel_rfl) ?_ _
        clear hHeld
        go_wp2
        go_roundw
        case rel => exact ⟨i + 1, _, by omega, by go_num, by first | go_num | (congr 1; omega), HEND.out.1, HEND.out.2.1, HEND.out.2.2, HBE.out⟩
        case measure => simp [intOf]; omega
    · have e := rev_end (by omega) hcl hrev
      subst e
      go_wp2
      refine bodyPost_end (v := .tuple #[]) (by simp [results, Try.results10, go_sem]) rfl ?_
      exact ⟨rfl, hO, hb⟩
end Go.Proofs.Ytphameoibnimmab

/- orangerylaw.at: a number brought within bounds. -/
namespace Go.Proofs.Ytphameoibnimmab
open Go.ChangeShapes Go.WideShapes Go.ChangeAt Go.RowKit
open Orangery (atI)

set_option maxHeartbeats 400000 in
theorem at_any (w : World) (k n : Int) (hn : 0 < n) (hn2 : n ≤ 4611686018427387904) :
    Calls Try.prog 8 #[.int .i64 k, .int .i64 n] w fun e w' => e = .returned (.int .i64 (atI k n)) ∧ w' = w := by
  obtain ⟨⟨h1, h2⟩, hat⟩ := Orangery.tmod_at k n hn
  have HA : Hid (atI k n = if k.tmod n < 0 then k.tmod n + n else k.tmod n) := hat
  have hnz : (n == 0) = false := by simp; omega
  clear hat
  by_cases hneg : k.tmod n < 0
  · go_enter Try.func8, Try.ntmps8
    go_wp2
    go_ret
    exact ⟨ret_int (by rw [HA.out, if_pos hneg]), rfl⟩
  · go_enter Try.func8, Try.ntmps8
    go_wp2
    go_ret
    exact ⟨ret_int (by rw [HA.out, if_neg (by omega)]), rfl⟩

end Go.Proofs.Ytphameoibnimmab

/- orangerylaw.HistoryAny: the walk. -/
namespace Go.Proofs.Ytphameoibnimmab
open Go.ChangeShapes Go.WideShapes Go.ChangeAt Go.RowKit
open Orangery (Pl Mv Stp check checkOp foldE foldL foldT insE insL insT sameB atI)

theorem at_bounds (k n : Int) (hn : 0 < n) : 0 ≤ atI k n ∧ atI k n < n := by
  obtain ⟨⟨h1, h2⟩, h3⟩ := Orangery.tmod_at k n hn
  rw [h3]
  split <;> omega

set_option maxHeartbeats 4000000 in
set_option maxRecDepth 100000 in
theorem historyAny_any (w : World) (a : Option Addr) (c : Nat) (l : List Mv) (x : Int) (hl : l.length ≤ maxLen) (hc : l.length ≤ c) (hc2 : c ≤ maxLen) (hn : a = none → c = 0) (h : SlE opC w a l) :
    Calls Try.prog 3 #[.slice a l.length c, .int .i64 x] w
      fun e w' => e = .returned (.bool true) ∧ Below w.heap.size w w' := by
  have HH : Hid (SlE opC w a l) := h
  have hlM : l.length ≤ 9223372036854775807 := hl
  have hcM : c ≤ 9223372036854775807 := hc2
  have hf := fold_any w a c l hl hc h
  clear h
  go_enter Try.func3, Try.ntmps3
  go_wp2_with fail
  refine hf.mono ?_
  rintro e w1 ⟨vL, vT, rfl, hL1, hT1, hb1⟩
  obtain ⟨aT, cT, rfl⟩ := hT1.val
  obtain ⟨aL, cL, rfl, hPL, _⟩ := hL1.val
  have hPT := hT1.read
  obtain ⟨W1, hW1, hH1, hBn, hS1⟩ := laid1 w1 [Value.slice aL (foldL l).length cL, Value.slice aT (foldT l).length cT] 28
  have hPL1 := hPL.below hBn
  have hPT1 := hPT.below hBn
  have HB1 : Hid (Below w.heap.size w W1) := hb1.trans (hBn.mono hb1.size)
  have hw1 : w.heap.size ≤ w1.heap.size := hb1.size
  clear hf hL1 hT1 hPL hPT hb1 hBn hS1
  go_wp2_with fail
  clear hW1
  refine (folded_any W1).mono ?_
  rintro e w2 ⟨rfl, hb2⟩
  have hH2 := hH1.keep hb2
  have hPL2 := hPL1.below hb2
  have hPT2 := hPT1.below hb2
  have HB2 : Hid (Below w.heap.size w w2) := HB1.out.trans (hb2.mono HB1.out.size)
  have hw2 : w1.heap.size + 1 ≤ w2.heap.size := hH2.lt
  clear hH1 hPL1 hPT1 HB1 hb2
  by_cases hz : foldE l = 0
  case neg =>
    have hz' : (foldE l != 0) = true := by simpa using hz
    clear hz
    go_wp2_with fail
    refine (folded_any w2).mono ?_
    rintro e w3 ⟨rfl, hb3⟩
    have HB3 : Hid (Below w.heap.size w w3) := HB2.out.trans (hb3.mono HB2.out.size)
    clear hb3
    go_wp2
    go_ret
    exact ⟨rfl, HB3.out⟩
  case pos =>
    have HZ : Hid (foldE l = 0) := hz
    have hlen : l.length ≤ 30 := ((Orangery.foldE_zero l).1 hz).1
    have hz' : (foldE l != 0) = false := by simp [hz]
    obtain ⟨ha1, ha2⟩ := at_bounds x ((l.length : Int) + 1) (by omega)
    obtain ⟨k, hk⟩ : ∃ k : Nat, atI x ((l.length : Int) + 1) = k := ⟨(atI x ((l.length : Int) + 1)).toNat, by omega⟩
    have hkl : k ≤ l.length := by omega
    have HAT : Hid (∀ W, Calls Try.prog 8 #[.int .i64 x, .int .i64 ((l.length : Int) + 1)] W fun e w' => e = .returned (.int .i64 (k : Int)) ∧ w' = W) := fun W => by
      have := at_any W x ((l.length : Int) + 1) (by omega) (by omega)
      rw [hk] at this
      exact this
    clear ha1 ha2 hk hz
    go_wp2_with fail
    refine (HAT.out w2).mono ?_
    rintro e w2 ⟨rfl, rfl⟩
    have hk1 : (k : Int) ≤ (c : Int) := by omega
    have hk2 : (k : Int) ≤ (l.length : Int) := by omega
    go_upto_region 5 with fail
    have hP2 := HH.out.below HB2.out
    go_cut [7] from 28 to 35 (fun v wc => OwnE opC 7 38 wc w2.heap.size v (l.drop k ++ l.take k) ∧ Below w2.heap.size w2 wc)
    case first =>
      cases a with
      | none =>
        have e1 : l = [] := hP2.none_nil
        have e2 : c = 0 := hn rfl
        subst e1 e2
        obtain rfl : k = 0 := by simpa using hkl
        refine wp_region_held_drew (S := fun w' => Below w2.heap.size w2 w') (by kernel_rfl) ((Below.refl _ w2).drew) (fun hHeld => ?_)
        refine take_yes 0 28 (v := ?_) rfl rfl (by kernel_rfl) (by kernel_rfl) (by kernel_rfl) (fun _ _ _ h => h) (by rfl) ?_ hHeld ?_
        rotate_left 1
        · (intro w hSw; go_simp; try with_reducible rfl)
        simp only [Act.put, List.setIfInBounds_toArray, List.set_cons_succ, List.set_cons_zero]
        refine take_yes 1 29 (v := ?_) rfl rfl (by kernel_rfl) (by kernel_rfl) (by kernel_rfl) (fun _ _ _ h => h) (by rfl) ?_ hHeld ?_
        rotate_left 1
        · (intro w hSw; go_simp; try with_reducible rfl)
        simp only [Act.put, List.setIfInBounds_toArray, List.set_cons_succ, List.set_cons_zero]
        refine take_yes 2 30 (v := ?_) rfl rfl (by kernel_rfl) (by kernel_rfl) (by kernel_rfl) (fun _ _ _ h => h) (by rfl) ?_ hHeld ?_
        rotate_left 1
        · (intro w hSw; go_simp; try with_reducible rfl)
        simp only [Act.put, List.setIfInBounds_toArray, List.set_cons_succ, List.set_cons_zero]
        refine take_yes 3 31 (v := ?_) rfl rfl (by kernel_rfl) (by kernel_rfl) (by kernel_rfl) (fun _ _ _ h => h) (by rfl) ?_ hHeld ?_
        rotate_left 1
        · (intro w hSw; go_simp; try with_reducible rfl)
        simp only [Act.put, List.setIfInBounds_toArray, List.set_cons_succ, List.set_cons_zero]
        refine take_yes 4 32 (v := ?_) rfl rfl (by kernel_rfl) (by kernel_rfl) (by kernel_rfl) (fun _ _ _ h => h) (by rfl) ?_ hHeld ?_
        rotate_left 1
        · (intro w hSw; go_simp; try with_reducible rfl)
        simp only [Act.put, List.setIfInBounds_toArray, List.set_cons_succ, List.set_cons_zero]
        refine take_yes 5 33 (v := ?_) rfl rfl (by kernel_rfl) (by kernel_rfl) (by kernel_rfl) (fun _ _ _ h => h) (by rfl) ?_ hHeld ?_
        rotate_left 1
        · (intro w hSw; go_simp; try with_reducible rfl)
        simp only [Act.put, List.setIfInBounds_toArray, List.set_cons_succ, List.set_cons_zero]
        refine wpAnyH_ready (rs := [6]) (by kernel_rfl) (by simp) (AllReadyH.cons rfl (fun K hK => ?_) AllReadyH.nil)
        go_simp
        have hSA : Below w2.heap.size w2 (w2.alloc (Obj.cells #[Value.slice none 0 0, Value.slice none 0 0] 22)).drew := ((Below.refl _ w2).alloc (Nat.le_refl _) _).drew
        have hN := (Blk.new w2 [Value.slice none 0 0, Value.slice none 0 0] 22).drew
        refine hK.out _ _ hSA (fun hHeld => ?_)
        clear hK K
        refine wpAnyH_ready (rs := [7]) (by kernel_rfl) (by simp) (AllReadyH.cons rfl (fun K hK => ?_) AllReadyH.nil)
        go_simp
        refine (concatOps_any _ w2.heap.size none none 0 0 [] [] (by simp) (by simp) (fun _ => rfl) (fun _ => rfl) (hN.at 0 rfl) (hN.at 1 rfl) (Or.inl rfl) (Or.inl rfl)).mono ?_
        rintro e w3 ⟨v3, rfl, hO3, hb3⟩
        have hS3 : Below w2.heap.size w2 w3 := hSA.trans (hb3.mono hSA.size)
        have hO3' := hO3.mono (base' := w2.heap.size) (by show _ ≤ (w2.alloc _).heap.size; simp)
        go_wp2_with fail
        refine hK.out _ _ hS3 (fun hHeld => ?_)
        clear hK K
        refine take_yes 8 7 (v := ?_) rfl rfl (by kernel_rfl) (by kernel_rfl) (by kernel_rfl) (fun _ _ _ h => h) (by rfl) ?_ hHeld ?_
        rotate_left 1
        · (intro w hSw; go_simp; try with_reducible rfl)
        simp only [Act.put, List.setIfInBounds_toArray, List.set_cons_succ, List.set_cons_zero]
        refine wpAnyH_done (by kernel_rfl) ?_ _
        clear hHeld
        go_wp2
        go_meet
        case rel => exact ⟨hO3', hS3⟩
      | some ad =>
        obtain ⟨a3, ha3⟩ : ∃ a3, (if c = k then some ad else some (ad.add (k * 7))) = a3 := ⟨_, rfl⟩
        have HD : Hid (∀ W, SlE opC W (some ad) l → SlE opC W a3 (l.drop k)) := fun W hW => by
          rw [← ha3]
          by_cases hck : c = k
          · exact Or.inl (by rw [List.drop_eq_nil_iff]; omega)
          · rw [if_neg hck]
            rcases hW with rfl | ⟨b, off, hab, hlt, hr⟩
            · exact Or.inl (by simp)
            · simp at hab
              subst hab
              refine Or.inr ⟨b, off + k * 7, by rw [Addr.add_mid], hlt, fun j v hv => ?_⟩
              have e : l.flatMap opC = (l.take k).flatMap opC ++ (l.drop k).flatMap opC := by rw [← List.flatMap_append, List.take_append_drop]
              have := hr (k * 7 + j) v (by
                rw [e, List.getElem?_append_right (by rw [flatE_len opC_len, List.length_take_of_le hkl]; omega), flatE_len opC_len, List.length_take_of_le hkl, Nat.add_sub_cancel_left]
                exact hv)
              rw [← Nat.add_assoc] at this
              exact this
        have HN3 : Hid (a3 = none → c - k = 0) := fun e => by
          rw [← ha3] at e
          split at e <;> simp at e
        have HL : Hid ((l.drop k).length = l.length - k ∧ (l.take k).length = k) := ⟨by simp, by simp; omega⟩
        refine wp_region_held_drew (S := fun w' => Below w2.heap.size w2 w') (by kernel_rfl) ((Below.refl _ w2).drew) (fun hHeld => ?_)
        refine take_yes 0 28 (v := ?_) rfl rfl (by kernel_rfl) (by kernel_rfl) (by kernel_rfl) (fun _ _ _ h => h) (by rfl) ?_ hHeld ?_
        rotate_left 1
        · (intro w hSw; go_simp; try with_reducible rfl)
        simp only [Act.put, List.setIfInBounds_toArray, List.set_cons_succ, List.set_cons_zero]
        refine take_yes 1 29 (v := ?_) rfl rfl (by kernel_rfl) (by kernel_rfl) (by kernel_rfl) (fun _ _ _ h => h) (by rfl) ?_ hHeld ?_
        rotate_left 1
        · (intro w hSw; go_simp; try with_reducible rfl)
        simp only [Act.put, List.setIfInBounds_toArray, List.set_cons_succ, List.set_cons_zero]
        refine take_yes 2 30 (v := ?_) rfl rfl (by kernel_rfl) (by kernel_rfl) (by kernel_rfl) (fun _ _ _ h => h) (by rfl) ?_ hHeld ?_
        rotate_left 1
        · (intro w hSw; go_simp; try with_reducible rfl)
        simp only [Act.put, List.setIfInBounds_toArray, List.set_cons_succ, List.set_cons_zero]
        refine take_yes 3 31 (v := ?_) rfl rfl (by kernel_rfl) (by kernel_rfl) (by kernel_rfl) (fun _ _ _ h => h) (by rfl) ?_ hHeld ?_
        rotate_left 1
        · (intro w hSw; go_simp; try with_reducible rfl)
        simp only [Act.put, List.setIfInBounds_toArray, List.set_cons_succ, List.set_cons_zero]
        refine take_yes 4 32 (v := ?_) rfl rfl (by kernel_rfl) (by kernel_rfl) (by kernel_rfl) (fun _ _ _ h => h) (by rfl) ?_ hHeld ?_
        rotate_left 1
        · (intro w hSw; go_simp; try with_reducible rfl)
        simp only [Act.put, List.setIfInBounds_toArray, List.set_cons_succ, List.set_cons_zero]
        refine take_yes 5 33 (v := ?_) rfl rfl (by kernel_rfl) (by kernel_rfl) (by kernel_rfl) (fun _ _ _ h => h) (by rfl) ?_ hHeld ?_
        rotate_left 1
        · (intro w hSw; go_simp; try with_reducible rfl)
        simp only [Act.put, List.setIfInBounds_toArray, List.set_cons_succ, List.set_cons_zero]
        refine wpAnyH_ready (rs := [6]) (by kernel_rfl) (by simp) (AllReadyH.cons rfl (fun K hK => ?_) AllReadyH.nil)
        go_simp
        have hSA : Below w2.heap.size w2 (w2.alloc (Obj.cells #[Value.slice a3 (l.length - k) (c - k), Value.slice (some ad) k c] 22)).drew := ((Below.refl _ w2).alloc (Nat.le_refl _) _).drew
        have hN := (Blk.new w2 [Value.slice a3 (l.length - k) (c - k), Value.slice (some ad) k c] 22).drew
        refine hK.out _ _ hSA (fun hHeld => ?_)
        clear hK K
        refine wpAnyH_ready (rs := [7]) (by kernel_rfl) (by simp) (AllReadyH.cons rfl (fun K hK => ?_) AllReadyH.nil)
        go_simp
        have hcc := concatOps_any (w2.alloc (Obj.cells #[Value.slice a3 (l.length - k) (c - k), Value.slice (some ad) k c] 22)).drew w2.heap.size a3 (some ad) (c - k) c (l.drop k) (l.take k) (by rw [HL.out.1]; omega) (by rw [HL.out.2]; omega) HN3.out (fun e => by simp at e) (by rw [HL.out.1]; exact hN.at 0 rfl) (by rw [HL.out.2]; exact hN.at 1 rfl) (HD.out _ (hP2.below hSA)) ((hP2.below hSA).take k)
        refine hcc.mono ?_
        rintro e w3 ⟨v3, rfl, hO3, hb3⟩
        have hS3 : Below w2.heap.size w2 w3 := hSA.trans (hb3.mono hSA.size)
        have hO3' := hO3.mono (base' := w2.heap.size) (by show _ ≤ (w2.alloc _).heap.size; simp)
        go_wp2_with fail
        refine hK.out _ _ hS3 (fun hHeld => ?_)
        clear hK K
        refine take_yes 8 7 (v := ?_) rfl rfl (by kernel_rfl) (by kernel_rfl) (by kernel_rfl) (fun _ _ _ h => h) (by rfl) ?_ hHeld ?_
        rotate_left 1
        · (intro w hSw; go_simp; try with_reducible rfl)
        simp only [Act.put, List.setIfInBounds_toArray, List.set_cons_succ, List.set_cons_zero]
        refine wpAnyH_done (by kernel_rfl) ?_ _
        clear hHeld
        go_wp2
        go_meet
        case rel => exact ⟨hO3', hS3⟩
    case rest =>
      obtain ⟨hO3, hb3⟩ := hcut
      have HPM : Hid (l.Perm (l.drop k ++ l.take k).reverse) := by
        show List.Perm _ _
        refine List.Perm.symm ((List.reverse_perm _).trans ?_)
        exact (List.perm_append_comm).trans (by rw [List.take_append_drop])
      have hlR : (l.drop k ++ l.take k).length ≤ 1000 := by rw [List.length_append, List.length_drop, List.length_take]; omega
      generalize l.drop k ++ l.take k = M at *
      clear hP2 hk1 hk2 hkl
      go_wp2_with fail
      refine (reverseOps_any wc w2.heap.size _ M hlR hO3).mono ?_
      rintro e w4 ⟨rfl, hO4, hb4⟩
      have hS4 : Below w2.heap.size w2 w4 := hb3.trans hb4
      have hH4 := hH2.keep hS4
      have hPL4 := hPL2.below hS4
      have hPT4 := hPT2.below hS4
      have HB4 : Hid (Below w.heap.size w w4) := HB2.out.trans (hS4.mono HB2.out.size)
      obtain ⟨a7, c7, rfl, hPR, _⟩ := hO4.val
      have HR0 : Hid (foldE M.reverse = 0 ∧ Orangery.srt M.reverse = Orangery.srt l) := Orangery.foldE_perm HPM.out HZ.out
      have HEQ : Hid (foldL M.reverse = foldL l ∧ foldT M.reverse = foldT l) := Orangery.fold_perm HPM.out HZ.out
      have hRl : M.reverse.length ≤ 30 := by rw [← HPM.out.length_eq]; exact hlen
      generalize M.reverse = R at *
      clear hH2 hPL2 hPT2 HB2 hb3 hb4 hS4 hO3 hO4
      obtain ⟨W5, hW5, hB5, hBn, hS5⟩ := laid1 w4 [Value.slice none 0 0, Value.slice none 0 0] 28
      go_wp2
      clear hW5 hS5
      go_loopw [40] (fun i W => ∃ (n : Nat) (vL vT : Value), n ≤ R.length ∧ i = .int .i64 n ∧ Blk W w4.heap.size [vL, vT] ∧ OwnE stC 11 47 W (w4.heap.size + 1) vL (foldL (R.take n)) ∧ OwnS W (w4.heap.size + 1) vT (foldT (R.take n)) ∧ Below w4.heap.size w4 W) (fun i _ => R.length - (intOf i).toNat)
      case atStart => exact ⟨0, _, _, Nat.zero_le _, rfl, hB5, OwnE.nil _ _, Or.inl ⟨rfl, rfl⟩, hBn⟩
      case round =>
        clear hB5 hBn
        obtain ⟨n, vL, vT, hnR, rfl, hBx, hOL, hOT, hb⟩ := hrel
        obtain ⟨aX, cX, rfl, hPX, _⟩ := hOL.val
        obtain ⟨aY, cY, rfl⟩ := hOT.val
        have hPY := hOT.read
        have x0 := hBx.at 0 rfl
        have x1 := hBx.at 1 rfl
        by_cases hlt : n < R.length
        · obtain ⟨b, off, rfl, hbl, hr⟩ := (hPR.below hb).at opC_len n hlt
          obtain ⟨g0, g1, g2, g3, g4, g5, g6⟩ := op_cells hr
          have et : R.take (n + 1) = R.take n ++ [R[n]] := List.take_succ_eq_append_getElem hlt
          have e1 : foldE (R.take (n + 1)) = 0 := Orangery.fold_prefix (m := R.drop (n + 1)) (by rw [List.take_append_drop]; exact HR0.out.1)
          have e0 : foldE (R.take n) = 0 := Orangery.fold_prefix (m := [R[n]]) (by rw [← et]; exact e1)
          obtain ⟨i1, i2, i3⟩ := Orangery.ins_fold e0 R[n] (by rw [← et]; exact e1)
          have hck := (Orangery.fold_ok e1).2.2.2.2
          have HINS : Hid (∀ W, SlE stC W aX (foldL (R.take n)) → SlP W aY (foldT (R.take n)) → Calls Try.prog 11 #[hiV (.slice aX (foldL (R.take n)).length cX) (.slice aY (foldT (R.take n)).length cY), opV R[n]] W fun e w' => Folds W (foldL (R.take (n + 1))) (foldT (R.take (n + 1))) 0 e w') := fun W p1 p2 => by
            have hlf := foldL_len (R.take n)
            have hlt := foldT_len (R.take n)
            have := insert_any W aX aY cX cY (foldL (R.take n)) (foldT (R.take n)) R[n] (by omega) (by unfold maxLen; omega) p1 p2
            rw [i1, i2, i3, ← et] at this
            exact this
          have HCK : Hid (check (foldT (R.take (n + 1))) = 0) := hck
          have hlt1 := foldT_len (R.take (n + 1))
          clear hr et e0 e1 i1 i2 i3 hck
          generalize R[n] = o at *
          obtain ⟨o1, o2, ⟨o3, o4, o5⟩, o6, o7⟩ := o
          simp only at g0 g1 g2 g3 g4 g5 g6
          generalize foldL (R.take n) = LX at *
          generalize foldT (R.take n) = TX at *
          generalize hLn : foldL (R.take (n + 1)) = Ln at *
          generalize hTn : foldT (R.take (n + 1)) = Tn at *
          have HLN : Hid (foldL (R.take (n + 1)) = Ln ∧ foldT (R.take (n + 1)) = Tn) := ⟨hLn, hTn⟩
          clear hLn hTn
          obtain ⟨W6, hW6, hN6, hBn6, hS6⟩ := laid1 wr [Value.int IntKind.i64 o1, Value.int IntKind.i64 o2, Value.int IntKind.i64 o3, Value.int IntKind.i64 o4, Value.int IntKind.i64 o5, Value.int IntKind.i64 o6, Value.int IntKind.i64 o7] 38
          have hBx6 := hBx.keep hBn6
          have hPX6 := hPX.below hBn6
          have hPY6 := hPY.below hBn6
          have HB6 : Hid (Below w4.heap.size w4 W6) := hb.trans (hBn6.mono hb.size)
          have n0 := hN6.at 0 rfl
          have n1 := hN6.at 1 rfl
          have n2 := hN6.at 2 rfl
          have n3 := hN6.at 3 rfl
          have n4 := hN6.at 4 rfl
          have n5 := hN6.at 5 rfl
          have n6 := hN6.at 6 rfl
          have z0 := hBx6.at 0 rfl
          have z1 := hBx6.at 1 rfl
          clear hBx hPX hPY hb hBn6 hS6 hOL hOT x0 x1 hN6
          go_wp2_with fail
          refine (HINS.out W6 hPX6 hPY6).mono ?_
          rintro e w7 ⟨vL7, vT7, rfl, hL7, hT7, hb7⟩
          have hBx7 := hBx6.keep hb7
          have HB7 : Hid (Below w4.heap.size w4 w7) := HB6.out.trans (hb7.mono HB6.out.size)
          have hsz6 : w4.heap.size + 1 ≤ W6.heap.size := hBx6.lt
          have hL8 := hL7.mono (base' := w4.heap.size + 1) hsz6
          have hT8 := hT7.mono (base' := w4.heap.size + 1) hsz6
          obtain ⟨aP, cP, rfl, _, _⟩ := hL8.val
          obtain ⟨aQ, cQ, rfl⟩ := hT8.val
          have hBx8 := hBx7.sets [Value.slice aP Ln.length cP, Value.slice aQ Tn.length cQ] rfl
          have hL9 := OwnE.others w4.heap.size (by omega) [Value.slice aP Ln.length cP, Value.slice aQ Tn.length cQ] 0 w7 hL8
          have hT9 := OwnS.others w4.heap.size (by omega) [Value.slice aP Ln.length cP, Value.slice aQ Tn.length cQ] 0 w7 hT8
          have HB9 : Hid (Below w4.heap.size w4 (w7.setCells w4.heap.size 0 [Value.slice aP Ln.length cP, Value.slice aQ Tn.length cQ])) := below_sets HB7.out w4.heap.size (Nat.le_refl _) [Value.slice aP Ln.length cP, Value.slice aQ Tn.length cQ] 0
          have y0 := hBx7.at 0 rfl
          have y1 := hBx7.at 1 rfl
          have yf := hBx7.frz
          have t1 := hBx8.at 1 rfl
          clear hL7 hT7 hb7 hBx6 hPX6 hPY6 HB6 hL8 hT8 hBx7 n0 n1 n2 n3 n4 n5 n6 z0 z1 hW6 g0 g1 g2 g3 g4 g5 g6
          go_upto_region 12 with fail
          change Code.wp _ _ _ _ (w7.setCells w4.heap.size 0 [Value.slice aP Ln.length cP, Value.slice aQ Tn.length cQ])
          generalize w7.setCells w4.heap.size 0 [Value.slice aP Ln.length cP, Value.slice aQ Tn.length cQ] = W9 at *
          clear y0 y1 yf
          go_wp2_with fail
          refine (check_any W9 aQ cQ Tn (by unfold maxLen; omega) hT9.read).mono ?_
          rintro e w10 ⟨rfl, hb10⟩
          rw [HCK.out]
          have hBx10 := hBx8.keep hb10
          have hL10 := hL9.keep hb10
          have hT10 := hT9.below hb10
          have HB10 : Hid (Below w4.heap.size w4 w10) := HB9.out.trans (hb10.mono HB9.out.size)
          clear hBx8 hL9 hT9 HB9 hb10 t1
          go_wp2
          go_roundw
          case rel =>
            refine ⟨n + 1, _, _, hlt, by go_num, hBx10, ?_, ?_, HB10.out⟩
            · rw [HLN.out.1]; exact hL10
            · rw [HLN.out.2]; exact hT10
          case measure => simp [intOf]; omega
        · have hnl : n = R.length := by omega
          subst hnl
          rw [List.take_of_length_le (Nat.le_refl _), HEQ.out.1] at hOL hPX
          rw [List.take_of_length_le (Nat.le_refl _), HEQ.out.2] at hOT hPY
          have x0' := x0
          have x1' := x1
          rw [List.take_of_length_le (Nat.le_refl _), HEQ.out.1] at x0'
          rw [List.take_of_length_le (Nat.le_refl _), HEQ.out.2] at x1'
          have hHr := hH4.keep hb
          have hPLr := hPL4.below hb
          have hPTr := hPT4.below hb
          have HBr : Hid (Below w.heap.size w wr) := HB4.out.trans (hb.mono HB4.out.size)
          have v0 := hHr.at 0 rfl
          have v1 := hHr.at 1 rfl
          have hfl : (foldL l).length ≤ maxLen := by have := foldL_len l; unfold maxLen; omega
          have hft : (foldT l).length ≤ maxLen := by have := foldT_len l; unfold maxLen; omega
          have HSB : Hid (sameB (foldL l) (foldL l) (foldT l) (foldT l) = true) := (Orangery.sameB_iff _ _ _ _).2 ⟨rfl, rfl⟩
          clear x0 x1 hBx hb hOL hOT hHr
          go_wp2_with fail
          refine (same_any wr aX aL aY aT cX cL cY cT (foldL l) (foldL l) (foldT l) (foldT l) hfl hft hPX hPLr hPY hPTr).mono ?_
          rintro e w9 ⟨rfl, hb9⟩
          rw [HSB.out]
          have HB9 : Hid (Below w.heap.size w w9) := HBr.out.trans (hb9.mono HBr.out.size)
          clear hb9
          go_wp2
          go_ret
          exact ⟨rfl, HB9.out⟩
end Go.Proofs.Ytphameoibnimmab

/- A tree that came in as an argument: which places it holds. -/
namespace Go.Proofs.Ytphameoibnimmab
open Go.ChangeShapes Go.WideShapes Go.ChangeAt Go.RowKit
open Orangery (Pl)

theorem cells3_of {w : World} {base : Nat} {a : Addr} {cs : List Value} (h : w.cells? base a 3 = some cs) :
    ∃ x y z, cs = [x, y, z] ∧ w.cell? (a.add 0) = some x ∧ w.cell? (a.add 1) = some y ∧ w.cell? (a.add 2) = some z := by
  unfold World.cells? at h
  split at h
  · simp only [show List.range 3 = [0, 1, 2] from rfl, List.mapM_cons, List.mapM_nil] at h
    cases h0 : w.cell? (a.add 0) with
    | none => simp [h0] at h
    | some x =>
      cases h1 : w.cell? (a.add 1) with
      | none => simp [h0, h1] at h
      | some y =>
        cases h2 : w.cell? (a.add 2) with
        | none => simp [h0, h1, h2] at h
        | some z =>
          simp [h0, h1, h2] at h
          exact ⟨x, y, z, h.symm, rfl, rfl, rfl⟩
  · simp at h

theorem add_at (b off i : Nat) : (⟨b, off, none⟩ : Addr).add i = ⟨b, off + i, none⟩ := by
  unfold Addr.add
  by_cases hz : i = 0 <;> simp [hz]

/-- a slice of places that is read -/
theorem open_places {H : Type} {enc : TypeId × Value → H} {w : World} {base fuel : Nat} {spare : Nat → Bool} {held : Bool} {v : Value} {x : DataW H × List MemPlace}
    (h : DataW.trod enc Try.prog w base spare held fuel 24 [v] = some x) : ∃ a c, ∃ l : List Pl, v = .slice a l.length c ∧ l.length ≤ maxLen ∧ SlP w a l := by
  rcases Go.Deep.open_slice Try.underlying24 h with ⟨hcs, _⟩ | ⟨a, len, cap, m, n, D, Pq, hcs, _, hle, hm, hmm, _, hel⟩
  · simp at hcs
    subst hcs
    exact ⟨none, 0, [], rfl, by simp, Or.inl rfl⟩
  · simp at hcs
    subst hcs
    have hlm : len ≤ m := by rw [hmm]; split <;> omega
    have hC : Try.prog.cellsOf 45 = 3 := by kernel_rfl
    have hI : Try.prog.cellsOf 3 = 1 := by kernel_rfl
    have key : ∀ i, i < len → ∃ q : Pl, w.cell? ((a.add (i * 3)).add 0) = some (.int .i64 q.1) ∧ w.cell? ((a.add (i * 3)).add 1) = some (.int .i64 q.2.1) ∧ w.cell? ((a.add (i * 3)).add 2) = some (.int .i64 q.2.2) := by
      intro i hi
      obtain ⟨cs', h1, h2⟩ := hel i (by omega)
      rw [hC] at h1
      obtain ⟨x, y, z, rfl, c0, c1, c2⟩ := cells3_of h1
      obtain ⟨y0, y1, y2, n', _, _, t0, t1, t2⟩ := Go.Deep.trod_struct3 Try.underlying45 h2
      simp [hI] at t0 t1 t2
      obtain ⟨q0, e0, _, _⟩ := DataW.trod_int Try.underlying3 t0
      obtain ⟨q1, e1, _, _⟩ := DataW.trod_int Try.underlying3 t1
      obtain ⟨q2, e2, _, _⟩ := DataW.trod_int Try.underlying3 t2
      simp at e0 e1 e2
      subst e0 e1 e2
      exact ⟨(q0, q1, q2), c0, c1, c2⟩
    obtain ⟨f, hf⟩ := Go.Deep.choose_lt key
    refine ⟨some a, cap, (List.range len).map f, by simp, by simp; omega, ?_⟩
    by_cases hz : len = 0
    · exact Or.inl (by simp [hz])
    · right
      have h0 := (hf 0 (by omega)).1
      obtain ⟨b, off, spot⟩ := a
      have hspot : spot = none := by simpa [Addr.add] using World.cell?_spot h0
      subst hspot
      have hb : b < w.heap.size := by
        have := World.block_lt_of_cell? w _ h0
        rw [add_at, add_at] at this
        exact this
      refine ⟨b, off, rfl, hb, fun i hi => ?_⟩
      have hi' : i < len := by simpa using hi
      have := hf i hi'
      rw [add_at, add_at, add_at, add_at] at this
      simpa using this

set_option maxRecDepth 100000 in
/-- a tree that came in -/
theorem open_tree {H : Type} {enc : TypeId × Value → H} {w : World} {r : Reach} {b0 base : Nat} {spare : Nat → Bool} {held : Bool} {v : Value} {d : DataW H} {p : List MemPlace}
    (hv : Value.okWide Try.prog w r b0 26 v) (h : DataW.Trod enc Try.prog w base spare held 26 v d p) : ∃ a c, ∃ l : List Pl, v = .agg #[.slice a l.length c] ∧ l.length ≤ maxLen ∧ SlP w a l := by
  obtain ⟨cs, rfl, hsz⟩ := okWide_struct Try.underlying26 hv
  have hC : Try.prog.cellsOf 26 = 1 := by kernel_rfl
  have hD : Try.prog.cellsOf 24 = 1 := by kernel_rfl
  rw [hC] at hsz
  obtain ⟨c0, rfl⟩ : ∃ c0, cs = #[c0] := by
    have h1 : cs.toList.length = 1 := by simpa using hsz
    obtain ⟨x, hx⟩ := List.length_eq_one_iff.1 h1
    exact ⟨x, by cases cs; simp_all⟩
  obtain ⟨fuel, hf⟩ := h
  obtain ⟨y0, n, _, _, h0⟩ := trod_struct1 Try.underlying26 hf
  simp [Value.cells, hD] at h0
  obtain ⟨a, c, l, rfl, h1, h2⟩ := open_places h0
  exact ⟨a, c, l, rfl, h1, h2⟩
end Go.Proofs.Ytphameoibnimmab

