/- 7 texts of the proof: slices.Grow of nothing, slices.Concat at places. slices.DeleteFunc at places, on a slice of the call's own. cmp.Compare, cmp.Or at ints; tree.byName. move.without, move.with$1. Results that lie in cells: how a call hands them back. view.split: what is known, and the way up, each in new memory. cmp.Or at error numbers. -/
import Derived.Lib.AppendZerosOnto
import Derived.Laws.AppendOwnNone
import Derived.Shelf.SlSortFuncK.RowK2
import Derived.Deep.RegionHeld3
import Derived.Sort.Grow
import Derived.Maps.AppendAt
import Derived.Test.YtljbchkmoekpmadGreatP05
import Derived.Test.YtljbchkmoekpmadGreatP04
import Derived.Test.YtljbchkmoekpmadGreatP01
import Derived.Test.YtljbchkmoekpmadGreatP03
/- slices.Grow of nothing, slices.Concat at places. -/
namespace Go.Proofs.YtljbchkmoekpmadGreat
open Go.ChangeShapes Go.WideShapes Go.ChangeAt Go.RowKit
open Orangery (Pl)

set_option maxHeartbeats 1000000 in
set_option maxRecDepth 100000 in
theorem growPls_any (w : World) (n : Nat) (hn : n ≤ 1000) :
    Calls Tryz.prog 159 #[.slice none 0 0, .int .i64 n] w
      fun e w' => ∃ v, e = .returned v ∧ OwnE encPl 3 64 w' w.heap.size v [] ∧ Below w.heap.size w w' := by
  obtain ⟨i0, hi, hz0, hz1, hz2⟩ := info_parts infoPlace
  have h1 : ¬ ((n : Int) < 0) := by omega
  by_cases hp : 0 < n
  · have h4 : (n : Int) > 0 := by omega
    have hold : (Builtin.firstCells i0.size 0 (.slice none 0 0)).run Tryz.prog w.drew = .ok ([] : List Value).toArray w.drew := by simp [Builtin.firstCells]
    have hr : ∀ ty, (Builtin.append_ #[23, 3] ty #[.slice none 0 0, .int .i64 (n : Int)]).run Tryz.prog w = _ := fun ty => Lib.run_append_grow_zeros w 23 3 ty 64 i0 _ .i64 .i64 Tryz.underlying23 Tryz.underlying3 hi hz0 none 0 0 [] hold n hp (by omega) (by omega) (by omega) (by rw [hz2]; omega) (growslice_fits (by omega) (by rw [hz2]; omega))
    have hge := grownCap_ge w (0 + n) 0 64
    have hle := grownCap_le_maxLen w (0 + n) 0 64 (by unfold maxLen; omega)
    generalize grownCap w (0 + n) 0 64 = G at *
    have hle' : G ≤ 9223372036854775807 := hle
    have HO : Hid (∀ cur : Array Value, cur.size = G * 3 → OwnE encPl 3 64 (w.drew.alloc (.cells cur 64)) w.heap.size (.slice (some ⟨w.heap.size, 0, none⟩) 0 G) []) := fun cur hc =>
      ⟨rfl, Or.inr ⟨w.heap.size, G, cur, rfl, Nat.le_refl _, blk_new rfl, Nat.zero_le _, hle, hc, by simp⟩⟩
    have HB : Hid (∀ o : Obj, Below w.heap.size w (w.drew.alloc o)) := fun o => ((Below.refl _ w).drew).alloc (Nat.le_refl _) o
    have HSZ : Hid ((([] : List Value).toArray ++ Builtin.zeroCells (Value.agg #[.int .i64 0, .int .i64 0, .int .i64 0]).cells n ++ Builtin.zeroCells (Value.agg #[.int .i64 0, .int .i64 0, .int .i64 0]).cells (G - (0 + n))).size = G * 3) := by
      show _ = _
      rw [Array.size_append, Array.size_append, size_zeroCells, size_zeroCells]
      simp [Value.cells]
      omega
    generalize (([] : List Value).toArray ++ Builtin.zeroCells (Value.agg #[.int .i64 0, .int .i64 0, .int .i64 0]).cells n ++ Builtin.zeroCells (Value.agg #[.int .i64 0, .int .i64 0, .int .i64 0]).cells (G - (0 + n))) = cur at *
    clear hold
    go_enter Tryz.func159, Tryz.ntmps159
    go_wp2_with (at_builtin; refine Lib.wpList_append_run _ rfl _ _ _ _ rfl _ _ rfl rfl _ _ (hr _) ?_)
    all_goals (go_ret; exact ⟨_, rfl, HO.out cur HSZ.out, HB.out _⟩)
  · obtain rfl : n = 0 := by omega
    go_enter Tryz.func159, Tryz.ntmps159
    go_wp2
    go_ret
    exact ⟨_, rfl, OwnE.nil _ _, Below.refl _ _⟩

theorem encPl_one (p : Pl) : ∀ v ∈ encPl p, v.oneCell' = true := by
  intro v hv
  simp [encPl] at hv
  rcases hv with rfl | rfl | rfl <;> rfl
theorem encPl_len (x : Pl) : (encPl x).length = 3 := rfl
/-- one slice behind another one of the call's own -/
theorem SlP.news {w : World} {ad : Addr} {l : List Pl} (h : SlP w (some ad) l) : ∀ j u, (l.flatMap encPl)[j]? = some u → w.cell? (ad.add j) = some u := by
  intro j u hj
  rcases h with rfl | ⟨b, off, ha, _, hp⟩
  · simp at hj
  · simp at ha
    subst ha
    exact pls_flat hp j u hj
theorem SlP.none_nil {w : World} {l : List Pl} (h : SlP w none l) : l = [] := by
  rcases h with rfl | ⟨b, off, h, _⟩
  · rfl
  · simp at h

set_option maxHeartbeats 2000000 in
set_option maxRecDepth 100000 in
theorem concatPls_any (w : World) (bq : Nat) (a1 a2 : Option Addr) (c1 c2 : Nat) (l1 l2 : List Pl) (hl1 : l1.length ≤ 500) (hl2 : l2.length ≤ 500) (hc1 : a1 = none → c1 = 0) (hc2 : a2 = none → c2 = 0)
    (q0 : w.cell? ⟨bq, 0, none⟩ = some (.slice a1 l1.length c1)) (q1 : w.cell? ⟨bq, 1, none⟩ = some (.slice a2 l2.length c2)) (h1 : SlP w a1 l1) (h2 : SlP w a2 l2) :
    Calls Tryz.prog 146 #[.slice (some ⟨bq, 0, none⟩) 2 2] w
      fun e w' => ∃ v, e = .returned v ∧ OwnE encPl 3 64 w' w.heap.size v (l1 ++ l2) ∧ Below w.heap.size w w' := by
  obtain ⟨i0, hi, hz0, hz1, hz2⟩ := info_parts infoPlace
  have hbq : bq < w.heap.size := World.block_lt_of_cell? w ⟨bq, 0, none⟩ q0
  go_enter Tryz.func146, Tryz.ntmps146
  go_wp2
  go_loop [3, 11] (fun x i => ∃ k : Nat, k ≤ 2 ∧ i = .int .i64 k ∧ x = .int .i64 (if k = 0 then 0 else if k = 1 then l1.length else l1.length + l2.length : Nat)) (fun _ i => 2 - (intOf i).toNat)
  case atStart => exact ⟨0, by omega, rfl, rfl⟩
  case round =>
    obtain ⟨k, hk, rfl, rfl⟩ := hrel
    have hc : k = 0 ∨ k = 1 ∨ k = 2 := by omega
    rcases hc with rfl | rfl | rfl
    · simp only [if_true]
      have d1 : decide ((l1.length : Int) < 0) = false := by simp <;> omega
      go_wp2
      go_round
      case rel => exact ⟨1, by omega, by go_num, by simp⟩
      case measure => simp [intOf]
    · simp only [show ¬ (1 = 0) by omega, if_true, if_false]
      have d1 : decide ((l1.length : Int) + (l2.length : Int) < 0) = false := by simp <;> omega
      go_wp2
      go_round
      case rel => exact ⟨2, by omega, by go_num, by simp⟩
      case measure => simp [intOf]
    · simp only [show ¬ (2 = 0) by omega, show ¬ (2 = 1) by omega, if_false]
      have HG := growPls_any w (l1.length + l2.length) (by omega)
      have HGG : Hid (Calls Tryz.prog 159 #[.slice none 0 0, .int .i64 (l1.length + l2.length : Nat)] w fun e w' => ∃ v, e = .returned v ∧ OwnE encPl 3 64 w' w.heap.size v [] ∧ Below w.heap.size w w') := HG
      clear HG
      go_wp2_with fail
      refine HGG.out.mono ?_
      rintro e w1 ⟨v1, rfl, hO1, hb1⟩
      clear HGG
      go_wp2
      go_loopw [6, 27] (fun v i W => ∃ k : Nat, k ≤ 2 ∧ i = .int .i64 k ∧ OwnE encPl 3 64 W w.heap.size v (if k = 0 then [] else if k = 1 then l1 else l1 ++ l2) ∧ Below w.heap.size w W) (fun _ i _ => 2 - (intOf i).toNat)
      case atStart => exact ⟨0, by omega, rfl, hO1, hb1⟩
      case round =>
        obtain ⟨k, hk, rfl, hO, hb⟩ := hrel
        have hc : k = 0 ∨ k = 1 ∨ k = 2 := by omega
        have qr0 : wr.cell? ⟨bq, 0, none⟩ = some (.slice a1 l1.length c1) := by rw [hb.cell (by exact hbq)]; exact q0
        have qr1 : wr.cell? ⟨bq, 1, none⟩ = some (.slice a2 l2.length c2) := by rw [hb.cell (by exact hbq)]; exact q1
        rcases hc with rfl | rfl | rfl
        · simp only [if_true] at hO
          cases a1 with
          | none =>
            have e1 := h1.none_nil
            have e2 := hc1 rfl
            have qr0' : wr.cell? ⟨bq, 0, none⟩ = some (.slice none 0 0) := by rw [qr0, e1, e2]; rfl
            have HE : Hid (l1 = []) := e1
            clear qr0 e1 e2
            go_wp2_with (at_builtin; refine wpList_append_own_none rfl _ _ 23 rfl w.heap.size 64 i0 3 Tryz.underlying23 hi _ 0 [] rfl hO.row rfl ?_)
            go_roundw
            case rel => exact ⟨1, by omega, by go_num, by simp [HE.out]; exact hO, hb⟩
            case measure => simp [intOf]
          | some ad =>
            have hn := (h1.below hb).news
            have HN : Hid (∀ j u, (l1.flatMap encPl)[j]? = some u → wr.cell? (ad.add j) = some u) := hn
            have hown : wr.ownsRow w.heap.size 64 3 u6 0 [] := hO.row
            clear hn
            go_wp2_with (at_builtin; refine wpList_append_own _ rfl _ _ 23 rfl w.heap.size 64 i0 _ 3 24 Tryz.underlying23 hi hz0 hz1 hz2 rfl (by decide) _ _ _ rfl hown ad l1.length c1 (l1.flatMap encPl) rfl (flatE_len encPl_len l1) ?c1 ?c2 ?c3 ?c4 ?c5 ?_)
            case c1 => exact HN.out
            case c2 => exact flat_oneE encPl_one l1
            case c3 => unfold maxLen; omega
            case c4 => omega
            case c5 => exact hb.size
            intro v' w4 hown' hgrow _
            have hb4 := hb.trans (below_grown hown hb.size hgrow)
            clear hgrow hown
            go_wp2
            go_roundw
            case rel => exact ⟨1, by omega, by go_num, by simp; simpa [OwnE] using hown', hb4⟩
            case measure => simp [intOf]
        · simp only [show ¬ (1 = 0) by omega, if_true, if_false] at hO
          cases a2 with
          | none =>
            have e1 := h2.none_nil
            have e2 := hc2 rfl
            have qr1' : wr.cell? ⟨bq, 1, none⟩ = some (.slice none 0 0) := by rw [qr1, e1, e2]; rfl
            have HE : Hid (l2 = []) := e1
            clear qr1 e1 e2
            go_wp2_with (at_builtin; refine wpList_append_own_none rfl _ _ 23 rfl w.heap.size 64 i0 3 Tryz.underlying23 hi _ l1.length (l1.flatMap encPl) rfl hO.row rfl ?_)
            go_roundw
            case rel => exact ⟨2, by omega, by go_num, by simp [HE.out]; exact hO, hb⟩
            case measure => simp [intOf]
          | some ad =>
            have hn := (h2.below hb).news
            have HN : Hid (∀ j u, (l2.flatMap encPl)[j]? = some u → wr.cell? (ad.add j) = some u) := hn
            have hown : wr.ownsRow w.heap.size 64 3 u6 l1.length (l1.flatMap encPl) := hO.row
            clear hn
            go_wp2_with (at_builtin; refine wpList_append_own _ rfl _ _ 23 rfl w.heap.size 64 i0 _ 3 24 Tryz.underlying23 hi hz0 hz1 hz2 rfl (by decide) _ _ _ rfl hown ad l2.length c2 (l2.flatMap encPl) rfl (flatE_len encPl_len l2) ?d1 ?d2 ?d3 ?d4 ?d5 ?_)
            case d1 => exact HN.out
            case d2 => exact flat_oneE encPl_one l2
            case d3 => unfold maxLen; omega
            case d4 => omega
            case d5 => exact hb.size
            intro v' w4 hown' hgrow _
            have hb4 := hb.trans (below_grown hown hb.size hgrow)
            clear hgrow hown
            go_wp2
            go_roundw
            case rel => exact ⟨2, by omega, by go_num, by simp; simpa [OwnE] using hown', hb4⟩
            case measure => simp [intOf]
        · simp only [show ¬ (2 = 0) by omega, show ¬ (2 = 1) by omega, if_false] at hO
          go_wp2
          go_ret
          exact ⟨_, rfl, hO, hb⟩
end Go.Proofs.YtljbchkmoekpmadGreat

/- slices.DeleteFunc at places, on a slice of the call's own. -/
namespace Go.Proofs.YtljbchkmoekpmadGreat
open Go.ChangeShapes Go.WideShapes Go.ChangeAt Go.RowKit
open Orangery (Pl idxF Kept)

theorem HoldsP.set {w : World} {g : Nat} {m : List Pl} (h : HoldsP w g m) (i : Nat) (hi : i < m.length) (x : Pl) :
    HoldsP (((w.setCell ⟨g, i * 3, none⟩ (.int .i64 x.1)).setCell ⟨g, i * 3 + 1, none⟩ (.int .i64 x.2.1)).setCell ⟨g, i * 3 + 2, none⟩ (.int .i64 x.2.2)) g (m.set i x) := by
  obtain ⟨hp, hf⟩ := h
  refine ⟨?_, ?_⟩
  · intro k hk
    have hk' : k < m.length := by simpa using hk
    have h0 := hp i hi
    have h1 := hp k hk'
    simp only [Nat.zero_add] at h0 h1 ⊢
    by_cases hik : i = k
    · subst hik
      simp only [List.getElem_set_self]
      refine ⟨?_, ?_, ?_⟩
      · rw [World.cell?_setCell_other _ _ _ _ (by simp), World.cell?_setCell_other _ _ _ _ (by simp), World.cell?_setCell_same _ _ _ h0.1]
      · rw [World.cell?_setCell_other _ _ _ _ (by simp), World.cell?_setCell_same _ _ _ (u := .int .i64 m[i].2.1)]
        rw [World.cell?_setCell_other _ _ _ _ (by simp), h0.2.1]
      · rw [World.cell?_setCell_same _ _ _ (u := .int .i64 m[i].2.2)]
        rw [World.cell?_setCell_other _ _ _ _ (by simp), World.cell?_setCell_other _ _ _ _ (by simp), h0.2.2]
    · rw [List.getElem_set_ne hik]
      refine ⟨?_, ?_, ?_⟩
      all_goals
        rw [World.cell?_setCell_other _ _ _ _ (by simp <;> omega), World.cell?_setCell_other _ _ _ _ (by simp <;> omega), World.cell?_setCell_other _ _ _ _ (by simp <;> omega)]
      · exact h1.1
      · exact h1.2.1
      · exact h1.2.2
  · intro k hk
    simp only [World.frozen?_setCell]
    exact hf k (by simpa using hk)

theorem HoldsP.below {w w' : World} {g : Nat} {m : List Pl} (h : HoldsP w g m) (hg : g < w.heap.size) (hb : Below w.heap.size w w') : HoldsP w' g m :=
  ⟨fun i hi => by rw [hb.cell hg, hb.cell hg, hb.cell hg]; exact h.1 i hi, fun i hi => by rw [hb.frozen hg]; exact h.2 i hi⟩

theorem zeroPlaces (n : Nat) : ∀ v ∈ (Builtin.zeroCells #[Value.int IntKind.i64 0, Value.int IntKind.i64 0, Value.int IntKind.i64 0] n).toList, v.oneCell' = true := by
  intro v hv
  simp [Builtin.zeroCells] at hv
  obtain ⟨a, _, rfl⟩ := hv
  have : a % 3 = 0 ∨ a % 3 = 1 ∨ a % 3 = 2 := by omega
  rcases this with h | h | h <;> rw [h] <;> rfl

/-- 'clear' of the end of a row -/
theorem run_clear_places (w : World) (ty : TypeId) (g i n c : Nat) (m : List Pl) (h : HoldsP w g m) (hn : i + n = m.length) (hp : 0 < n) :
    ∃ vs, vs.length = n * 3 ∧ (Builtin.clear_ #[23] ty #[.slice (some ⟨g, i * 3, none⟩) n c]).run Tryz.prog w = .ok (.tuple #[]) (w.setCells g (i * 3) vs) := by
  refine ⟨(Builtin.zeroCells #[Value.int IntKind.i64 0, Value.int IntKind.i64 0, Value.int IntKind.i64 0] n).toList, by simp [size_zeroCells], ?_⟩
  have hst := run_storeCells_cells (P := Tryz.prog) g (i * 3) (Builtin.zeroCells #[Value.int IntKind.i64 0, Value.int IntKind.i64 0, Value.int IntKind.i64 0] n).toList 0 w
    (by
      intro j hj
      have hj' : j < n * 3 := by simpa [size_zeroCells] using hj
      have hc := h.1 ((i * 3 + j) / 3) (by omega)
      have hm : (i * 3 + j) % 3 = 0 ∨ (i * 3 + j) % 3 = 1 ∨ (i * 3 + j) % 3 = 2 := by omega
      rcases hm with hm | hm | hm
      · rw [show i * 3 + 0 + j = 0 + (i * 3 + j) / 3 * 3 by omega, hc.1]; rfl
      · rw [show i * 3 + 0 + j = 0 + (i * 3 + j) / 3 * 3 + 1 by omega, hc.2.1]; rfl
      · rw [show i * 3 + 0 + j = 0 + (i * 3 + j) / 3 * 3 + 2 by omega, hc.2.2]; rfl)
    (by
      intro j hj
      have hj' : j < n * 3 := by simpa [size_zeroCells] using hj
      exact h.2 _ (by omega))
    (zeroPlaces n)
  simp only [Nat.add_zero] at hst
  obtain ⟨k, rfl⟩ : ∃ k, n = k + 1 := ⟨n - 1, by omega⟩
  have hz := Tryz.zeroValue64
  simp [Builtin.clear_, run_underlying Tryz.underlying23, hz, Value.cells, hst]

theorem HoldsP.cleared {w : World} {g i : Nat} {m : List Pl} (h : HoldsP w g m) (vs : List Value) (hi : i ≤ m.length) : HoldsP (w.setCells g (i * 3) vs) g (m.take i) := by
  refine ⟨fun k hk => ?_, fun k hk => ?_⟩
  · have hk' : k < i := by simp at hk; omega
    have := h.1 k (by omega)
    rw [List.getElem_take]
    rw [World.cell?_setCells_out _ _ _ _ _ (by simp; omega), World.cell?_setCells_out _ _ _ _ _ (by simp; omega), World.cell?_setCells_out _ _ _ _ _ (by simp; omega)]
    exact this
  · rw [World.frozen?_setCells]
    exact h.2 k (by simp at hk; omega)

theorem below_setCells {B : Nat} {w : World} (g : Nat) (hg : B ≤ g) : ∀ (vs : List Value) (o : Nat) (W : World), Below B w W → Below B w (W.setCells g o vs)
  | [], _, _, h => h
  | v :: r, o, W, h => below_setCells g hg r (o + 1) _ (h.setCell (by exact hg) v)

set_option maxHeartbeats 2000000 in
theorem delete_any (w : World) (base : Nat) (sv : Value) (l : List Pl) (k : Nat) (v : Value) (f : Pl → Bool) (hl : l.length ≤ 1000) (h : OwnS w base sv l)
    (hbase : base ≤ w.heap.size)
    (eg : ∀ args w, (callFunc k args).run Tryz.prog w = .ok (.enter k args) w)
    (hg : ∀ W p, Below base w W → Calls Tryz.prog k #[plV p, v] W fun e w' => e = .returned (.bool (f p)) ∧ Below W.heap.size W w') :
    Calls Tryz.prog 164 #[sv, .func (.func k) #[] #[v]] w
      fun e w' => ∃ rv, e = .returned rv ∧ OwnS w' base rv (l.filter fun p => !f p) ∧ Below base w w' := by
  obtain ⟨a, c, rfl, hP⟩ := h.slp
  go_enter Tryz.func164, Tryz.ntmps164
  go_wp2_with fail
  refine (indexFunc_any w a c l k v f (by unfold maxLen; omega) hP eg (fun W p hb => hg W p (hb.mono hbase))).mono ?_
  rintro e w1 ⟨rfl, hb1⟩
  have hO1 := h.below hb1
  have hB1 : Below base w w1 := hb1.mono hbase
  have hS1 : base ≤ w1.heap.size := Nat.le_trans hbase hb1.size
  clear hP h
  rcases Orangery.idxF_first f l 0 with ⟨h1, h2⟩ | ⟨i, hi, h1, h2⟩
  · rw [h1]
    have HE : Hid (l.filter (fun p => !f p) = l) := h2
    clear h1 h2
    go_wp2
    go_ret
    exact ⟨_, rfl, by rw [HE.out]; exact hO1, hB1⟩
  · rw [h1, Nat.zero_add]
    have hK := Kept.start f l i hi h2
    clear h1 h2
    rcases hO1 with ⟨_, hO1⟩ | ⟨g, cap, hv, hgb, hgl, hcap, hcm, hH, hrow⟩
    · exact absurd hi (by simp [hO1])
    have hv' : a = some ⟨g, 0, none⟩ ∧ c = cap := by simpa using hv
    obtain ⟨rfl, rfl⟩ := hv'
    clear hv
    have HH : Hid (HoldsP w1 g l) := hH
    have HROW : Hid (RowAt w1 g c) := hrow
    clear hrow
    have HK : Hid (Kept f l l i (i + 1)) := hK
    clear hH hK
    have hi' : ((i : Int) == -1) = false := by simp <;> omega
    go_wp2
    go_loopw [5, 6] (fun x y W => ∃ (i j : Nat) (m : List Pl), x = .int .i64 i ∧ y = .int .i64 j ∧ Kept f l m i j ∧ HoldsP W g m ∧ (g < W.heap.size ∧ RowAt W g c) ∧ Below base w W) (fun _ y _ => l.length - (intOf y).toNat)
    case atStart => exact ⟨i, i + 1, l, rfl, by go_num, HK.out, HH.out, ⟨hgl, HROW.out⟩, hB1⟩
    case round =>
      clear hgl HH HK hi' HROW
      obtain ⟨i, j, m, rfl, rfl, hK, hH, ⟨hgl, hrow⟩, hb⟩ := hrel
      have HROW : Hid (RowAt wr g c) := hrow
      clear hrow
      have HH : Hid (HoldsP wr g m) := hH
      have HK : Hid (Kept f l m i j) := hK
      have hml : m.length = l.length := hK.1
      have hij : i < j := hK.2.1
      have hjl : j ≤ l.length := hK.2.2.1
      by_cases hlt : j < l.length
      · obtain ⟨hjm, hmj⟩ := hK.get hlt
        have gg := hH.1 j hjm
        rw [hmj] at gg
        simp only [Nat.zero_add] at gg
        obtain ⟨g0, g1, g2⟩ := gg
        have hx := hH.1 i (by omega)
        simp only [Nat.zero_add] at hx
        obtain ⟨x0, x1, x2⟩ := hx
        have hfr : ∀ t, t < m.length * 3 → wr.frozen? ⟨g, t, none⟩ = false := hH.2
        have K1 := hK.skip hlt
        have K2 := hK.keep hlt
        have HK1 : Hid (f l[j] = true → Kept f l m i (j + 1)) := K1
        have HK2 : Hid (f l[j] = false → Kept f l (m.set i l[j]) (i + 1) (j + 1)) := K2
        have HQ0 : Hid (m[j] = l[j]) := hmj
        clear hH hK K1 K2 hmj
        generalize hq : l[j] = q at *
        obtain ⟨q0, q1, q2⟩ := q
        have HQ : Hid (l[j] = (q0, q1, q2)) := hq
        clear hq
        simp only at g0 g1 g2
        go_wp2_with fail
        refine (hg _ (q0, q1, q2) (hb.alloc (Nat.le_trans hbase hb.size) _)).mono ?_
        rintro e w2 ⟨rfl, hb2⟩
        have hb3 : Below base w w2 := (hb.alloc (Nat.le_trans hbase hb.size) _).trans (hb2.mono (by simp; exact Nat.le_succ_of_le (Nat.le_trans hbase hb.size)))
        have hB2 : Below wr.heap.size wr w2 := (Go.Joins.below_alloc1 wr _).trans (hb2.mono (by simp))
        have z0 : w2.cell? ⟨wr.heap.size, 0, none⟩ = some (.int .i64 q0) := by rw [hb2.cell (by simp)]; simp
        have z1 : w2.cell? ⟨wr.heap.size, 1, none⟩ = some (.int .i64 q1) := by rw [hb2.cell (by simp)]; simp
        have z2 : w2.cell? ⟨wr.heap.size, 2, none⟩ = some (.int .i64 q2) := by rw [hb2.cell (by simp)]; simp
        have H2 : HoldsP w2 g m := HH.out.below hgl hB2
        have hgl2 : g < w2.heap.size := Nat.lt_of_lt_of_le hgl hB2.size
        have HROW2 : Hid (RowAt w2 g c) := HROW.out.below hB2 hgl
        have hne : ¬ wr.heap.size = g := by omega
        clear hb2 hB2 g0 g1 g2 x0 x1 x2 hfr hb HH
        cases hr : f (q0, q1, q2)
        · have HH2 : Hid (HoldsP w2 g m) := H2
          have hx := H2.1 i (by omega)
          simp only [Nat.zero_add] at hx
          obtain ⟨x0, x1, x2⟩ := hx
          have f0 := H2.2 (i * 3) (by omega)
          have f1 := H2.2 (i * 3 + 1) (by omega)
          have f2 := H2.2 (i * 3 + 2) (by omega)
          clear H2
          go_wp2
          go_roundw
          case rel =>
            refine ⟨i + 1, j + 1, m.set i (q0, q1, q2), by go_num, by go_num, HK2.out hr, HH2.out.set i (by omega) (q0, q1, q2), ⟨by simpa using hgl2, ((HROW2.out.set _ _ _).set _ _ _).set _ _ _⟩, ((hb3.setCell hgb _).setCell hgb _).setCell hgb _⟩
          case measure => simp [intOf]; omega
        · go_wp2
          go_roundw
          case rel => exact ⟨i, j + 1, m, rfl, by go_num, HK1.out hr, H2, ⟨hgl2, HROW2.out⟩, hb3⟩
          case measure => simp [intOf]; omega
      · have e := hK.done hlt
        have HE : Hid (m.take i = l.filter fun p => !f p) := e
        obtain ⟨vs, hvs, hrun⟩ := run_clear_places wr 0 g i (l.length - i) (c - i) m hH (by omega) (by omega)
        have HH2 : Hid (HoldsP (wr.setCells g (i * 3) vs) g (m.take i)) := hH.cleared vs (by omega)
        have hb2 := below_setCells g hgb vs (i * 3) wr hb
        have hlen : (m.take i).length = i := by simp; omega
        have hsz : (wr.setCells g (i * 3) vs).heap.size = wr.heap.size := by simp [Go.Sort.size_setCells]
        clear e hH hK
        go_wp2
        go_ret
        refine ⟨_, rfl, ?_, hb2⟩
        rw [← HE.out]
        refine Or.inr ⟨g, c, by rw [hlen]; rfl, hgb, by rw [hsz]; exact hgl, by omega, hcm, HH2.out, RowAt.sets g _ _ _ HROW.out⟩
end Go.Proofs.YtljbchkmoekpmadGreat

/- cmp.Compare, cmp.Or at ints; tree.byName. -/
namespace Go.Proofs.YtljbchkmoekpmadGreat
open Go.ChangeShapes Go.WideShapes Go.ChangeAt Go.RowKit
open Orangery (Pl cmpI byN orI)

set_option maxHeartbeats 400000 in
theorem compare_any (w : World) (x y : Int) :
    Calls Tryz.prog 106 #[.int .i64 x, .int .i64 y] w fun e w' => e = .returned (.int .i64 (cmpI x y)) ∧ w' = w := by
  have hx : (x != x) = false := by simp
  have hy : (y != y) = false := by simp
  by_cases h1 : x < y
  · have e : cmpI x y = -1 := by simp [cmpI, h1]
    have HE : Hid (cmpI x y = -1) := e
    clear e
    go_enter Tryz.func106, Tryz.ntmps106
    go_wp2
    go_ret
    exact ⟨ret_int (by rw [HE.out]), rfl⟩
  · by_cases h2 : y < x
    · have e : cmpI x y = 1 := by simp [cmpI, h1, h2]
      have HE : Hid (cmpI x y = 1) := e
      clear e
      go_enter Tryz.func106, Tryz.ntmps106
      go_wp2
      go_ret
      exact ⟨ret_int (by rw [HE.out]), rfl⟩
    · have e : cmpI x y = 0 := by simp [cmpI, h1, h2]
      have HE : Hid (cmpI x y = 0) := e
      clear e
      go_enter Tryz.func106, Tryz.ntmps106
      go_wp2
      go_ret
      exact ⟨ret_int (by rw [HE.out]), rfl⟩

set_option maxHeartbeats 400000 in
theorem or_any (w : World) (b c : Nat) (x y : Int) (h0 : w.cell? ⟨b, 0, none⟩ = some (.int .i64 x)) (h1 : w.cell? ⟨b, 1, none⟩ = some (.int .i64 y)) :
    Calls Tryz.prog 105 #[.slice (some ⟨b, 0, none⟩) 2 c] w fun e w' => e = .returned (.int .i64 (orI x y)) ∧ w' = w := by
  go_enter Tryz.func105, Tryz.ntmps105
  go_wp2
  go_loop [8] (fun i => ∃ k : Nat, k ≤ 2 ∧ i = .int .i64 k ∧ (1 ≤ k → x = 0) ∧ (2 ≤ k → y = 0)) (fun i => 2 - (intOf i).toNat)
  case atStart => exact ⟨0, by omega, rfl, by omega, by omega⟩
  case round =>
    obtain ⟨k, hk, rfl, hx, hy⟩ := hrel
    have hc : k = 0 ∨ k = 1 ∨ k = 2 := by omega
    rcases hc with rfl | rfl | rfl
    · clear hx hy
      by_cases hx : x = 0
      · have hx' : (x != 0) = false := by simp [hx]
        have HX : Hid (x = 0) := hx
        clear hx
        go_wp2
        go_round
        case rel => exact ⟨1, by omega, by go_num, fun _ => HX.out, by omega⟩
        case measure => simp [intOf]
      · have hx' : (x != 0) = true := by simp [hx]
        have HX : Hid (x ≠ 0) := hx
        clear hx
        go_wp2
        go_ret
        exact ⟨ret_int (by rw [orI, if_pos HX.out]), rfl⟩
    · have HX : Hid (x = 0) := hx (by omega)
      clear hx hy
      by_cases hy : y = 0
      · have hy' : (y != 0) = false := by simp [hy]
        have HY : Hid (y = 0) := hy
        clear hy
        go_wp2
        go_round
        case rel => exact ⟨2, by omega, by go_num, fun _ => HX.out, fun _ => HY.out⟩
        case measure => simp [intOf]
      · have hy' : (y != 0) = true := by simp [hy]
        clear hy
        go_wp2
        go_ret
        exact ⟨ret_int (by rw [orI, if_neg (by simp [HX.out])]), rfl⟩
    · have HX : Hid (x = 0) := hx (by omega)
      have HY : Hid (y = 0) := hy (by omega)
      clear hx hy
      go_wp2
      go_ret
      exact ⟨ret_int (by rw [orI, if_neg (by simp [HX.out]), HY.out]), rfl⟩

end Go.Proofs.YtljbchkmoekpmadGreat

/- move.without, move.with$1. -/
namespace Go.Proofs.YtljbchkmoekpmadGreat
open Go.ChangeShapes Go.WideShapes Go.ChangeAt Go.RowKit
open Orangery (Pl Mv Stp outL inL cmpI)

theorem OwnS.mono {w : World} {base base' : Nat} {v : Value} {l : List Pl} (h : OwnS w base v l) (hb : base' ≤ base) : OwnS w base' v l := by
  rcases h with h | ⟨g, cap, rfl, h1, h2⟩
  · exact Or.inl h
  · exact Or.inr ⟨g, cap, rfl, Nat.le_trans hb h1, h2⟩

theorem OwnS.val {w : World} {base : Nat} {v : Value} {l : List Pl} (h : OwnS w base v l) : ∃ a cap, v = .slice a l.length cap := by
  obtain ⟨a, cap, e, _⟩ := h.slp
  exact ⟨a, cap, e⟩

/-- an own slice, behind the writing of an elder block -/
theorem OwnS.other {w : World} {base : Nat} {v : Value} {l : List Pl} (h : OwnS w base v l) (g : Nat) (hg : g < base) (j : Nat) (u : Value) : OwnS (w.setCell ⟨g, j, none⟩ u) base v l := by
  rcases h with h | ⟨b, cap, rfl, h1, hl, h2, h3, ⟨hp, hf⟩, hr⟩
  · exact Or.inl h
  · refine Or.inr ⟨b, cap, rfl, h1, by simpa using hl, h2, h3, ⟨fun i hi => ?_, fun i hi => ?_⟩, hr.set _ _ _⟩
    · rw [World.cell?_setCell_other _ _ _ _ (by simp <;> omega), World.cell?_setCell_other _ _ _ _ (by simp <;> omega), World.cell?_setCell_other _ _ _ _ (by simp <;> omega)]
      exact hp i hi
    · simp only [World.frozen?_setCell]
      exact hf i hi

theorem OwnS.others {base : Nat} {v : Value} {l : List Pl} (g : Nat) (hg : g < base) : ∀ (us : List Value) (o : Nat) (w : World), OwnS w base v l → OwnS (w.setCells g o us) base v l
  | [], _, _, h => h
  | u :: r, o, _, h => OwnS.others g hg r (o + 1) _ (h.other g hg o u)

set_option maxHeartbeats 1000000 in
theorem without_any (w : World) (a : Option Addr) (c : Nat) (l : List Pl) (n : Int) (hl : l.length ≤ 1000) (h : SlP w a l) :
    Calls Tryz.prog 156 #[.agg #[.slice a l.length c], .int .i64 n] w
      fun e w' => ∃ v, e = .returned (.agg #[v]) ∧ OwnS w' w.heap.size v (outL l n) ∧ Below w.heap.size w w' := by
  go_enter Tryz.func156, Tryz.ntmps156
  go_wp2_with fail
  obtain ⟨W0, hW, _, hN, hR, hB, hS⟩ := laid3 w [Value.slice a l.length c] 25 [Value.int IntKind.i64 n] 3 [Value.slice none 0 0] 25
  rw [hW]
  clear hW
  have hP := h.below hB
  clear h
  refine (clone_any W0 a c l hl hP).mono ?_
  rintro e w1 ⟨v1, rfl, hO1, hb1⟩
  have hN1 := hN.keep hb1
  have hR1 := hR.keep hb1
  have HB1 : Hid (Below w.heap.size w w1) := hB.trans (hb1.mono hB.size)
  clear hN hR hB hP
  go_wp2_with fail
  refine (delete_any w1 W0.heap.size v1 l 165 (.pointer (some ⟨w.heap.size + 1, 0, none⟩)) (fun p => p.1 == n) hl hO1 hb1.size (Go.Proofs.enters_of Tryz.func165 (by kernel_rfl) rfl) ?_).mono ?_
  · intro W p hW
    have := hN1.below hW (by omega)
    exact without1_any W p n _ this.lt (this.at 0 rfl)
  rintro e w2 ⟨v2, rfl, hO2, hb2⟩
  have hR2 := hR1.below hb2 (by omega)
  have HB2 : Hid (Below w.heap.size w w2) := HB1.out.trans (hb2.mono (by omega))
  have z0 := hR2.at 0 rfl
  have f0 := hR2.frz
  have hO3 := hO2.mono (base' := w.heap.size + 1 + 1 + 1) (by omega)
  obtain ⟨a2, c2, rfl⟩ := hO3.val
  have HO : Hid (OwnS w2 (w.heap.size + 1 + 1 + 1) (.slice a2 (l.filter fun p => !(p.1 == n)).length c2) (outL l n)) := hO3
  clear hO1 hb1 hN1 hR1 hb2 hO2 HB1 hO3
  go_wp2
  have z1 : (w2.setCell ⟨w.heap.size + 1 + 1, 0, none⟩ (.slice a2 (l.filter fun p => !(p.1 == n)).length c2)).cell? ⟨w.heap.size + 1 + 1, 0, none⟩ = some (.slice a2 (l.filter fun p => !(p.1 == n)).length c2) := World.cell?_setCell_same _ _ _ z0
  refine bodyPost_ret (v := .agg #[.slice a2 (l.filter fun p => !(p.1 == n)).length c2]) (by simp [results, Tryz.results156, go_sem, z1]) rfl ⟨_, rfl, ?_, ?_⟩
  · exact (HO.out.other _ (by omega) _ _).mono (by omega)
  · exact HB2.out.setCell (by show _ ≤ w.heap.size + 1 + 1; omega) _

theorem with1_any (w : World) (p q : Pl) :
    Calls Tryz.prog 158 #[plV p, plV q] w fun e w' => e = .returned (.int .i64 (cmpI p.1 q.1)) ∧ ∃ n os, w' = Go.Sort.grow (w.drewN n) os := by
  obtain ⟨a0, a1, a2⟩ := p
  obtain ⟨b0, b1, b2⟩ := q
  go_enter Tryz.func158, Tryz.ntmps158
  go_wp2_with fail
  refine (compare_any _ a0 b0).mono ?_
  rintro e w1 ⟨rfl, rfl⟩
  go_wp2
  go_ret
  exact ⟨rfl, 0, _, by rw [Go.Sort.alloc_eq_grow, Go.Sort.alloc_eq_grow, Go.Sort.grow_grow]; rfl⟩
end Go.Proofs.YtljbchkmoekpmadGreat

/- Results that lie in cells: how a call hands them back. -/
namespace Go.Proofs.YtljbchkmoekpmadGreat
open Go.ChangeShapes Go.WideShapes Go.ChangeAt Go.RowKit

theorem Blk.range {w : World} {b : Nat} {vs : List Value} (h : Blk w b vs) : w.rangeAt b 0 vs := fun j v hv => by rw [Nat.zero_add]; exact h.at j hv
theorem Blk.there {w : World} {b : Nat} {vs : List Value} (h : Blk w b vs) : w.there b 0 vs.length := fun j hj =>
  ⟨by rw [Nat.zero_add, h.at j (List.getElem?_eq_getElem hj)]; rfl, by rw [Nat.zero_add]; exact h.frz j⟩

theorem Blk.load {w : World} {b : Nat} {vs : List Value} {ty : TypeId} {d : TypeDesc} (h : Blk w b vs) (hu : Tryz.prog.underlying ty = some d) (hd : d.isRow = true)
    (hi : (Tryz.prog.info? ty).map (·.size) = some vs.length) : (loadVar ty ⟨b, 0, none⟩).run Tryz.prog w = .ok (.agg vs.toArray) w :=
  run_loadVar_mid w b 0 ty vs d h.range hu hd hi

theorem ret_cell {fn : Func} {R : Ending → World → Prop} {tmps : Array Value} {W : World} {p : Tmp} {ty : TypeId} {b : Nat} {vs : List Value}
    (h : fn.results = #[.cell p ty]) (hp : tmps.getD p undef = .pointer (some ⟨b, 0, none⟩)) (hl : (loadVar ty ⟨b, 0, none⟩).run Tryz.prog W = .ok (.agg vs.toArray) W)
    (hR : R (.returned (.agg vs.toArray)) W) : bodyPost Tryz.prog fn R .ret { tmps := tmps, defers := [] } W := by
  refine bodyPost_ret ?_ rfl hR
  have hp' : tmps[p]?.getD undef = .pointer (some ⟨b, 0, none⟩) := by simpa using hp
  simp [results, h, hp', asAddr, hl]

theorem ret_cell_tmp {fn : Func} {R : Ending → World → Prop} {tmps : Array Value} {W : World} {p u : Tmp} {ty : TypeId} {b : Nat} {vs : List Value} {v : Value}
    (h : fn.results = #[.cell p ty, .tmp u]) (hp : tmps.getD p undef = .pointer (some ⟨b, 0, none⟩)) (hv : tmps.getD u undef = v) (hl : (loadVar ty ⟨b, 0, none⟩).run Tryz.prog W = .ok (.agg vs.toArray) W)
    (hR : R (.returned (.tuple #[.agg vs.toArray, v])) W) : bodyPost Tryz.prog fn R .ret { tmps := tmps, defers := [] } W := by
  refine bodyPost_ret ?_ rfl hR
  have hp' : tmps[p]?.getD undef = .pointer (some ⟨b, 0, none⟩) := by simpa using hp
  have hv' : tmps[u]?.getD undef = v := by simpa using hv
  simp [results, h, hp', hv', asAddr, hl]

theorem ret_tmp_cell {fn : Func} {R : Ending → World → Prop} {tmps : Array Value} {W : World} {p u : Tmp} {ty : TypeId} {b : Nat} {vs : List Value} {v : Value}
    (h : fn.results = #[.tmp u, .cell p ty]) (hp : tmps.getD p undef = .pointer (some ⟨b, 0, none⟩)) (hv : tmps.getD u undef = v) (hl : (loadVar ty ⟨b, 0, none⟩).run Tryz.prog W = .ok (.agg vs.toArray) W)
    (hR : R (.returned (.tuple #[v, .agg vs.toArray])) W) : bodyPost Tryz.prog fn R .ret { tmps := tmps, defers := [] } W := by
  refine bodyPost_ret ?_ rfl hR
  have hp' : tmps[p]?.getD undef = .pointer (some ⟨b, 0, none⟩) := by simpa using hp
  have hv' : tmps[u]?.getD undef = v := by simpa using hv
  simp [results, h, hp', hv', asAddr, hl]

theorem ret_cell_cell_tmp {fn : Func} {R : Ending → World → Prop} {tmps : Array Value} {W : World} {p q u : Tmp} {ty tz : TypeId} {b b' : Nat} {vs us : List Value} {v : Value}
    (h : fn.results = #[.cell p ty, .cell q tz, .tmp u]) (hp : tmps.getD p undef = .pointer (some ⟨b, 0, none⟩)) (hq : tmps.getD q undef = .pointer (some ⟨b', 0, none⟩)) (hv : tmps.getD u undef = v)
    (hl : (loadVar ty ⟨b, 0, none⟩).run Tryz.prog W = .ok (.agg vs.toArray) W) (hm : (loadVar tz ⟨b', 0, none⟩).run Tryz.prog W = .ok (.agg us.toArray) W)
    (hR : R (.returned (.tuple #[.agg vs.toArray, .agg us.toArray, v])) W) : bodyPost Tryz.prog fn R .ret { tmps := tmps, defers := [] } W := by
  refine bodyPost_ret ?_ rfl hR
  have hp' : tmps[p]?.getD undef = .pointer (some ⟨b, 0, none⟩) := by simpa using hp
  have hq' : tmps[q]?.getD undef = .pointer (some ⟨b', 0, none⟩) := by simpa using hq
  have hv' : tmps[u]?.getD undef = v := by simpa using hv
  simp [results, h, hp', hq', hv', asAddr, hl, hm]

theorem sizeTree : (Tryz.prog.info? 25).map (·.size) = some 1 := by kernel_rfl
theorem sizeStep : (Tryz.prog.info? 109).map (·.size) = some 11 := by kernel_rfl
theorem sizeOp : (Tryz.prog.info? 35).map (·.size) = some 7 := by kernel_rfl
theorem Blk.tree {w : World} {b : Nat} {v : Value} (h : Blk w b [v]) : (loadVar 25 ⟨b, 0, none⟩).run Tryz.prog w = .ok (.agg [v].toArray) w := h.load Tryz.underlying25 rfl sizeTree
end Go.Proofs.YtljbchkmoekpmadGreat

/- view.split: what is known, and the way up, each in new memory. -/
namespace Go.Proofs.YtljbchkmoekpmadGreat
open Go.ChangeShapes Go.WideShapes Go.ChangeAt Go.RowKit
open Orangery (Pl rootsOk knB abB wyB viewK viewW)

/-- two slices of places of the call's own, in rows apart -/
def Two (W : World) (base : Nat) (v u : Value) (K V : List Pl) : Prop :=
  OwnE encPl 3 64 W base v K ∧ OwnE encPl 3 64 W base u V ∧ (v.ownBlock = none ∨ v.ownBlock ≠ u.ownBlock)

theorem Two.swap {W : World} {base : Nat} {v u : Value} {K V : List Pl} (h : Two W base v u K V) : Two W base u v V K := by
  obtain ⟨h1, h2, h3⟩ := h
  refine ⟨h2, h1, ?_⟩
  rcases h3 with h3 | h3
  · rw [h3]
    cases u.ownBlock with
    | none => exact Or.inl rfl
    | some g => exact Or.inr (by simp)
  · exact Or.inr (fun e => h3 e.symm)
theorem Two.nil (W : World) (base : Nat) : Two W base (.slice none 0 0) (.slice none 0 0) [] [] := ⟨OwnE.nil _ _, OwnE.nil _ _, Or.inl rfl⟩
theorem Two.keep {W W' : World} {base : Nat} {v u : Value} {K V : List Pl} (h : Two W base v u K V) (hb : Below W.heap.size W W') : Two W' base v u K V := ⟨h.1.keep hb, h.2.1.keep hb, h.2.2⟩
theorem Two.other {W : World} {base : Nat} {v u : Value} {K V : List Pl} (h : Two W base v u K V) (g : Nat) (hg : g < base) (j : Nat) (x : Value) : Two (W.setCell ⟨g, j, none⟩ x) base v u K V := ⟨h.1.other g hg j x, h.2.1.other g hg j x, h.2.2⟩
theorem Two.mono {W : World} {base base' : Nat} {v u : Value} {K V : List Pl} (h : Two W base v u K V) (hb : base' ≤ base) : Two W base' v u K V := ⟨h.1.mono hb, h.2.1.mono hb, h.2.2⟩
theorem Two.others {base : Nat} {v u : Value} {K V : List Pl} (g : Nat) (hg : g < base) (us : List Value) (o : Nat) (W : World) (h : Two W base v u K V) : Two (W.setCells g o us) base v u K V := ⟨OwnE.others g hg us o W h.1, OwnE.others g hg us o W h.2.1, h.2.2⟩
/-- behind an append to the one -/
theorem Two.grew {W W' : World} {base : Nat} {v u v' : Value} {K K' V : List Pl} (h : Two W base v u K V) (hown : OwnE encPl 3 64 W' base v' K') (hg : W.grownBy W' v.ownBlock) (hat : v'.ownBlock = v.ownBlock ∨ v'.ownBlock = some W.heap.size) : Two W' base v' u K' V := by
  have hs := h.swap
  obtain ⟨h1, h2, h3⟩ := h
  refine ⟨hown, World.ownsRow.kept h2 hg hs.2.2, ?_⟩
  rcases hat with e | e
  · rw [e]; exact h3
  · right
    rw [e]
    intro e2
    have := (World.ownsRow.lt h2 W.heap.size e2.symm).2
    omega

theorem sizeParts : (Tryz.prog.info? 132).map (·.size) = some 2 := by kernel_rfl

set_option maxHeartbeats 2000000 in
set_option maxRecDepth 100000 in
theorem split_any (w : World) (a a' : Option Addr) (c c' : Nat) (l : List Pl) (R : List Int) (hl : l.length ≤ 1000) (hR : R.length ≤ 1000) (h : SlP w a l) (h' : SlI w a' R) :
    Calls Tryz.prog 94 #[.agg #[.slice a l.length c], .slice a' R.length c'] w
      fun e w' => ∃ v u, e = .returned (.agg #[v, u]) ∧ Two w' w.heap.size v u (viewK l R) (viewW l R) ∧ Below w.heap.size w w' := by
  obtain ⟨i0, hi, hz0, hz1, hz2⟩ := info_parts infoPlace
  obtain ⟨W0, hW, hT, hQ, hO, hS, hB, hsz⟩ := laid4 w [Value.slice a l.length c] 25 [Value.slice a' R.length c'] 31 [Value.slice none 0 0, Value.slice none 0 0] 132 [Value.slice none 0 0, Value.slice none 0 0] 132
  have t0 := hT.at 0 rfl
  go_enter Tryz.func94, Tryz.ntmps94
  go_wp2
  clear hW t0
  have HP : Hid (SlP w a l) := h
  have HI : Hid (SlI w a' R) := h'
  have HS : Hid (Blk W0 (w.heap.size + 1 + 1 + 1) [Value.slice none 0 0, Value.slice none 0 0]) := hS
  have HO : Hid (Blk W0 (w.heap.size + 1 + 1) [Value.slice none 0 0, Value.slice none 0 0]) := hO
  have HB : Hid (Below w.heap.size w W0) := hB
  have HT : Hid (Blk W0 w.heap.size [Value.slice a l.length c]) := hT
  have HQ : Hid (Blk W0 (w.heap.size + 1) [Value.slice a' R.length c']) := hQ
  have hl' : l.length ≤ maxLen := by unfold maxLen; omega
  have hR' : R.length ≤ maxLen := by unfold maxLen; omega
  clear h h' hS hO hB hT hQ
  go_loopw [15] (fun i W => ∃ (k : Nat) (v u : Value), k ≤ l.length ∧ i = .int .i64 k ∧ Blk W (w.heap.size + 1 + 1 + 1) [v, u] ∧ Two W (w.heap.size + 4) v u ((l.take k).filter fun p => knB l R p.1) ((l.take k).filter fun p => wyB l R p.1) ∧ Below (w.heap.size + 3) W0 W) (fun i _ => l.length - (intOf i).toNat)
  case atStart => exact ⟨0, _, _, Nat.zero_le _, rfl, HS.out, Two.nil _ _, Below.refl _ _⟩
  case round =>
    obtain ⟨k, v, u, hk, rfl, hblk, htwo, hb⟩ := hrel
    have hge : w.heap.size + 4 ≤ wr.heap.size := by have := hb.size; omega
    have HBw : Hid (Below w.heap.size w wr) := HB.out.trans (hb.mono (by omega))
    by_cases hlt : k < l.length
    · have hPW : SlP wr a l := HP.out.below HBw.out
      have hIW : SlI wr a' R := HI.out.below HBw.out
      rcases hPW with h9 | ⟨b, off, rfl, hbl, hp⟩
      · exact absurd hlt (by simp [h9])
      obtain ⟨g0, g1, g2⟩ := hp k hlt
      have HK1 : Hid ((l.take (k + 1)).filter (fun p => knB l R p.1) = (l.take k).filter (fun p => knB l R p.1) ++ if knB l R l[k].1 = true then [l[k]] else []) := Orangery.viewK_take l R k hlt
      have HW1 : Hid ((l.take (k + 1)).filter (fun p => wyB l R p.1) = (l.take k).filter (fun p => wyB l R p.1) ++ if wyB l R l[k].1 = true then [l[k]] else []) := Orangery.viewW_take l R k hlt
      have hkl : ((l.take k).filter fun p => knB l R p.1).length ≤ 1000 := Nat.le_trans (List.length_filter_le _ _) (by simp; omega)
      have hwl : ((l.take k).filter fun p => wyB l R p.1).length ≤ 1000 := Nat.le_trans (List.length_filter_le _ _) (by simp; omega)
      generalize l[k] = q at *
      obtain ⟨q0, q1, q2⟩ := q
      simp only at g0 g1 g2 HK1 HW1
      generalize (l.take k).filter (fun p => knB l R p.1) = K at *
      generalize (l.take k).filter (fun p => wyB l R p.1) = V at *
      obtain ⟨W1, hW1, hN, hBn, hS1⟩ := laid1 wr [Value.int IntKind.i64 q0, Value.int IntKind.i64 q1, Value.int IntKind.i64 q2] 64
      have n0 := hN.at 0 rfl
      have HP1 : Hid (SlP W1 (some ⟨b, off, none⟩) l) := (HP.out.below HBw.out).below hBn
      have HI1 : Hid (SlI W1 a' R) := hIW.below hBn
      have HT1 : Hid (Blk W1 w.heap.size [Value.slice (some ⟨b, off, none⟩) l.length c]) := (HT.out.below hb (by omega)).keep hBn
      have HQ1 : Hid (Blk W1 (w.heap.size + 1) [Value.slice a' R.length c']) := (HQ.out.below hb (by omega)).keep hBn
      have HN1 : Hid (Blk W1 wr.heap.size [Value.int IntKind.i64 q0, Value.int IntKind.i64 q1, Value.int IntKind.i64 q2]) := hN
      have HX1 : Hid (Blk W1 (w.heap.size + 1 + 1 + 1) [v, u]) := hblk.keep hBn
      have HT2 : Hid (Two W1 (w.heap.size + 4) v u K V) := htwo.keep hBn
      have HB1 : Hid (Below (w.heap.size + 3) W0 W1) := hb.trans (hBn.mono (by omega))
      clear hp hIW hN hblk htwo hb hBn HBw
      go_wp2_with fail
      clear hW1 g0 g1 g2 n0
      refine (vsplit1_any W1 q0 (w.heap.size + 1) w.heap.size (some ⟨b, off, none⟩) a' c c' l R hl' hR' HP1.out HI1.out (HT1.out.lt) (HT1.out.at 0 rfl) (HQ1.out.at 0 rfl)).mono ?_
      rintro e w2 ⟨rfl, hb2⟩
      have hsz2 : w.heap.size + 5 ≤ w2.heap.size := by have := hb2.size; omega
      have hlt2 : wr.heap.size < w2.heap.size := by have := hb2.size; omega
      cases hkn : knB l R q0
      · have HKE : Hid ((l.take (k + 1)).filter (fun p => knB l R p.1) = K) := by show _ = _; rw [HK1.out, hkn]; simp
        have n0 := (HN1.out.keep hb2).at 0 rfl
        have HN2 : Hid (Blk w2 wr.heap.size [Value.int IntKind.i64 q0, Value.int IntKind.i64 q1, Value.int IntKind.i64 q2]) := HN1.out.keep hb2
        have HX2 : Hid (Blk w2 (w.heap.size + 1 + 1 + 1) [v, u]) := HX1.out.keep hb2
        have HT3 : Hid (Two w2 (w.heap.size + 4) v u K V) := HT2.out.keep hb2
        have HB2 : Hid (Below (w.heap.size + 3) W0 w2) := HB1.out.trans (hb2.mono (by omega))
        have HC2 : Hid (Calls Tryz.prog 124 #[.int .i64 q0, .pointer (some ⟨w.heap.size + 1, 0, none⟩), .pointer (some ⟨w.heap.size, 0, none⟩)] w2 fun e w' => e = .returned (.bool (abB l R q0)) ∧ Below w2.heap.size w2 w') :=
          vsplit2_any w2 q0 (w.heap.size + 1) w.heap.size (some ⟨b, off, none⟩) a' c c' l R hl' hR' (HP1.out.below hb2) (HI1.out.below hb2) (HT1.out.keep hb2).lt ((HT1.out.keep hb2).at 0 rfl) ((HQ1.out.keep hb2).at 0 rfl)
        have HWE : Hid (wyB l R q0 = abB l R q0) := by show _ = _; rw [Orangery.wy_ab, hkn]; rfl
        clear HK1 HN1 HX1 HT2 HB1 hb2 HP1 HI1 HT1 HQ1 hkn
        go_wp2_with fail
        refine HC2.out.mono ?_
        rintro e w3 ⟨rfl, hb3⟩
        have hsz3 : w.heap.size + 5 ≤ w3.heap.size := by have := hb3.size; omega
        have hlt3 : wr.heap.size < w3.heap.size := by have := hb3.size; omega
        clear HC2 n0
        have hN3 := HN2.out.keep hb3
        have hX3 := HX2.out.keep hb3
        have HT4 : Hid (Two w3 (w.heap.size + 4) v u K V) := HT3.out.keep hb3
        have HB3 : Hid (Below (w.heap.size + 3) W0 w3) := HB2.out.trans (hb3.mono (by omega))
        clear HN2 HX2 HT3 HB2 hb3
        cases hab : abB l R q0
        · have HVE : Hid ((l.take (k + 1)).filter (fun p => wyB l R p.1) = V) := by show _ = _; rw [HW1.out, HWE.out, hab]; simp
          clear hab HWE
          go_wp2
          go_roundw
          case rel => exact ⟨k + 1, v, u, hlt, by go_num, hX3, by rw [HKE.out, HVE.out]; exact HT4.out, HB3.out⟩
          case measure => simp [intOf]; omega
        · have HVE : Hid ((l.take (k + 1)).filter (fun p => wyB l R p.1) = V ++ [(q0, q1, q2)]) := by show _ = _; rw [HW1.out, HWE.out, hab]; simp
          clear hab HWE
          obtain ⟨WW, hWW, hZ, hBz, hSz⟩ := laid1 w3 [Value.int IntKind.i64 q0, Value.int IntKind.i64 q1, Value.int IntKind.i64 q2] 64
          have m0 := hN3.at 0 rfl
          have m1 := hN3.at 1 rfl
          have m2 := hN3.at 2 rfl
          have x1 := hX3.at 1 rfl
          have HTZ : Hid (Two WW (w.heap.size + 4) v u K V) := HT4.out.keep hBz
          have hown : WW.ownsRow (w.heap.size + 4) 64 3 u V.length (V.flatMap encPl) := HTZ.out.2.1
          have HXZ : Hid (Blk WW (w.heap.size + 1 + 1 + 1) [v, u]) := hX3.keep hBz
          have HBZ : Hid (Below (w.heap.size + 3) W0 WW) := HB3.out.trans (hBz.mono (by omega))
          have HZ : Hid (Blk WW w3.heap.size [Value.int IntKind.i64 q0, Value.int IntKind.i64 q1, Value.int IntKind.i64 q2]) := hZ
          clear hN3 hX3 HT4 HB3 hBz hZ
          go_wp2_with (at_builtin; refine wpList_append_own_at _ rfl _ _ 23 rfl (w.heap.size + 4) 64 i0 _ 3 24 Tryz.underlying23 hi hz0 hz1 hz2 rfl (by decide) _ _ _ rfl hown ⟨w3.heap.size, 0, none⟩ 1 1 [.int .i64 q0, .int .i64 q1, .int .i64 q2] rfl rfl ?c1 ?c2 ?c3 ?c4 ?c5 ?_)
          case c1 => intro j y hj; rw [Addr.add_mid, Nat.zero_add]; exact HZ.out.at j hj
          case c2 => exact encPl_one (q0, q1, q2)
          case c3 => unfold maxLen; omega
          case c4 => omega
          case c5 => omega
          intro u' w4 hown' hgrow _ hat
          rw [← hSz] at hat
          have hlo : ∀ g, u.ownBlock = some g → w.heap.size + 4 ≤ g := fun g hg => (World.ownsRow.lt hown g hg).1
          have hO' : OwnE encPl 3 64 w4 (w.heap.size + 4) u' (V ++ [(q0, q1, q2)]) := by simpa [OwnE, encPl] using hown'
          obtain ⟨a4, c4, rfl, _⟩ := hO'.val
          rw [List.length_append, List.length_singleton] at hO' hat
          have HTW : Hid (Two w4 (w.heap.size + 4) v (.slice a4 (V.length + 1) c4) K (V ++ [(q0, q1, q2)])) := (HTZ.out.swap.grew hO' hgrow hat).swap
          have hX4 := HXZ.out.grown hgrow (fun e => by have := hlo _ e.symm; omega)
          have HB4 : Hid (Below (w.heap.size + 3) W0 w4) := HBZ.out.grown hgrow (by omega) (fun g hg => by have := hlo g hg; omega)
          have y1 := hX4.at 1 rfl
          have yf := hX4.frz
          have HX4 : Hid (Blk w4 (w.heap.size + 1 + 1 + 1) [v, u]) := hX4
          clear hown hown' hgrow hat hO' hlo hSz HTZ HXZ HBZ HZ hX4 hWW m0 m1 m2 x1
          go_wp2
          go_roundw
          case rel => exact ⟨k + 1, v, _, hlt, by go_num, HX4.out.set 1 (by simp) (.slice a4 (V.length + 1) c4), by rw [HKE.out, HVE.out]; exact HTW.out.other _ (by omega) _ _, HB4.out.setCell (by show _ ≤ w.heap.size + 1 + 1 + 1; omega) _⟩
          case measure => simp [intOf]; omega
      · have HKE : Hid ((l.take (k + 1)).filter (fun p => knB l R p.1) = K ++ [(q0, q1, q2)]) := by show _ = _; rw [HK1.out, hkn]; simp
        have HVE : Hid ((l.take (k + 1)).filter (fun p => wyB l R p.1) = V) := by show _ = _; rw [HW1.out, Orangery.wy_ab, hkn]; simp
        have hN3 := HN1.out.keep hb2
        have hX3 := HX1.out.keep hb2
        have HT4 : Hid (Two w2 (w.heap.size + 4) v u K V) := HT2.out.keep hb2
        have HB3 : Hid (Below (w.heap.size + 3) W0 w2) := HB1.out.trans (hb2.mono (by omega))
        clear HK1 HN1 HX1 HT2 HB1 hb2 HP1 HI1 HT1 HQ1 hkn HW1
        obtain ⟨WW, hWW, hZ, hBz, hSz⟩ := laid1 w2 [Value.int IntKind.i64 q0, Value.int IntKind.i64 q1, Value.int IntKind.i64 q2] 64
        have m0 := hN3.at 0 rfl
        have m1 := hN3.at 1 rfl
        have m2 := hN3.at 2 rfl
        have x1 := hX3.at 0 rfl
        have HTZ : Hid (Two WW (w.heap.size + 4) v u K V) := HT4.out.keep hBz
        have hown : WW.ownsRow (w.heap.size + 4) 64 3 v K.length (K.flatMap encPl) := HTZ.out.1
        have HXZ : Hid (Blk WW (w.heap.size + 1 + 1 + 1) [v, u]) := hX3.keep hBz
        have HBZ : Hid (Below (w.heap.size + 3) W0 WW) := HB3.out.trans (hBz.mono (by omega))
        have HZ : Hid (Blk WW w2.heap.size [Value.int IntKind.i64 q0, Value.int IntKind.i64 q1, Value.int IntKind.i64 q2]) := hZ
        clear hN3 hX3 HT4 HB3 hBz hZ
        go_wp2_with (at_builtin; refine wpList_append_own_at _ rfl _ _ 23 rfl (w.heap.size + 4) 64 i0 _ 3 24 Tryz.underlying23 hi hz0 hz1 hz2 rfl (by decide) _ _ _ rfl hown ⟨w2.heap.size, 0, none⟩ 1 1 [.int .i64 q0, .int .i64 q1, .int .i64 q2] rfl rfl ?c1 ?c2 ?c3 ?c4 ?c5 ?_)
        case c1 => intro j y hj; rw [Addr.add_mid, Nat.zero_add]; exact HZ.out.at j hj
        case c2 => exact encPl_one (q0, q1, q2)
        case c3 => unfold maxLen; omega
        case c4 => omega
        case c5 => omega
        intro v' w4 hown' hgrow _ hat
        rw [← hSz] at hat
        have hlo : ∀ g, v.ownBlock = some g → w.heap.size + 4 ≤ g := fun g hg => (World.ownsRow.lt hown g hg).1
        have hO' : OwnE encPl 3 64 w4 (w.heap.size + 4) v' (K ++ [(q0, q1, q2)]) := by simpa [OwnE, encPl] using hown'
        obtain ⟨a4, c4, rfl, _⟩ := hO'.val
        rw [List.length_append, List.length_singleton] at hO' hat
        have HTW : Hid (Two w4 (w.heap.size + 4) (.slice a4 (K.length + 1) c4) u (K ++ [(q0, q1, q2)]) V) := HTZ.out.grew hO' hgrow hat
        have hX4 := HXZ.out.grown hgrow (fun e => by have := hlo _ e.symm; omega)
        have HB4 : Hid (Below (w.heap.size + 3) W0 w4) := HBZ.out.grown hgrow (by omega) (fun g hg => by have := hlo g hg; omega)
        have y1 := hX4.at 0 rfl
        have yf := hX4.frz
        have HX4 : Hid (Blk w4 (w.heap.size + 1 + 1 + 1) [v, u]) := hX4
        clear hown hown' hgrow hat hO' hlo hSz HTZ HXZ HBZ HZ hX4 hWW m0 m1 m2 x1
        go_wp2
        go_roundw
        case rel => exact ⟨k + 1, _, u, hlt, by go_num, HX4.out.set 0 (by simp) (.slice a4 (K.length + 1) c4), by rw [HKE.out, HVE.out]; exact HTW.out.other _ (by omega) _ _, HB4.out.setCell (by show _ ≤ w.heap.size + 1 + 1 + 1; omega) _⟩
        case measure => simp [intOf]; omega
    · have hkl : k = l.length := by omega
      subst hkl
      rw [List.take_of_length_le (Nat.le_refl _)] at htwo
      have htwo : Two wr (w.heap.size + 4) v u (viewK l R) (viewW l R) := htwo
      obtain ⟨a5, c5, rfl, _⟩ := htwo.1.val
      obtain ⟨a6, c6, rfl, _⟩ := htwo.2.1.val
      have HTW : Hid (Two wr (w.heap.size + 4) (.slice a5 (viewK l R).length c5) (.slice a6 (viewW l R).length c6) (viewK l R) (viewW l R)) := htwo
      have hO2 := HO.out.below hb (by omega)
      have HX2 : Hid (Blk (wr.setCells (w.heap.size + 1 + 1) 0 [.slice a5 (viewK l R).length c5, .slice a6 (viewW l R).length c6]) (w.heap.size + 1 + 1) [.slice a5 (viewK l R).length c5, .slice a6 (viewW l R).length c6]) := hO2.sets [.slice a5 (viewK l R).length c5, .slice a6 (viewW l R).length c6] rfl
      have x0 := hblk.at 0 rfl
      have x1 := hblk.at 1 rfl
      have y0 := hO2.at 0 rfl
      have y1 := hO2.at 1 rfl
      have yf := hO2.frz
      clear htwo hO2 hblk hb
      go_wp2
      refine ret_cell (vs := [.slice a5 (viewK l R).length c5, .slice a6 (viewW l R).length c6]) Tryz.results94 rfl (HX2.out.load Tryz.underlying132 rfl sizeParts) ⟨_, _, rfl, ?_, ?_⟩
      · exact ((HTW.out.other _ (by omega) _ _).other _ (by omega) _ _).mono (by omega)
      · exact below_sets HBw.out _ (by omega) [.slice a5 (viewK l R).length c5, .slice a6 (viewW l R).length c6] 0
end Go.Proofs.YtljbchkmoekpmadGreat

/- cmp.Or at error numbers. -/
namespace Go.Proofs.YtljbchkmoekpmadGreat
open Go.ChangeShapes Go.WideShapes Go.ChangeAt Go.RowKit
open Orangery (orI)

set_option maxHeartbeats 400000 in
theorem orE_any (w : World) (b c : Nat) (x y : Int) (h0 : w.cell? ⟨b, 0, none⟩ = some (.int .i64 x)) (h1 : w.cell? ⟨b, 1, none⟩ = some (.int .i64 y)) :
    Calls Tryz.prog 38 #[.slice (some ⟨b, 0, none⟩) 2 c] w fun e w' => e = .returned (.int .i64 (orI x y)) ∧ w' = w := by
  go_enter Tryz.func38, Tryz.ntmps38
  go_wp2
  go_loop [8] (fun i => ∃ k : Nat, k ≤ 2 ∧ i = .int .i64 k ∧ (1 ≤ k → x = 0) ∧ (2 ≤ k → y = 0)) (fun i => 2 - (intOf i).toNat)
  case atStart => exact ⟨0, by omega, rfl, by omega, by omega⟩
  case round =>
    obtain ⟨k, hk, rfl, hx, hy⟩ := hrel
    have hc : k = 0 ∨ k = 1 ∨ k = 2 := by omega
    rcases hc with rfl | rfl | rfl
    · clear hx hy
      by_cases hx : x = 0
      · have hx' : (x != 0) = false := by simp [hx]
        have HX : Hid (x = 0) := hx
        clear hx
        go_wp2
        go_round
        case rel => exact ⟨1, by omega, by go_num, fun _ => HX.out, by omega⟩
        case measure => simp [intOf]
      · have hx' : (x != 0) = true := by simp [hx]
        have HX : Hid (x ≠ 0) := hx
        clear hx
        go_wp2
        go_ret
        exact ⟨ret_int (by rw [orI, if_pos HX.out]), rfl⟩
    · have HX : Hid (x = 0) := hx (by omega)
      clear hx hy
      by_cases hy : y = 0
      · have hy' : (y != 0) = false := by simp [hy]
        have HY : Hid (y = 0) := hy
        clear hy
        go_wp2
        go_round
        case rel => exact ⟨2, by omega, by go_num, fun _ => HX.out, fun _ => HY.out⟩
        case measure => simp [intOf]
      · have hy' : (y != 0) = true := by simp [hy]
        clear hy
        go_wp2
        go_ret
        exact ⟨ret_int (by rw [orI, if_neg (by simp [HX.out])]), rfl⟩
    · have HX : Hid (x = 0) := hx (by omega)
      have HY : Hid (y = 0) := hy (by omega)
      clear hx hy
      go_wp2
      go_ret
      exact ⟨ret_int (by rw [orI, if_neg (by simp [HX.out]), HY.out]), rfl⟩

end Go.Proofs.YtljbchkmoekpmadGreat

