/- 9 texts of the proof: Regions that draw their order, walked step by step: an operation that is not wanted is taken too. An append in a region that draws its order. hub.Same, orangeryref.SameHub; hub.New, orangeryref.FreshHub; hub.clone. slices.DeleteFunc at places, on a slice of the call's own. move.without, move.with$1. slices.SortFunc at places is the library's, by its own laws. slices.SortFunc by tree.byName, on a s -/
import Derived.Deep.RegionHeld3
import Derived.Laws.AppendOwn
import Derived.Shelf.SlSortFuncK.RowK2
import Derived.Shelf.SlSortCmp.NoneTotal
import Derived.Shelf.SlGeneric
import Derived.Ground.SlsfProg
import Derived.Test.YthlhnokgcnieeadGreatDoorProg
import Derived.Shelf.SlSortCmp.WholeK
import Derived.Test.YthlhnokgcnieeadGreatDoorP01
import Derived.Test.YthlhnokgcnieeadGreatDoorP06
import Derived.Test.YthlhnokgcnieeadGreatDoorP02
import Derived.Test.YthlhnokgcnieeadGreatDoorP03
/- Regions that draw their order, walked step by step: an operation that is not wanted is taken too. -/
namespace Go.Proofs.YthlhnokgcnieeadGreatDoor
open Go.ChangeShapes Go.WideShapes Go.ChangeAt Go.RowKit

/-- a wanted operation is taken first -/
theorem take_yes {P : Program} {md : Region.Mode} {ops : Array Oper} {Q : Exit → Act → World → Prop} {S : World → Prop} (i : Nat) (d : Nat) {oi : Oper} {v : Value} {fuel : Nat} {listed : Array Bool} {a : Act} {w : World} (hi : ops[i]? = some oi) (hd : oi.dst = some d)
    (hs : Region.noSelect ops = true) (hf : Region.free md ops listed i = true) (hr : (Region.ready md ops listed).contains i = true)
    (hQ : ∀ c a w, Q (.panic c) (a.put oi.dst v) w → Q (.panic c) a w) (hw : Region.wanted oi (yielded ops a.tmps) = true) (hy : ∀ w, S w → (execOp a.eval oi).run P w = .ok (.value v) w) (hS : S w)
    (h : wpAnyH P md ops Q S fuel (listed.setIfInBounds i true) (a.put (some d) v) w) : wpAnyH P md ops Q S (fuel + 1) listed a w :=
  wpAnyH_take hi hs hf hr hQ (Or.inl ⟨hw, hy⟩) hS (by rw [hd]; exact h)

/-- an operation that is not wanted is passed by -/
theorem take_no {P : Program} {md : Region.Mode} {ops : Array Oper} {Q : Exit → Act → World → Prop} {S : World → Prop} (i : Nat) (d : Nat) {oi : Oper} {fuel : Nat} {listed : Array Bool} {a : Act} {w : World} (hi : ops[i]? = some oi) (hd : oi.dst = some d)
    (hs : Region.noSelect ops = true) (hf : Region.free md ops listed i = true) (hr : (Region.ready md ops listed).contains i = true)
    (hQ : ∀ c a w, Q (.panic c) (a.put oi.dst undef) w → Q (.panic c) a w) (hw : Region.wanted oi (yielded ops a.tmps) = false) (hS : S w)
    (h : wpAnyH P md ops Q S fuel (listed.setIfInBounds i true) (a.put (some d) undef) w) : wpAnyH P md ops Q S (fuel + 1) listed a w :=
  wpAnyH_take hi hs hf hr hQ (Or.inr ⟨hw, rfl⟩) hS (by rw [hd]; exact h)
/-- a load of a whole row or struct is taken first -/
theorem take_load {P : Program} {md : Region.Mode} {ops : Array Oper} {Q : Exit → Act → World → Prop} {S : World → Prop} (i : Nat) (d : Nat) {oi : Oper} (ty : TypeId) {x : Operand} (b : Nat) (cs : List Value) {dd : TypeDesc} {fuel : Nat} {listed : Array Bool} {a : Act} {w : World} (hi : ops[i]? = some oi) (hd : oi.dst = some d)
    (hs : Region.noSelect ops = true) (hf : Region.free md ops listed i = true) (hr : (Region.ready md ops listed).contains i = true)
    (hQ : ∀ c a w, Q (.panic c) (a.put oi.dst (.agg cs.toArray)) w → Q (.panic c) a w) (hw : Region.wanted oi (yielded ops a.tmps) = true)
    (ho : oi.op = .load ty x) (hx : a.eval x = .pointer (some ⟨b, 0, none⟩)) (hc : ∀ w, S w → w.rangeAt b 0 cs)
    (hu : P.underlying ty = some dd) (hdd : dd.isRow = true) (hz : (P.info? ty).map (·.size) = some cs.length) (hS : S w)
    (h : wpAnyH P md ops Q S fuel (listed.setIfInBounds i true) (a.put (some d) (.agg cs.toArray)) w) : wpAnyH P md ops Q S (fuel + 1) listed a w :=
  wpAnyH_take hi hs hf hr hQ (yieldsIf_load_mid hw ty x ho b 0 hx cs dd hc hu hdd hz) hS (by rw [hd]; exact h)
/-- a store of a whole row or struct, the only one that may come up -/
theorem step_store {P : Program} {md : Region.Mode} {ops : Array Oper} {Q : Exit → Act → World → Prop} {S : World → Prop} (i : Nat) {oi : Oper} (ty : TypeId) {x y : Operand} (b : Nat) (cs : List Value) {fuel : Nat} {listed : Array Bool} {a : Act} {w : World} (hr : Region.ready md ops listed = [i]) (hi : ops[i]? = some oi) (hd : oi.dst = none)
    (hw : Region.wanted oi (yielded ops a.tmps) = true) (ho : oi.op = .store ty x y) (hx : a.eval x = .pointer (some ⟨b, 0, none⟩)) (hy : a.eval y = .agg cs.toArray)
    (ht : w.there b 0 cs.length) (hz : (P.info? ty).map (·.size) = some cs.length) (h1 : ∀ v ∈ cs, v.oneCell' = true) (hS : S (w.setCells b 0 cs))
    (h : wpAnyH P md ops Q S fuel (listed.setIfInBounds i true) a (w.setCells b 0 cs)) : wpAnyH P md ops Q S (fuel + 1) listed a w := by
  refine wpAnyH_ready hr (by simp) (AllReadyH.cons hi (fun K hK => ?_) AllReadyH.nil)
  rw [if_pos hw]
  refine wp_store_mid ty x y ho b 0 cs.toArray hx hy (by simpa using ht) (by simpa using hz) (all_oneCell_toArray h1) ?_
  rw [hd]
  have e : cs.toArray.toList = cs := rfl
  rw [e]
  exact hK.out _ _ hS (fun _ => h)
/-- a store of a whole struct anywhere in a block, the only operation that may come up -/
theorem step_store_at {P : Program} {md : Region.Mode} {ops : Array Oper} {Q : Exit → Act → World → Prop} {S : World → Prop} (i : Nat) {oi : Oper} (ty : TypeId) {x y : Operand} (b o : Nat) (cs : List Value) {fuel : Nat} {listed : Array Bool} {a : Act} {w : World} (hr : Region.ready md ops listed = [i]) (hi : ops[i]? = some oi) (hd : oi.dst = none)
    (hw : Region.wanted oi (yielded ops a.tmps) = true) (ho : oi.op = .store ty x y) (hx : a.eval x = .pointer (some ⟨b, o, none⟩)) (hy : a.eval y = .agg cs.toArray)
    (ht : w.there b o cs.length) (hz : (P.info? ty).map (·.size) = some cs.length) (h1 : ∀ v ∈ cs, v.oneCell' = true) (hS : S (w.setCells b o cs))
    (h : wpAnyH P md ops Q S fuel (listed.setIfInBounds i true) a (w.setCells b o cs)) : wpAnyH P md ops Q S (fuel + 1) listed a w := by
  refine wpAnyH_ready hr (by simp) (AllReadyH.cons hi (fun K hK => ?_) AllReadyH.nil)
  rw [if_pos hw]
  refine wp_store_mid ty x y ho b o cs.toArray hx hy (by simpa using ht) (by simpa using hz) (all_oneCell_toArray h1) ?_
  rw [hd]
  have e : cs.toArray.toList = cs := rfl
  rw [e]
  exact hK.out _ _ hS (fun _ => h)
end Go.Proofs.YthlhnokgcnieeadGreatDoor

/- An append in a region that draws its order. -/
namespace Go.Proofs.YthlhnokgcnieeadGreatDoor
open Go.ChangeShapes Go.WideShapes Go.ChangeAt Go.RowKit

/-- an append to a slice of the call's own, the only operation that may come up -/
theorem step_append {P : Program} {md : Region.Mode} {ops : Array Oper} {Q : Exit → Act → World → Prop} {S : World → Prop} (i d : Nat) {oi : Oper} {s x : Operand} (t : TypeId) {fuel : Nat} {listed : Array Bool} {a : Act} {w : World} (hr : Region.ready md ops listed = [i]) (hi : ops[i]? = some oi) (hd : oi.dst = some d)
    (hw : Region.wanted oi (yielded ops a.tmps) = true) (ho : oi.op = .call { callee := .builtin .append, args := #[s, x], argTypes := #[t, t] })
    (base : Nat) (e : TypeId) (inf : TypeInfo) (z : Value) (size bytes : Nat) (ht : P.underlying t = some (.slice e)) (hinf : P.info? e = some inf) (hz : inf.zero = some z)
    (hsize : inf.size = size) (hby : inf.bytes = bytes) (hzs : z.cells.size = size) (hsz : 0 < size)
    (v : Value) (n : Nat) (xs : List Value) (hs : a.eval s = v) (hown : w.ownsRow base e size v n xs)
    (ad : Addr) (m c : Nat) (news : List Value) (hx : a.eval x = .slice (some ad) m c) (hl : news.length = m * size) (hnews : ∀ j u, news[j]? = some u → w.cell? (ad.add j) = some u) (h1 : ∀ u ∈ news, u.oneCell' = true)
    (h63 : n + m ≤ maxLen) (hbytes : (n + m) * bytes ≤ 140737488355328) (hbase : base ≤ w.heap.size)
    (h : ∀ v' w', w'.ownsRow base e size v' (n + m) (xs ++ news) → w.grownBy w' v.ownBlock → S w' ∧ wpAnyH P md ops Q S fuel (listed.setIfInBounds i true) (a.put (some d) v') w') : wpAnyH P md ops Q S (fuel + 1) listed a w := by
  refine wpAnyH_ready hr (by simp) (AllReadyH.cons hi (fun K hK => ?_) AllReadyH.nil)
  rw [if_pos hw]
  refine wp_append_own w s x t ho base e inf z size bytes ht hinf hz hsize hby hzs hsz v n xs hs hown ad m c news hx hl hnews h1 h63 hbytes hbase (fun v' w' h2 h3 _ => ?_)
  rw [hd]
  exact hK.out _ _ (h v' w' h2 h3).1 (fun _ => (h v' w' h2 h3).2)
end Go.Proofs.YthlhnokgcnieeadGreatDoor

/- hub.Same, orangeryref.SameHub; hub.New, orangeryref.FreshHub; hub.clone. -/
namespace Go.Proofs.YthlhnokgcnieeadGreatDoor
open Go.ChangeShapes Go.WideShapes Go.ChangeAt Go.RowKit
open Orangery (Pl Mv Stp Rc Pr Hb peerE peersE rootsOk hubE histE sameB sameB_iff)

def sameH (h k : Hb) : Bool := sameB h.1.1 k.1.1 h.1.2 k.1.2 && decide (h.2.1 = k.2.1) && decide (h.2.2 = k.2.2)
theorem sameH_iff (h k : Hb) : sameH h k = true ↔ h = k := by
  unfold sameH
  rw [Bool.and_eq_true, Bool.and_eq_true, sameB_iff, decide_eq_true_eq, decide_eq_true_eq]
  obtain ⟨⟨h1, h2⟩, h3, h4⟩ := h
  obtain ⟨⟨k1, k2⟩, k3, k4⟩ := k
  constructor
  · rintro ⟨⟨⟨e1, e2⟩, e3⟩, e4⟩
    simp only at e1 e2 e3 e4
    subst e1 e2 e3 e4
    rfl
  · intro e
    simp only [Prod.mk.injEq] at e
    exact ⟨⟨⟨e.1.1, e.1.2⟩, e.2.1⟩, e.2.2⟩
theorem sameH_refl (h : Hb) : sameH h h = true := (sameH_iff h h).2 rfl
theorem sameH_no {h k : Hb} (e : h ≠ k) : sameH h k = false := by
  cases hq : sameH h k
  · rfl
  · exact absurd ((sameH_iff h k).1 hq) e
theorem sameH_hist {h k : Hb} (e : sameB h.1.1 k.1.1 h.1.2 k.1.2 = false) : sameH h k = false := by
  refine sameH_no ?_
  rintro rfl
  rw [(sameB_iff _ _ _ _).2 ⟨rfl, rfl⟩] at e
  simp at e
theorem sameH_peers {h k : Hb} {X Y : List Pm} (hX : X.map (·.1) = h.2.2) (hY : Y.map (·.1) = k.2.2) (e : sameB h.1.1 k.1.1 h.1.2 k.1.2 = true) (e2 : h.2.1 = k.2.1) : sameH h k = eqPs X Y := by
  obtain ⟨e3, e4⟩ := (sameB_iff _ _ _ _).1 e
  cases hq : eqPs X Y
  · refine sameH_no ?_
    rintro rfl
    rw [eqPs_yes (by rw [hX, hY])] at hq
    simp at hq
  · rw [sameH_iff]
    have e5 := (eqPs_iff _ _).1 hq
    rw [hX, hY] at e5
    obtain ⟨⟨h1, h2⟩, h3, h4⟩ := h
    obtain ⟨⟨k1, k2⟩, k3, k4⟩ := k
    simp only at e3 e4 e2 e5
    subst e3 e4 e2 e5
    rfl
theorem enters_uSame1 : ∀ args w, (callFunc 31 args).run Tryz.prog w = .ok (.enter 31 args) w := Go.Proofs.enters_of Tryz.func31 (by kernel_rfl) rfl
set_option maxHeartbeats 2000000 in
set_option maxRecDepth 100000 in
theorem usame_any (w : World) (v v' : Value) (h k : Hb) (hh : HuIs w v h) (hk : HuIs w v' k) :
    Calls Tryz.prog 11 #[v, v'] w fun e w' => e = .returned (.bool (sameH h k)) ∧ Below w.heap.size w w' := by
  obtain ⟨a, c, p, d, q, g, X, rfl, hX⟩ := hh
  obtain ⟨a', c', p', d', q', g', Y, rfl, hY⟩ := hk
  have HX := Lib.hid hX
  have HY := Lib.hid hY
  clear hX hY
  have HNO := Lib.hid (@sameH_hist h k)
  have HEQ := Lib.hid (@sameH_peers h k X Y HX.out.are HY.out.are)
  have HN2 : Hid (h.2.1 ≠ k.2.1 → sameH h k = false) := fun e => sameH_no (by rintro rfl; exact e rfl)
  obtain ⟨⟨L, T⟩, n, P⟩ := h
  obtain ⟨⟨L', T'⟩, n', P'⟩ := k
  have hl : L.length ≤ maxLen := by have := HX.out.few1; simp only at this; unfold maxLen; omega
  have ht : T.length ≤ maxLen := HX.out.few2
  go_enter Tryz.func11, Tryz.ntmps11
  go_wp2_with fail
  obtain ⟨W0, hW, hA, hC, hB, -⟩ := laid2 w [Value.slice a L.length c, .slice p T.length d, .int .i64 n, .slice q X.length g] 31 [Value.slice a' L'.length c', .slice p' T'.length d', .int .i64 n', .slice q' Y.length g'] 31
  rw [hW]
  clear hW
  refine (same_any W0 a a' p p' c c' d d' L L' T T' hl ht (HX.out.keep hB).steps (HY.out.keep hB).steps (HX.out.keep hB).places (HY.out.keep hB).places).mono ?_
  rintro e w1 ⟨rfl, hb1⟩
  have hA1 := hA.keep hb1
  have hC1 := hC.keep hb1
  have HB1 : Hid (Below w.heap.size w w1) := hB.trans (hb1.mono hB.size)
  clear hA hC hB hb1
  have x2 := hA1.at 2 rfl
  have x3 := hA1.at 3 rfl
  have y2 := hC1.at 2 rfl
  have y3 := hC1.at 3 rfl
  clear hA1 hC1
  cases hq : sameB L L' T T'
  · have HE := Lib.hid (HNO.out hq)
    clear hq HNO HEQ HN2
    go_wp2
    go_ret
    exact ⟨ret_bool HE.out.symm, HB1.out⟩
  by_cases hn : n = n'
  case neg =>
    have d1 : (n == n') = false := by simpa using hn
    have HE := Lib.hid (HN2.out hn)
    clear hq HNO HEQ HN2 hn
    go_wp2
    go_ret
    exact ⟨ret_bool HE.out.symm, HB1.out⟩
  have HE := Lib.hid (HEQ.out hq hn)
  subst hn
  clear hq HNO HEQ HN2
  go_wp2_with fail
  refine (eqFuncP_any w1 q q' g g' X Y 31 HX.out.few3 (HX.out.peers.keep HB1.out) (HY.out.peers.keep HB1.out) enters_uSame1 (fun W x y hx hy => usame1_any W x y hx hy)).mono ?_
  rintro e w2 ⟨rfl, hb2⟩
  have HB2 : Hid (Below w.heap.size w w2) := HB1.out.trans (hb2.mono HB1.out.size)
  clear HB1 hb2 x2 x3 y2 y3
  go_wp2
  go_ret
  exact ⟨ret_bool HE.out.symm, HB2.out⟩

end Go.Proofs.YthlhnokgcnieeadGreatDoor

/- slices.DeleteFunc at places, on a slice of the call's own. -/
namespace Go.Proofs.YthlhnokgcnieeadGreatDoor
open Go.ChangeShapes Go.WideShapes Go.ChangeAt Go.RowKit
open Orangery (Pl idxF Kept)

theorem HoldsP.set {w : World} {g : Nat} {m : List Pl} (h : HoldsP w g m) (i : Nat) (hi : i < m.length) (x : Pl) :
    HoldsP (((w.setCell ⟨g, i * 3, none⟩ (.int .i64 x.1)).setCell ⟨g, i * 3 + 1, none⟩ (.int .i64 x.2.1)).setCell ⟨g, i * 3 + 2, none⟩ (.int .i64 x.2.2)) g (m.set i x) := by
  obtain ⟨hp, hf⟩ := h
  refine ⟨?_, ?_⟩
  · intro k hk
    have hk' : k < m.length := by simpa using hk
    have h0 := hp i hi
    have h1 := hp k hk'
    simp only [Nat.zero_add] at h0 h1 ⊢
    by_cases hik : i = k
    · subst hik
      simp only [List.getElem_set_self]
      refine ⟨?_, ?_, ?_⟩
      · rw [World.cell?_setCell_other _ _ _ _ (by simp), World.cell?_setCell_other _ _ _ _ (by simp), World.cell?_setCell_same _ _ _ h0.1]
      · rw [World.cell?_setCell_other _ _ _ _ (by simp), World.cell?_setCell_same _ _ _ (u := .int .i64 m[i].2.1)]
        rw [World.cell?_setCell_other _ _ _ _ (by simp), h0.2.1]
      · rw [World.cell?_setCell_same _ _ _ (u := .int .i64 m[i].2.2)]
        rw [World.cell?_setCell_other _ _ _ _ (by simp), World.cell?_setCell_other _ _ _ _ (by simp), h0.2.2]
    · rw [List.getElem_set_ne hik]
      refine ⟨?_, ?_, ?_⟩
      all_goals
        rw [World.cell?_setCell_other _ _ _ _ (by simp <;> omega), World.cell?_setCell_other _ _ _ _ (by simp <;> omega), World.cell?_setCell_other _ _ _ _ (by simp <;> omega)]
      · exact h1.1
      · exact h1.2.1
      · exact h1.2.2
  · intro k hk
    simp only [World.frozen?_setCell]
    exact hf k (by simpa using hk)

theorem HoldsP.below {w w' : World} {g : Nat} {m : List Pl} (h : HoldsP w g m) (hg : g < w.heap.size) (hb : Below w.heap.size w w') : HoldsP w' g m :=
  ⟨fun i hi => by rw [hb.cell hg, hb.cell hg, hb.cell hg]; exact h.1 i hi, fun i hi => by rw [hb.frozen hg]; exact h.2 i hi⟩

theorem zeroPlaces (n : Nat) : ∀ v ∈ (Builtin.zeroCells #[Value.int IntKind.i64 0, Value.int IntKind.i64 0, Value.int IntKind.i64 0] n).toList, v.oneCell' = true := by
  intro v hv
  simp [Builtin.zeroCells] at hv
  obtain ⟨a, _, rfl⟩ := hv
  have : a % 3 = 0 ∨ a % 3 = 1 ∨ a % 3 = 2 := by omega
  rcases this with h | h | h <;> rw [h] <;> rfl

/-- 'clear' of the end of a row -/
theorem run_clear_places (w : World) (ty : TypeId) (g i n c : Nat) (m : List Pl) (h : HoldsP w g m) (hn : i + n = m.length) (hp : 0 < n) :
    ∃ vs, vs.length = n * 3 ∧ (Builtin.clear_ #[24] ty #[.slice (some ⟨g, i * 3, none⟩) n c]).run Tryz.prog w = .ok (.tuple #[]) (w.setCells g (i * 3) vs) := by
  refine ⟨(Builtin.zeroCells #[Value.int IntKind.i64 0, Value.int IntKind.i64 0, Value.int IntKind.i64 0] n).toList, by simp [size_zeroCells], ?_⟩
  have hst := run_storeCells_cells (P := Tryz.prog) g (i * 3) (Builtin.zeroCells #[Value.int IntKind.i64 0, Value.int IntKind.i64 0, Value.int IntKind.i64 0] n).toList 0 w
    (by
      intro j hj
      have hj' : j < n * 3 := by simpa [size_zeroCells] using hj
      have hc := h.1 ((i * 3 + j) / 3) (by omega)
      have hm : (i * 3 + j) % 3 = 0 ∨ (i * 3 + j) % 3 = 1 ∨ (i * 3 + j) % 3 = 2 := by omega
      rcases hm with hm | hm | hm
      · rw [show i * 3 + 0 + j = 0 + (i * 3 + j) / 3 * 3 by omega, hc.1]; rfl
      · rw [show i * 3 + 0 + j = 0 + (i * 3 + j) / 3 * 3 + 1 by omega, hc.2.1]; rfl
      · rw [show i * 3 + 0 + j = 0 + (i * 3 + j) / 3 * 3 + 2 by omega, hc.2.2]; rfl)
    (by
      intro j hj
      have hj' : j < n * 3 := by simpa [size_zeroCells] using hj
      exact h.2 _ (by omega))
    (zeroPlaces n)
  simp only [Nat.add_zero] at hst
  obtain ⟨k, rfl⟩ : ∃ k, n = k + 1 := ⟨n - 1, by omega⟩
  have hz := Tryz.zeroValue93
  simp [Builtin.clear_, run_underlying Tryz.underlying24, hz, Value.cells, hst]

theorem HoldsP.cleared {w : World} {g i : Nat} {m : List Pl} (h : HoldsP w g m) (vs : List Value) (hi : i ≤ m.length) : HoldsP (w.setCells g (i * 3) vs) g (m.take i) := by
  refine ⟨fun k hk => ?_, fun k hk => ?_⟩
  · have hk' : k < i := by simp at hk; omega
    have := h.1 k (by omega)
    rw [List.getElem_take]
    rw [World.cell?_setCells_out _ _ _ _ _ (by simp; omega), World.cell?_setCells_out _ _ _ _ _ (by simp; omega), World.cell?_setCells_out _ _ _ _ _ (by simp; omega)]
    exact this
  · rw [World.frozen?_setCells]
    exact h.2 k (by simp at hk; omega)

theorem below_setCells {B : Nat} {w : World} (g : Nat) (hg : B ≤ g) : ∀ (vs : List Value) (o : Nat) (W : World), Below B w W → Below B w (W.setCells g o vs)
  | [], _, _, h => h
  | v :: r, o, W, h => below_setCells g hg r (o + 1) _ (h.setCell (by exact hg) v)

set_option maxHeartbeats 2000000 in
theorem delete_any (w : World) (base : Nat) (sv : Value) (l : List Pl) (k : Nat) (v : Value) (f : Pl → Bool) (hl : l.length ≤ 1000) (h : OwnS w base sv l)
    (hbase : base ≤ w.heap.size)
    (eg : ∀ args w, (callFunc k args).run Tryz.prog w = .ok (.enter k args) w)
    (hg : ∀ W p, Below base w W → Calls Tryz.prog k #[plV p, v] W fun e w' => e = .returned (.bool (f p)) ∧ Below W.heap.size W w') :
    Calls Tryz.prog 157 #[sv, .func (.func k) #[] #[v]] w
      fun e w' => ∃ rv, e = .returned rv ∧ OwnS w' base rv (l.filter fun p => !f p) ∧ Below base w w' := by
  obtain ⟨a, c, rfl, hP⟩ := h.slp
  go_enter Tryz.func157, Tryz.ntmps157
  go_wp2_with fail
  refine (indexFunc_any w a c l k v f (by unfold maxLen; omega) hP eg (fun W p hb => hg W p (hb.mono hbase))).mono ?_
  rintro e w1 ⟨rfl, hb1⟩
  have hO1 := h.below hb1
  have hB1 : Below base w w1 := hb1.mono hbase
  have hS1 : base ≤ w1.heap.size := Nat.le_trans hbase hb1.size
  clear hP h
  rcases Orangery.idxF_first f l 0 with ⟨h1, h2⟩ | ⟨i, hi, h1, h2⟩
  · rw [h1]
    have HE : Hid (l.filter (fun p => !f p) = l) := h2
    clear h1 h2
    go_wp2
    go_ret
    exact ⟨_, rfl, by rw [HE.out]; exact hO1, hB1⟩
  · rw [h1, Nat.zero_add]
    have hK := Kept.start f l i hi h2
    clear h1 h2
    rcases hO1 with ⟨_, hO1⟩ | ⟨g, cap, hv, hgb, hgl, hcap, hcm, hH, hrow⟩
    · exact absurd hi (by simp [hO1])
    have hv' : a = some ⟨g, 0, none⟩ ∧ c = cap := by simpa using hv
    obtain ⟨rfl, rfl⟩ := hv'
    clear hv
    have HH : Hid (HoldsP w1 g l) := hH
    have HROW : Hid (RowAt w1 g c) := hrow
    clear hrow
    have HK : Hid (Kept f l l i (i + 1)) := hK
    clear hH hK
    have hi' : ((i : Int) == -1) = false := by simp <;> omega
    go_wp2
    go_loopw [5, 6] (fun x y W => ∃ (i j : Nat) (m : List Pl), x = .int .i64 i ∧ y = .int .i64 j ∧ Kept f l m i j ∧ HoldsP W g m ∧ (g < W.heap.size ∧ RowAt W g c) ∧ Below base w W) (fun _ y _ => l.length - (intOf y).toNat)
    case atStart => exact ⟨i, i + 1, l, rfl, by go_num, HK.out, HH.out, ⟨hgl, HROW.out⟩, hB1⟩
    case round =>
      clear hgl HH HK hi' HROW
      obtain ⟨i, j, m, rfl, rfl, hK, hH, ⟨hgl, hrow⟩, hb⟩ := hrel
      have HROW : Hid (RowAt wr g c) := hrow
      clear hrow
      have HH : Hid (HoldsP wr g m) := hH
      have HK : Hid (Kept f l m i j) := hK
      have hml : m.length = l.length := hK.1
      have hij : i < j := hK.2.1
      have hjl : j ≤ l.length := hK.2.2.1
      by_cases hlt : j < l.length
      · obtain ⟨hjm, hmj⟩ := hK.get hlt
        have gg := hH.1 j hjm
        rw [hmj] at gg
        simp only [Nat.zero_add] at gg
        obtain ⟨g0, g1, g2⟩ := gg
        have hx := hH.1 i (by omega)
        simp only [Nat.zero_add] at hx
        obtain ⟨x0, x1, x2⟩ := hx
        have hfr : ∀ t, t < m.length * 3 → wr.frozen? ⟨g, t, none⟩ = false := hH.2
        have K1 := hK.skip hlt
        have K2 := hK.keep hlt
        have HK1 : Hid (f l[j] = true → Kept f l m i (j + 1)) := K1
        have HK2 : Hid (f l[j] = false → Kept f l (m.set i l[j]) (i + 1) (j + 1)) := K2
        have HQ0 : Hid (m[j] = l[j]) := hmj
        clear hH hK K1 K2 hmj
        generalize hq : l[j] = q at *
        obtain ⟨q0, q1, q2⟩ := q
        have HQ : Hid (l[j] = (q0, q1, q2)) := hq
        clear hq
        simp only at g0 g1 g2
        go_wp2_with fail
        refine (hg _ (q0, q1, q2) (hb.alloc (Nat.le_trans hbase hb.size) _)).mono ?_
        rintro e w2 ⟨rfl, hb2⟩
        have hb3 : Below base w w2 := (hb.alloc (Nat.le_trans hbase hb.size) _).trans (hb2.mono (by simp; exact Nat.le_succ_of_le (Nat.le_trans hbase hb.size)))
        have hB2 : Below wr.heap.size wr w2 := (Go.Joins.below_alloc1 wr _).trans (hb2.mono (by simp))
        have z0 : w2.cell? ⟨wr.heap.size, 0, none⟩ = some (.int .i64 q0) := by rw [hb2.cell (by simp)]; simp
        have z1 : w2.cell? ⟨wr.heap.size, 1, none⟩ = some (.int .i64 q1) := by rw [hb2.cell (by simp)]; simp
        have z2 : w2.cell? ⟨wr.heap.size, 2, none⟩ = some (.int .i64 q2) := by rw [hb2.cell (by simp)]; simp
        have H2 : HoldsP w2 g m := HH.out.below hgl hB2
        have hgl2 : g < w2.heap.size := Nat.lt_of_lt_of_le hgl hB2.size
        have HROW2 : Hid (RowAt w2 g c) := HROW.out.below hB2 hgl
        have hne : ¬ wr.heap.size = g := by omega
        clear hb2 hB2 g0 g1 g2 x0 x1 x2 hfr hb HH
        cases hr : f (q0, q1, q2)
        · have HH2 : Hid (HoldsP w2 g m) := H2
          have hx := H2.1 i (by omega)
          simp only [Nat.zero_add] at hx
          obtain ⟨x0, x1, x2⟩ := hx
          have f0 := H2.2 (i * 3) (by omega)
          have f1 := H2.2 (i * 3 + 1) (by omega)
          have f2 := H2.2 (i * 3 + 2) (by omega)
          clear H2
          go_wp2
          go_roundw
          case rel =>
            refine ⟨i + 1, j + 1, m.set i (q0, q1, q2), by go_num, by go_num, HK2.out hr, HH2.out.set i (by omega) (q0, q1, q2), ⟨by simpa using hgl2, ((HROW2.out.set _ _ _).set _ _ _).set _ _ _⟩, ((hb3.setCell hgb _).setCell hgb _).setCell hgb _⟩
          case measure => simp [intOf]; omega
        · go_wp2
          go_roundw
          case rel => exact ⟨i, j + 1, m, rfl, by go_num, HK1.out hr, H2, ⟨hgl2, HROW2.out⟩, hb3⟩
          case measure => simp [intOf]; omega
      · have e := hK.done hlt
        have HE : Hid (m.take i = l.filter fun p => !f p) := e
        obtain ⟨vs, hvs, hrun⟩ := run_clear_places wr 0 g i (l.length - i) (c - i) m hH (by omega) (by omega)
        have HH2 : Hid (HoldsP (wr.setCells g (i * 3) vs) g (m.take i)) := hH.cleared vs (by omega)
        have hb2 := below_setCells g hgb vs (i * 3) wr hb
        have hlen : (m.take i).length = i := by simp; omega
        have hsz : (wr.setCells g (i * 3) vs).heap.size = wr.heap.size := by simp [Go.Sort.size_setCells]
        clear e hH hK
        go_wp2
        go_ret
        refine ⟨_, rfl, ?_, hb2⟩
        rw [← HE.out]
        refine Or.inr ⟨g, c, by rw [hlen]; rfl, hgb, by rw [hsz]; exact hgl, by omega, hcm, HH2.out, RowAt.sets g _ _ _ HROW.out⟩
end Go.Proofs.YthlhnokgcnieeadGreatDoor

/- move.without, move.with$1. -/
namespace Go.Proofs.YthlhnokgcnieeadGreatDoor
open Go.ChangeShapes Go.WideShapes Go.ChangeAt Go.RowKit
open Orangery (Pl Mv Stp outL inL cmpI)

theorem OwnS.mono {w : World} {base base' : Nat} {v : Value} {l : List Pl} (h : OwnS w base v l) (hb : base' ≤ base) : OwnS w base' v l := by
  rcases h with h | ⟨g, cap, rfl, h1, h2⟩
  · exact Or.inl h
  · exact Or.inr ⟨g, cap, rfl, Nat.le_trans hb h1, h2⟩

theorem OwnS.val {w : World} {base : Nat} {v : Value} {l : List Pl} (h : OwnS w base v l) : ∃ a cap, v = .slice a l.length cap := by
  obtain ⟨a, cap, e, _⟩ := h.slp
  exact ⟨a, cap, e⟩

/-- an own slice, behind the writing of an elder block -/
theorem OwnS.other {w : World} {base : Nat} {v : Value} {l : List Pl} (h : OwnS w base v l) (g : Nat) (hg : g < base) (j : Nat) (u : Value) : OwnS (w.setCell ⟨g, j, none⟩ u) base v l := by
  rcases h with h | ⟨b, cap, rfl, h1, hl, h2, h3, ⟨hp, hf⟩, hr⟩
  · exact Or.inl h
  · refine Or.inr ⟨b, cap, rfl, h1, by simpa using hl, h2, h3, ⟨fun i hi => ?_, fun i hi => ?_⟩, hr.set _ _ _⟩
    · rw [World.cell?_setCell_other _ _ _ _ (by simp <;> omega), World.cell?_setCell_other _ _ _ _ (by simp <;> omega), World.cell?_setCell_other _ _ _ _ (by simp <;> omega)]
      exact hp i hi
    · simp only [World.frozen?_setCell]
      exact hf i hi

theorem OwnS.others {base : Nat} {v : Value} {l : List Pl} (g : Nat) (hg : g < base) : ∀ (us : List Value) (o : Nat) (w : World), OwnS w base v l → OwnS (w.setCells g o us) base v l
  | [], _, _, h => h
  | u :: r, o, _, h => OwnS.others g hg r (o + 1) _ (h.other g hg o u)

set_option maxHeartbeats 1000000 in
theorem without_any (w : World) (a : Option Addr) (c : Nat) (l : List Pl) (n : Int) (hl : l.length ≤ 1000) (h : SlP w a l) :
    Calls Tryz.prog 142 #[.agg #[.slice a l.length c], .int .i64 n] w
      fun e w' => ∃ v, e = .returned (.agg #[v]) ∧ OwnS w' w.heap.size v (outL l n) ∧ Below w.heap.size w w' := by
  go_enter Tryz.func142, Tryz.ntmps142
  go_wp2_with fail
  obtain ⟨W0, hW, _, hN, hR, hB, hS⟩ := laid3 w [Value.slice a l.length c] 26 [Value.int IntKind.i64 n] 3 [Value.slice none 0 0] 26
  rw [hW]
  clear hW
  have hP := h.below hB
  clear h
  refine (clone_any W0 a c l hl hP).mono ?_
  rintro e w1 ⟨v1, rfl, hO1, hb1⟩
  have hN1 := hN.keep hb1
  have hR1 := hR.keep hb1
  have HB1 : Hid (Below w.heap.size w w1) := hB.trans (hb1.mono hB.size)
  clear hN hR hB hP
  go_wp2_with fail
  refine (delete_any w1 W0.heap.size v1 l 158 (.pointer (some ⟨w.heap.size + 1, 0, none⟩)) (fun p => p.1 == n) hl hO1 hb1.size (Go.Proofs.enters_of Tryz.func158 (by kernel_rfl) rfl) ?_).mono ?_
  · intro W p hW
    have := hN1.below hW (by omega)
    exact without1_any W p n _ this.lt (this.at 0 rfl)
  rintro e w2 ⟨v2, rfl, hO2, hb2⟩
  have hR2 := hR1.below hb2 (by omega)
  have HB2 : Hid (Below w.heap.size w w2) := HB1.out.trans (hb2.mono (by omega))
  have z0 := hR2.at 0 rfl
  have f0 := hR2.frz
  have hO3 := hO2.mono (base' := w.heap.size + 1 + 1 + 1) (by omega)
  obtain ⟨a2, c2, rfl⟩ := hO3.val
  have HO : Hid (OwnS w2 (w.heap.size + 1 + 1 + 1) (.slice a2 (l.filter fun p => !(p.1 == n)).length c2) (outL l n)) := hO3
  clear hO1 hb1 hN1 hR1 hb2 hO2 HB1 hO3
  go_wp2
  have z1 : (w2.setCell ⟨w.heap.size + 1 + 1, 0, none⟩ (.slice a2 (l.filter fun p => !(p.1 == n)).length c2)).cell? ⟨w.heap.size + 1 + 1, 0, none⟩ = some (.slice a2 (l.filter fun p => !(p.1 == n)).length c2) := World.cell?_setCell_same _ _ _ z0
  refine bodyPost_ret (v := .agg #[.slice a2 (l.filter fun p => !(p.1 == n)).length c2]) (by simp [results, Tryz.results142, go_sem, z1]) rfl ⟨_, rfl, ?_, ?_⟩
  · exact (HO.out.other _ (by omega) _ _).mono (by omega)
  · exact HB2.out.setCell (by show _ ≤ w.heap.size + 1 + 1; omega) _

theorem with1_any (w : World) (p q : Pl) :
    Calls Tryz.prog 144 #[plV p, plV q] w fun e w' => e = .returned (.int .i64 (cmpI p.1 q.1)) ∧ ∃ n os, w' = Go.Sort.grow (w.drewN n) os := by
  obtain ⟨a0, a1, a2⟩ := p
  obtain ⟨b0, b1, b2⟩ := q
  go_enter Tryz.func144, Tryz.ntmps144
  go_wp2_with fail
  refine (compare_any _ a0 b0).mono ?_
  rintro e w1 ⟨rfl, rfl⟩
  go_wp2
  go_ret
  exact ⟨rfl, 0, _, by rw [Go.Sort.alloc_eq_grow, Go.Sort.alloc_eq_grow, Go.Sort.grow_grow]; rfl⟩
end Go.Proofs.YthlhnokgcnieeadGreatDoor

/- slices.SortFunc at places is the library's, by its own laws. -/
namespace Go.Proofs
open Go.Shelf
def Tryz.sortPl_ren : Go.Shelf.Ren := ⟨fun | 6 => 143 | 15 => 96 | 14 => 159 | 28 => 121 | 29 => 122 | 20 => 168 | 21 => 169 | 22 => 170 | 23 => 171 | 24 => 172 | 25 => 173 | 26 => 174 | 27 => 175 | 46 => 180 | 47 => 138 | 48 => 139 | 49 => 181 | 50 => 182 | 57 => 183 | n => n, fun | 22 => 24 | 24 => 93 | 25 => 209 | 3 => 3 | 39 => 166 | 0 => 0 | 53 => 190 | 55 => 171 | 4 => 4 | 46 => 183 | 45 => 182 | 50 => 187 | 5 => 5 | 9 => 9 | 66 => 201 | 70 => 205 | 76 => 220 | 77 => 221 | n => n, fun | n => n⟩
theorem Tryz.sortPl : Go.Proofs.SlLaysF0.n6 Tryz.prog Tryz.sortPl_ren := {
  mixed := by kernel_rfl
  f6 := ⟨Tryz.f143.name, by decide, Tryz.func143.trans (congrArg some (by kernel_rfl))⟩
  f14 := ⟨Tryz.f159.name, by decide, Tryz.func159.trans (congrArg some (by kernel_rfl))⟩
  f15 := Tryz.func96.trans (congrArg some (by kernel_rfl))
  f20 := ⟨Tryz.f168.name, by decide, Tryz.func168.trans (congrArg some (by kernel_rfl))⟩
  f21 := ⟨Tryz.f169.name, by decide, Tryz.func169.trans (congrArg some (by kernel_rfl))⟩
  f22 := ⟨Tryz.f170.name, by decide, Tryz.func170.trans (congrArg some (by kernel_rfl))⟩
  f23 := ⟨Tryz.f171.name, by decide, Tryz.func171.trans (congrArg some (by kernel_rfl))⟩
  f24 := ⟨Tryz.f172.name, by decide, Tryz.func172.trans (congrArg some (by kernel_rfl))⟩
  f25 := ⟨Tryz.f173.name, by decide, Tryz.func173.trans (congrArg some (by kernel_rfl))⟩
  f26 := ⟨Tryz.f174.name, by decide, Tryz.func174.trans (congrArg some (by kernel_rfl))⟩
  f27 := ⟨Tryz.f175.name, by decide, Tryz.func175.trans (congrArg some (by kernel_rfl))⟩
  f28 := Tryz.func121.trans (congrArg some (by kernel_rfl))
  f29 := Tryz.func122.trans (congrArg some (by kernel_rfl))
  f46 := ⟨Tryz.f180.name, by decide, Tryz.func180.trans (congrArg some (by kernel_rfl))⟩
  f47 := Tryz.func138.trans (congrArg some (by kernel_rfl))
  f48 := Tryz.func139.trans (congrArg some (by kernel_rfl))
  f49 := ⟨Tryz.f181.name, by decide, Tryz.func181.trans (congrArg some (by kernel_rfl))⟩
  f50 := ⟨Tryz.f182.name, by decide, Tryz.func182.trans (congrArg some (by kernel_rfl))⟩
  f57 := ⟨Tryz.f183.name, by decide, Tryz.func183.trans (congrArg some (by kernel_rfl))⟩
  t0 := Tryz.underlying0
  a0 := Tryz.isAgg0
  z0 := Tryz.sizeOf0
  v0 := Tryz.zeroValue0
  t3 := Tryz.underlying3
  a3 := Tryz.isAgg3
  z3 := Tryz.sizeOf3
  v3 := Tryz.zeroValue3
  t4 := Tryz.underlying4
  a4 := Tryz.isAgg4
  z4 := Tryz.sizeOf4
  v4 := Tryz.zeroValue4
  t5 := Tryz.underlying5
  a5 := Tryz.isAgg5
  z5 := Tryz.sizeOf5
  v5 := Tryz.zeroValue5
  t9 := Tryz.underlying9
  a9 := Tryz.isAgg9
  z9 := Tryz.sizeOf9
  v9 := Tryz.zeroValue9
  t22 := Tryz.underlying24
  a22 := Tryz.isAgg24
  z22 := Tryz.sizeOf24
  v22 := Tryz.zeroValue24
  t25 := Tryz.underlying209
  a25 := Tryz.isAgg209
  z25 := Tryz.sizeOf209
  v25 := Tryz.zeroValue209
  t39 := Tryz.underlying166
  a39 := Tryz.isAgg166
  z39 := Tryz.sizeOf166
  v39 := Tryz.zeroValue166
  t45 := Tryz.underlying182
  a45 := Tryz.isAgg182
  z45 := Tryz.sizeOf182
  v45 := Tryz.zeroValue182
  t46 := Tryz.underlying183
  a46 := Tryz.isAgg183
  z46 := Tryz.sizeOf183
  v46 := Tryz.zeroValue183
  t50 := Tryz.underlying187
  a50 := Tryz.isAgg187
  z50 := Tryz.sizeOf187
  v50 := Tryz.zeroValue187
  t53 := Tryz.underlying190
  a53 := Tryz.isAgg190
  z53 := Tryz.sizeOf190
  v53 := Tryz.zeroValue190
  t55 := Tryz.underlying171
  a55 := Tryz.isAgg171
  z55 := Tryz.sizeOf171
  v55 := Tryz.zeroValue171
  t66 := Tryz.underlying201
  a66 := Tryz.isAgg201
  z66 := Tryz.sizeOf201
  v66 := Tryz.zeroValue201
  t70 := Tryz.underlying205
  a70 := Tryz.isAgg205
  z70 := Tryz.sizeOf205
  v70 := Tryz.zeroValue205
  t76 := Tryz.underlying220
  a76 := Tryz.isAgg220
  z76 := Tryz.sizeOf220
  v76 := Tryz.zeroValue220
  t77 := Tryz.underlying221
  a77 := Tryz.isAgg221
  z77 := Tryz.sizeOf221
  v77 := Tryz.zeroValue221 }
end Go.Proofs

/- slices.SortFunc by tree.byName, on a slice of the call's own: a permutation, in order. -/
namespace Go.Proofs.YthlhnokgcnieeadGreatDoor
open Go.ChangeShapes Go.WideShapes Go.ChangeAt Go.RowKit
open Orangery (Pl byN leP ltP)

theorem swo_irrefl (x : Pl) : Go.Proofs.ltOf byN x x = false := by
  have : ¬ byN x x < 0 := by rw [Orangery.byN_lt]; unfold ltP; omega
  simpa [Go.Proofs.ltOf] using this
theorem swo_trans (x y z : Pl) (h1 : Go.Proofs.ltOf byN x y = true) (h2 : Go.Proofs.ltOf byN y z = true) : Go.Proofs.ltOf byN x z = true := by
  simp only [Go.Proofs.ltOf, decide_eq_true_eq, Orangery.byN_lt] at *
  unfold ltP at *
  omega
theorem swo_ntrans (x y z : Pl) (h1 : Go.Proofs.ltOf byN x y = false) (h2 : Go.Proofs.ltOf byN y z = false) : Go.Proofs.ltOf byN x z = false := by
  simp only [Go.Proofs.ltOf, decide_eq_false_iff_not, Orangery.byN_lt] at *
  unfold ltP at *
  omega
theorem swoByN : Go.Sort.SWO (Go.Proofs.ltOf byN) := ⟨swo_irrefl, swo_trans, swo_ntrans⟩

theorem holdsK_of {w : World} {g : Nat} {l : List Pl} (h : HoldsP w g l) : Go.Sort.HoldsK encPl 3 w g 0 l.toArray := by
  intro j hj
  rw [Go.Sort.size_flatK] at hj
  have hj' : j < l.length * 3 := by simpa using hj
  have hi : j / 3 < l.length := by omega
  rw [Go.Sort.get_flatK _ _ _ _ (by simpa using hj')]
  refine ⟨?_, by have := h.2 j hj'; simpa using this⟩
  have hc := h.1 (j / 3) hi
  have e : l.toArray[j / 3]! = l[j / 3] := by simp [hi]
  rw [e]
  have hm : j % 3 = 0 ∨ j % 3 = 1 ∨ j % 3 = 2 := by omega
  rcases hm with hm | hm | hm
  · rw [hm, show 0 + j = 0 + j / 3 * 3 by omega, hc.1]; rfl
  · rw [hm, show 0 + j = 0 + j / 3 * 3 + 1 by omega, hc.2.1]; rfl
  · rw [hm, show 0 + j = 0 + j / 3 * 3 + 2 by omega, hc.2.2]; rfl

theorem holdsP_of {w : World} {g : Nat} {d : Array Pl} (h : Go.Sort.HoldsK encPl 3 w g 0 d) : HoldsP w g d.toList := by
  refine ⟨fun i hi => ?_, fun i hi => ?_⟩
  · have hi' : i < d.size := by simpa using hi
    have h0 := (h.cell (i := i) (c := 0) hi' (by omega)).1
    have h1 := (h.cell (i := i) (c := 1) hi' (by omega)).1
    have h2 := (h.cell (i := i) (c := 2) hi' (by omega)).1
    have e : d[i]! = d.toList[i] := by simp [hi']
    rw [e] at h0 h1 h2
    exact ⟨h0, h1, h2⟩
  · have := (h i (by simpa using hi)).2
    simpa using this

theorem below_sortWorldK {B : Nat} {w : World} (g off n : Nat) (d : Array Pl) (os : Array Obj) (hB : B ≤ w.heap.size) (hg : B ≤ g) : Below B w (Go.Proofs.sortWorldK encPl 3 w g off n d os) := by
  refine ⟨rfl, rfl, rfl, ?_, fun k hk => ?_⟩
  · exact Go.Proofs.size_sortWorldK_c encPl 3 w g off n d os
  · show ((w.heap.modify g _) ++ os)[k]? = _
    rw [Array.getElem?_append_left (by simp; omega), Array.getElem?_modify]
    have : ¬ g = k := by omega
    simp [this]

theorem grown_sortWorldK {w : World} (g off n : Nat) (d : Array Pl) (os : Array Obj) : w.grownBy (Go.Proofs.sortWorldK encPl 3 w g off n d os) (some g) := by
  refine ⟨rfl, rfl, rfl, Go.Proofs.size_sortWorldK_c encPl 3 w g off n d os, fun k hk hne => ?_⟩
  show ((w.heap.modify g _) ++ os)[k]? = _
  rw [Array.getElem?_append_left (by simp; omega), Array.getElem?_modify]
  have : ¬ g = k := fun e => hne (by rw [e])
  simp [this]

theorem RowAt.sorted {w : World} {r cap : Nat} (h : RowAt w r cap) (g off n : Nat) (d : Array Pl) (os : Array Obj) : RowAt (Go.Proofs.sortWorldK encPl 3 w g off n d os) r cap := by
  obtain ⟨cur, h1, h2⟩ := h
  have hr : r < w.heap.size := blk_lt h1
  have e : (Go.Proofs.sortWorldK encPl 3 w g off n d os).heap[r]? = (Go.Sort.putRow id w g off (Go.Sort.flatK encPl 3 d)).heap[r]? := by
    show ((Go.Sort.putRow id w g off (Go.Sort.flatK encPl 3 d)).heap ++ os)[r]? = _
    rw [Array.getElem?_append_left]
    show r < (w.heap.modify g _).size
    simp
    exact hr
  have e2 : (Go.Sort.putRow id w g off (Go.Sort.flatK encPl 3 d)).heap[r]? = if g = r then some (.cells (Go.Sort.putCells id off (Go.Sort.flatK encPl 3 d) cur) 93 (0, 0)) else w.heap[r]? := by
    show (w.heap.modify g _)[r]? = _
    rw [Array.getElem?_modify, h1]
    by_cases hg : g = r
    · rw [if_pos hg, if_pos hg]; rfl
    · rw [if_neg hg, if_neg hg]
  rw [e2] at e
  by_cases hg : g = r
  · rw [if_pos hg] at e
    exact ⟨_, e, by simp [Go.Sort.putCells, h2]⟩
  · rw [if_neg hg] at e
    exact ⟨cur, e.trans h1, h2⟩

theorem perm_sorted {f : Pl → Pl → Int} {l : List Pl} {d' : Array Pl} (hp : Go.Sort.PermIn 0 l.toArray.size l.toArray d') (hs : Go.Sort.SortedIn (Go.Proofs.ltOf f) 0 l.toArray.size d') :
    d'.size = l.length ∧ d'.toList.Perm l ∧ d'.toList.Pairwise fun p q => ¬ f q p < 0 := by
  obtain ⟨h1, _, h3⟩ := hp
  have e1 : d'.extract 0 l.toArray.size = d' := by rw [← h1]; exact Array.extract_size
  rw [e1, Array.extract_size] at h3
  refine ⟨by simpa using h1, by simpa using h3, ?_⟩
  rw [List.pairwise_iff_getElem]
  intro i j hi hj hij
  have hi' : i < d'.size := by simpa using hi
  have hj' : j < d'.size := by simpa using hj
  have := hs i j (Nat.zero_le _) hij (by omega)
  rw [getElem!_pos d' j hj', getElem!_pos d' i hi'] at this
  simpa [Go.Proofs.ltOf] using this

set_option maxHeartbeats 1000000 in
/-- slices.SortFunc at places, by whatever order -/
theorem sort_gen (k : Nat) (f : Pl → Pl → Int) (hf : Go.Sort.SWO (Go.Proofs.ltOf f)) (eg : ∀ args w, (callFunc k args).run Tryz.prog w = .ok (.enter k args) w)
    (hk : ∀ w p q, Calls Tryz.prog k #[plV p, plV q] w fun e w' => e = .returned (.int .i64 (f p q)) ∧ ∃ n os, w' = Go.Sort.grow (w.drewN n) os)
    (w : World) (base : Nat) (sv : Value) (l : List Pl) (hl : l.length ≤ 1000) (hbase : base ≤ w.heap.size) (h : OwnS w base sv l) :
    Calls Tryz.prog 143 #[sv, .func (.func k) #[] #[]] w
      fun e w' => e = .returned (.tuple #[]) ∧ ∃ l', l'.Perm l ∧ (l'.Pairwise fun p q => ¬ f q p < 0) ∧ OwnS w' base sv l' ∧ Below base w w' ∧ w.grownBy w' sv.ownBlock := by
  rcases h with ⟨rfl, rfl⟩ | ⟨g, cap, rfl, hgb, hgl, hcap, hcm, hH, hrow⟩
  · have hn := Go.Proofs.AnyF.slices_SortFunc_none Tryz.sortPl none 0 (.func (.func k) #[] #[]) w
    change Calls Tryz.prog 143 _ _ _ at hn
    refine hn.mono ?_
    rintro e w' ⟨rfl, rfl⟩
    exact ⟨rfl, [], List.Perm.refl _, List.Pairwise.nil, Or.inl ⟨rfl, rfl⟩, Below.refl _ _, ⟨rfl, rfl, rfl, Nat.le_refl _, fun _ _ _ => rfl⟩⟩
  · have hK := holdsK_of hH
    have hn := Go.Proofs.AnyQ.slices_SortFunc Tryz.sortPl 3 Tryz.isAgg93 Tryz.sizeOf93 encPl (fun _ => rfl) (fun x v hv => by simp [encPl] at hv; rcases hv with rfl | rfl | rfl <;> rfl) f hf k #[] g 0 cap l.toArray w eg (fun _ _ _ _ x y => hk _ x y) hK hgl (by simp; omega)
    change Calls Tryz.prog 143 _ _ _ at hn
    have hsz : l.toArray.size = l.length := by simp
    rw [hsz] at hn
    refine hn.mono ?_
    rintro e w' ⟨rfl, d', n, os, hp, hs, rfl⟩
    rw [← hsz] at hp hs
    obtain ⟨e1, e2, e3⟩ := perm_sorted hp hs
    refine ⟨rfl, d'.toList, e2, e3, ?_, below_sortWorldK g 0 n d' os hbase hgb, grown_sortWorldK g 0 n d' os⟩
    refine Or.inr ⟨g, cap, by simp [e1], hgb, Nat.lt_of_lt_of_le hgl (Go.Proofs.size_sortWorldK_c encPl 3 w g 0 n d' os), by simp [e1]; exact hcap, hcm, ?_, hrow.sorted g 0 n d' os⟩
    exact holdsP_of (Go.Proofs.holdsK_sortWorldK_c encPl 3 w g 0 l.toArray d' n os hK hgl (by simp [e1]))

end Go.Proofs.YthlhnokgcnieeadGreatDoor

/- move.with: a place put in by its node. -/
namespace Go.Proofs.YthlhnokgcnieeadGreatDoor
open Go.ChangeShapes Go.WideShapes Go.ChangeAt Go.RowKit
open Orangery (Pl Mv Stp outL inL cmpI byNode)

def cmpN (p q : Pl) : Int := cmpI p.1 q.1
theorem cmpN_lt (p q : Pl) : cmpN p q < 0 ↔ p.1 < q.1 := by
  unfold cmpN cmpI
  by_cases h1 : p.1 < q.1
  · simp [h1]
  · by_cases h2 : q.1 < p.1 <;> simp [h1, h2]
theorem swoNode : Go.Sort.SWO (Go.Proofs.ltOf cmpN) := by
  refine ⟨fun x => ?_, fun x y z h1 h2 => ?_, fun x y z h1 h2 => ?_⟩
  · have : ¬ cmpN x x < 0 := by rw [cmpN_lt]; omega
    simpa [Go.Proofs.ltOf] using this
  · simp only [Go.Proofs.ltOf, decide_eq_true_eq, cmpN_lt] at *
    omega
  · simp only [Go.Proofs.ltOf, decide_eq_false_iff_not, cmpN_lt] at *
    omega

theorem sort_node (w : World) (base : Nat) (sv : Value) (l : List Pl) (hl : l.length ≤ 1000) (hbase : base ≤ w.heap.size) (h : OwnS w base sv l) :
    Calls Tryz.prog 143 #[sv, .func (.func 144) #[] #[]] w
      fun e w' => e = .returned (.tuple #[]) ∧ ∃ l', l'.Perm l ∧ (l'.Pairwise fun p q => p.1 ≤ q.1) ∧ OwnS w' base sv l' ∧ Below base w w' ∧ w.grownBy w' sv.ownBlock := by
  refine (sort_gen 144 cmpN swoNode (Go.Proofs.enters_of Tryz.func144 (by kernel_rfl) rfl) (fun w p q => with1_any w p q) w base sv l hl hbase h).mono ?_
  rintro e w' ⟨he, l', h1, h2, h3, h4, h5⟩
  exact ⟨he, l', h1, h2.imp (fun {p q} hh => by rw [cmpN_lt] at hh; omega), h3, h4, h5⟩

/-- an own slice, behind the writing of a block of another type -/
theorem OwnS.apart {w : World} {base : Nat} {v : Value} {l : List Pl} (h : OwnS w base v l) {b : Nat} {cs : Array Value} {t : TypeId} {fr : Nat × Nat} (hb : w.heap[b]? = some (.cells cs t fr)) (ht : t ≠ 93) :
    some b ≠ v.ownBlock ∧ ∀ j u, OwnS (w.setCell ⟨b, j, none⟩ u) base v l := by
  rcases h with ⟨rfl, rfl⟩ | ⟨g, cap, rfl, h1, hl, h2, h3, ⟨hp, hf⟩, hr⟩
  · exact ⟨by simp [Value.ownBlock], fun j u => Or.inl ⟨rfl, rfl⟩⟩
  · have hne : ¬ b = g := by
      rintro rfl
      obtain ⟨cur, hc, _⟩ := hr
      rw [hb] at hc
      simp at hc
      exact ht hc.2.1
    refine ⟨by simp [Value.ownBlock, hne], fun j u => ?_⟩
    refine Or.inr ⟨g, cap, rfl, h1, by simpa using hl, h2, h3, ⟨fun i hi => ?_, fun i hi => ?_⟩, hr.set _ _ _⟩
    · rw [World.cell?_setCell_other _ _ _ _ (by simp <;> omega), World.cell?_setCell_other _ _ _ _ (by simp <;> omega), World.cell?_setCell_other _ _ _ _ (by simp <;> omega)]
      exact hp i hi
    · simp only [World.frozen?_setCell]
      exact hf i hi

set_option maxHeartbeats 1000000 in
set_option maxRecDepth 100000 in
theorem with_any (w : World) (a : Option Addr) (c : Nat) (l : List Pl) (p : Pl) (hl : l.length ≤ 900) (h : SlP w a l) (hs : byNode l) :
    Calls Tryz.prog 124 #[.agg #[.slice a l.length c], plV p] w
      fun e w' => ∃ v, e = .returned (.agg #[v]) ∧ OwnS w' w.heap.size v (inL l p) ∧ Below w.heap.size w w' := by
  obtain ⟨p0, p1, p2⟩ := p
  obtain ⟨i0, hi, hz0, hz1, hz2⟩ := info_parts infoPlace
  go_enter Tryz.func124, Tryz.ntmps124
  go_wp2_with fail
  obtain ⟨W0, hW, _, hN, hR, hB, hS⟩ := laid3 w [Value.slice a l.length c] 26 [Value.int IntKind.i64 p0, Value.int IntKind.i64 p1, Value.int IntKind.i64 p2] 93 [Value.slice none 0 0] 26
  rw [hW]
  clear hW
  have hP := h.below hB
  clear h
  refine (without_any W0 a c l p0 (by omega) hP).mono ?_
  rintro e w1 ⟨v1, rfl, hO1, hb1⟩
  have hN1 := hN.keep hb1
  have hR1 := hR.keep hb1
  have HB1 : Hid (Below w.heap.size w w1) := hB.trans (hb1.mono hB.size)
  obtain ⟨a1, c1, rfl⟩ := hO1.val
  clear hN hR hB hP
  have x0 := hN1.at 0 rfl
  have x1 := hN1.at 1 rfl
  have x2 := hN1.at 2 rfl
  have n0 : ¬ w1.heap.size = w.heap.size + 1 := by have := hN1.lt; omega
  have n1 : w.heap.size + 1 < w1.heap.size := hN1.lt
  have hsz1 : w.heap.size + 3 ≤ w1.heap.size := by have := hb1.size; omega
  have hU := Blk.new w1 [Value.slice a1 (outL l p0).length c1] 26
  have hU2 := hU.alloc (Obj.cells #[Value.int IntKind.i64 p0, Value.int IntKind.i64 p1, Value.int IntKind.i64 p2] 93)
  have hR2 := (hR1.alloc (Obj.cells #[Value.slice a1 (outL l p0).length c1] 26)).alloc (Obj.cells #[Value.int IntKind.i64 p0, Value.int IntKind.i64 p1, Value.int IntKind.i64 p2] 93)
  have hown := (hO1.row.alloc (Obj.cells #[Value.slice a1 (outL l p0).length c1] 26)).alloc (Obj.cells #[Value.int IntKind.i64 p0, Value.int IntKind.i64 p1, Value.int IntKind.i64 p2] 93)
  have hB2 := ((Below.refl w1.heap.size w1).alloc (Nat.le_refl _) (Obj.cells #[Value.slice a1 (outL l p0).length c1] 26)).alloc (by simp) (Obj.cells #[Value.int IntKind.i64 p0, Value.int IntKind.i64 p1, Value.int IntKind.i64 p2] 93)
  have hlt1 := hO1.row.lt
  have hlen : (outL l p0).length ≤ 900 := Nat.le_trans (List.length_filter_le _ _) hl
  have HU2 : Hid (Blk ((w1.alloc (Obj.cells #[Value.slice a1 (outL l p0).length c1] 26)).alloc (Obj.cells #[Value.int IntKind.i64 p0, Value.int IntKind.i64 p1, Value.int IntKind.i64 p2] 93)) w1.heap.size [Value.slice a1 (outL l p0).length c1]) := hU2
  have HR2 : Hid (Blk ((w1.alloc (Obj.cells #[Value.slice a1 (outL l p0).length c1] 26)).alloc (Obj.cells #[Value.int IntKind.i64 p0, Value.int IntKind.i64 p1, Value.int IntKind.i64 p2] 93)) (w.heap.size + 1 + 1) [Value.slice none 0 0]) := hR2
  have HL : Hid (∀ k, (Value.slice a1 (outL l p0).length c1).ownBlock = some k → W0.heap.size ≤ k ∧ k < w1.heap.size) := hlt1
  clear hU hU2 hR2 hO1 hR1 hN1 hlt1
  go_wp2_with (at_builtin; refine wpList_append_own _ rfl _ _ 24 rfl W0.heap.size 93 i0 _ 3 24 Tryz.underlying24 hi hz0 hz1 hz2 rfl (by decide) _ _ _ rfl hown ⟨w1.heap.size + 1, 0, none⟩ 1 1 [.int .i64 p0, .int .i64 p1, .int .i64 p2] rfl rfl ?c1 ?c2 ?c3 ?c4 ?c5 ?_)
  case c1 =>
    intro t u ht
    match t, ht with
    | 0, ht => simp at ht; subst ht; simp [Addr.add]
    | 1, ht => simp at ht; subst ht; simp [Addr.add]
    | 2, ht => simp at ht; subst ht; simp [Addr.add]
    | t + 3, ht => simp at ht
  case c2 => intro u hu; simp at hu; rcases hu with rfl | rfl | rfl <;> rfl
  case c3 => unfold maxLen; omega
  case c4 => omega
  case c5 => simp; omega
  · intro v2 w2 hown' hgrow _
    have hO2 : OwnS w2 (w.heap.size + 3) v2 (outL l p0 ++ [(p0, p1, p2)]) := own_pls (by simpa [encPl] using hown')
    have hne : ∀ k, k = w1.heap.size ∨ k < W0.heap.size → some k ≠ (Value.slice a1 (outL l p0).length c1).ownBlock := by
      intro k hk e
      have := HL.out k e.symm
      omega
    have hU3 := HU2.out.grown hgrow (hne _ (Or.inl rfl))
    have hR3 := HR2.out.grown hgrow (hne _ (Or.inr (by omega)))
    have hblk : w2.heap[w1.heap.size]? = some (Obj.cells #[Value.slice a1 (outL l p0).length c1] 26) := by
      rw [hgrow.block w1.heap.size (by simp; omega) (hne _ (Or.inl rfl)), blk_old (by simp)]
      exact blk_new rfl
    have hb2 : Below W0.heap.size w1 w2 := (hB2.mono hb1.size).grown hgrow (by simp; have := hb1.size; omega) (fun k hk => (HL.out k hk).1)
    have hsz2 : w1.heap.size ≤ w2.heap.size := hb2.size
    have HB2 : Hid (Below w.heap.size w w2) := HB1.out.trans (hb2.mono (by omega))
    obtain ⟨hown3, happ⟩ := hO2.apart hblk (by decide)
    obtain ⟨a2, c2, rfl⟩ := hO2.val
    generalize hK : outL l p0 ++ [(p0, p1, p2)] = K at *
    have HIN : Hid (∀ l', l'.Perm K → (l'.Pairwise fun p q => p.1 ≤ q.1) → l' = inL l (p0, p1, p2)) := fun l' h1 h2 => Orangery.in_unique l l' (p0, p1, p2) hs (by rw [← hK] at h1; exact h1) h2
    have hKl : K.length ≤ 1000 := by rw [← hK]; simp; omega
    have u0 := hU3.at 0 rfl
    have uf := hU3.frz
    have hU4 := hU3.set 0 (by simp) (.slice a2 K.length c2)
    have hR4 := hR3.other (g := w1.heap.size) (by omega) 0 (.slice a2 K.length c2)
    have hO4 := happ 0 (.slice a2 K.length c2)
    have HB4 : Hid (Below w.heap.size w (w2.setCell ⟨w1.heap.size, 0, none⟩ (.slice a2 K.length c2))) := HB2.out.setCell (by show w.heap.size ≤ w1.heap.size; omega) _
    have HBK : Hid (Blk (w2.setCell ⟨w1.heap.size, 0, none⟩ (.slice a2 K.length c2)) w1.heap.size [.slice a2 K.length c2] ∧ Blk (w2.setCell ⟨w1.heap.size, 0, none⟩ (.slice a2 K.length c2)) (w.heap.size + 1 + 1) [Value.slice none 0 0] ∧ some w1.heap.size ≠ (Value.slice a2 K.length c2).ownBlock) := ⟨hU4, hR4, hown3⟩
    clear hgrow hown hown' hne hU3 hR3 HU2 HR2 hB2 x0 x1 x2 hO2 HB1 hK hblk happ hU4 hR4 hown3 HB2
    go_wp2_with fail
    refine (sort_node _ (w.heap.size + 3) _ K hKl (by simp; omega) hO4).mono ?_
    rintro e w3 ⟨rfl, l', hp', hs', hO5, hb5, hg5⟩
    have hl' := HIN.out l' hp' hs'
    subst hl'
    have hU5 := HBK.out.1.grown hg5 HBK.out.2.2
    have hR5 := HBK.out.2.1.below hb5 (by omega)
    have u5 := hU5.at 0 rfl
    have r5 := hR5.at 0 rfl
    have rf := hR5.frz
    have HO5 : Hid (OwnS w3 (w.heap.size + 3) (.slice a2 K.length c2) (inL l (p0, p1, p2))) := hO5
    have HB5 : Hid (Below w.heap.size w w3) := HB4.out.trans (hb5.mono (by omega))
    have hne : ¬ w1.heap.size = w.heap.size + 1 + 1 := by omega
    clear hO4 hO5 hb5 hg5 hU5 hR5 HBK HB4 u0 uf
    go_wp2
    have z1 : (w3.setCell ⟨w.heap.size + 1 + 1, 0, none⟩ (.slice a2 K.length c2)).cell? ⟨w.heap.size + 1 + 1, 0, none⟩ = some (.slice a2 K.length c2) := World.cell?_setCell_same _ _ _ r5
    refine bodyPost_ret (v := .agg #[.slice a2 K.length c2]) (by simp [results, Tryz.results124, go_sem, z1]) rfl ⟨_, rfl, ?_, ?_⟩
    · exact (HO5.out.other _ (by omega) _ _).mono (by omega)
    · exact HB5.out.setCell (by show _ ≤ w.heap.size + 1 + 1; omega) _
end Go.Proofs.YthlhnokgcnieeadGreatDoor

/- cmp.Or at error numbers. -/
namespace Go.Proofs.YthlhnokgcnieeadGreatDoor
open Go.ChangeShapes Go.WideShapes Go.ChangeAt Go.RowKit
open Orangery (orI)

set_option maxHeartbeats 400000 in
theorem orE_any (w : World) (b c : Nat) (x y : Int) (h0 : w.cell? ⟨b, 0, none⟩ = some (.int .i64 x)) (h1 : w.cell? ⟨b, 1, none⟩ = some (.int .i64 y)) :
    Calls Tryz.prog 20 #[.slice (some ⟨b, 0, none⟩) 2 c] w fun e w' => e = .returned (.int .i64 (orI x y)) ∧ w' = w := by
  go_enter Tryz.func20, Tryz.ntmps20
  go_wp2
  go_loop [8] (fun i => ∃ k : Nat, k ≤ 2 ∧ i = .int .i64 k ∧ (1 ≤ k → x = 0) ∧ (2 ≤ k → y = 0)) (fun i => 2 - (intOf i).toNat)
  case atStart => exact ⟨0, by omega, rfl, by omega, by omega⟩
  case round =>
    obtain ⟨k, hk, rfl, hx, hy⟩ := hrel
    have hc : k = 0 ∨ k = 1 ∨ k = 2 := by omega
    rcases hc with rfl | rfl | rfl
    · clear hx hy
      by_cases hx : x = 0
      · have hx' : (x != 0) = false := by simp [hx]
        have HX : Hid (x = 0) := hx
        clear hx
        go_wp2
        go_round
        case rel => exact ⟨1, by omega, by go_num, fun _ => HX.out, by omega⟩
        case measure => simp [intOf]
      · have hx' : (x != 0) = true := by simp [hx]
        have HX : Hid (x ≠ 0) := hx
        clear hx
        go_wp2
        go_ret
        exact ⟨ret_int (by rw [orI, if_pos HX.out]), rfl⟩
    · have HX : Hid (x = 0) := hx (by omega)
      clear hx hy
      by_cases hy : y = 0
      · have hy' : (y != 0) = false := by simp [hy]
        have HY : Hid (y = 0) := hy
        clear hy
        go_wp2
        go_round
        case rel => exact ⟨2, by omega, by go_num, fun _ => HX.out, fun _ => HY.out⟩
        case measure => simp [intOf]
      · have hy' : (y != 0) = true := by simp [hy]
        clear hy
        go_wp2
        go_ret
        exact ⟨ret_int (by rw [orI, if_neg (by simp [HX.out])]), rfl⟩
    · have HX : Hid (x = 0) := hx (by omega)
      have HY : Hid (y = 0) := hy (by omega)
      clear hx hy
      go_wp2
      go_ret
      exact ⟨ret_int (by rw [orI, if_neg (by simp [HX.out]), HY.out]), rfl⟩

end Go.Proofs.YthlhnokgcnieeadGreatDoor

