/- 6 texts of the proof: note.Same, orangeryref.SameRec. Regions that draw their order, walked step by step: an operation that is not wanted is taken too. An append in a region that draws its order. orangeryref.RecText's closure: texts of numbers behind a list of texts. orangeryref.RecText. Plain facts on texts: words cut off one by one. -/
import Derived.Deep.RegionHeld3
import Derived.Laws.AppendOwn
import Derived.Deep.DeepCutAuto
import Derived.Test.YtjonkadcijnneacDoorP05
import Derived.Test.YtjonkadcijnneacDoorP03
import Derived.Test.YtjonkadcijnneacDoorP04
import Derived.Test.YtjonkadcijnneacDoorP06
/- note.Same, orangeryref.SameRec. -/
namespace Go.Proofs.YtjonkadcijnneacDoor
open Go.ChangeShapes Go.WideShapes Go.ChangeAt Go.RowKit
open Orangery (Pl Mv Rc)

def sameR (r q : Rc) : Bool := decide (r.1 = q.1 ∧ r.2.1 = q.2.1 ∧ r.2.2.1 = q.2.2.1 ∧ r.2.2.2.1 = q.2.2.2.1 ∧ r.2.2.2.2 = q.2.2.2.2)
theorem sameR_iff (r q : Rc) : sameR r q = true ↔ r = q := by
  obtain ⟨k, u, f, R, o⟩ := r
  obtain ⟨k', u', f', R', p⟩ := q
  simp only [sameR, decide_eq_true_eq, Prod.mk.injEq]
theorem sameR_yes {r q : Rc} (h : r = q) : sameR r q = true := (sameR_iff r q).2 h
theorem sameR_no {r q : Rc} (h : r ≠ q) : sameR r q = false := by
  cases hq : sameR r q
  · rfl
  · exact absurd ((sameR_iff r q).1 hq) h
theorem eqIs_ne {l m : List Int} (h : eqIs l m = false) : l ≠ m := by simpa [eqIs] using h
theorem eqIs_eq {l m : List Int} (h : eqIs l m = true) : l = m := by simpa [eqIs] using h
theorem below_drewN' (B : Nat) (w : World) (n : Nat) : Below B w (w.drewN n) := ⟨rfl, rfl, rfl, Nat.le_refl _, fun _ _ => rfl⟩


set_option maxHeartbeats 2000000 in
theorem nsame_any (w : World) (k u f k' u' f' : Int) (a a' : Option Addr) (c c' : Nat) (R R' : List Int) (o p : Mv) (hl : R.length ≤ maxLen) (h : SlI w a R) (h' : SlI w a' R') :
    Calls Tryd.prog 10 #[rcV k u f (.slice a R.length c) o, rcV k' u' f' (.slice a' R'.length c') p] w fun e w' => e = .returned (.bool (sameR (k, u, f, R, o) (k', u', f', R', p))) ∧ Below w.heap.size w w' := by
  by_cases ek : k = k'
  case neg =>
    have HE : Hid (sameR (k, u, f, R, o) (k', u', f', R', p) = false) := sameR_no (by intro e; apply ek; simp at e; simp [e])
    have dk : (k == k') = false := by simpa using ek
    clear ek
    go_enter Tryd.func10, Tryd.ntmps10
    go_wp2
    go_ret
    exact ⟨ret_bool HE.out.symm, Go.Joins.below_alloc2 w _ _⟩
  subst ek
  by_cases eu : u = u'
  case neg =>
    have HE : Hid (sameR (k, u, f, R, o) (k, u', f', R', p) = false) := sameR_no (by intro e; apply eu; simp at e; simp [e])
    have du : (u == u') = false := by simpa using eu
    clear eu
    go_enter Tryd.func10, Tryd.ntmps10
    go_wp2
    go_ret
    exact ⟨ret_bool HE.out.symm, Go.Joins.below_alloc2 w _ _⟩
  subst eu
  by_cases ef : f = f'
  case neg =>
    have HE : Hid (sameR (k, u, f, R, o) (k, u, f', R', p) = false) := sameR_no (by intro e; apply ef; simp at e; simp [e])
    have df : (f == f') = false := by simpa using ef
    clear ef
    go_enter Tryd.func10, Tryd.ntmps10
    go_wp2
    go_ret
    exact ⟨ret_bool HE.out.symm, Go.Joins.below_alloc2 w _ _⟩
  subst ef
  have hq := run_eql_opg o p
  have hgd := guard_op
  go_enter Tryd.func10, Tryd.ntmps10
  go_wp2_with fail
  obtain ⟨W0, hW, hA, hC, hB, -⟩ := laid2 w [.int .i64 k, .int .i64 u, .int .i64 f, .slice a R.length c, .int .i64 o.1, .int .i64 o.2.1, .int .i64 o.2.2.1.1, .int .i64 o.2.2.1.2.1, .int .i64 o.2.2.1.2.2, .int .i64 o.2.2.2.1, .int .i64 o.2.2.2.2] 28 [.int .i64 k, .int .i64 u, .int .i64 f, .slice a' R'.length c', .int .i64 p.1, .int .i64 p.2.1, .int .i64 p.2.2.1.1, .int .i64 p.2.2.1.2.1, .int .i64 p.2.2.1.2.2, .int .i64 p.2.2.2.1, .int .i64 p.2.2.2.2] 28
  rw [hW]
  clear hW
  refine (equal_is W0 a a' c c' R R' hl (h.below hB) (h'.below hB)).mono ?_
  rintro e w1 ⟨rfl, n, rfl⟩
  have hb1 : Below W0.heap.size W0 (W0.drewN n) := below_drewN' _ _ _
  have hA1 := hA.keep hb1
  have hC1 := hC.keep hb1
  have HB1 : Hid (Below w.heap.size w (W0.drewN n)) := hB.trans (hb1.mono hB.size)
  clear hA hC hB hb1 h h'
  generalize W0.drewN n = W1 at *
  have x4 := hA1.at 4 rfl
  have y4 := hC1.at 4 rfl
  have x5 := hA1.at 5 rfl
  have y5 := hC1.at 5 rfl
  have x6 := hA1.at 6 rfl
  have y6 := hC1.at 6 rfl
  have x7 := hA1.at 7 rfl
  have y7 := hC1.at 7 rfl
  have x8 := hA1.at 8 rfl
  have y8 := hC1.at 8 rfl
  have x9 := hA1.at 9 rfl
  have y9 := hC1.at 9 rfl
  have x10 := hA1.at 10 rfl
  have y10 := hC1.at 10 rfl
  clear hA1 hC1
  cases he : eqIs R R'
  · have HE : Hid (sameR (k, u, f, R, o) (k, u, f, R', p) = false) := sameR_no (by intro e; simp at e; exact eqIs_ne he e.1)
    go_wp2
    go_ret
    exact ⟨ret_bool HE.out.symm, HB1.out⟩
  · have HE : Hid (sameR (k, u, f, R, o) (k, u, f, R', p) = decide (o = p)) := by
      have := eqIs_eq he
      subst this
      show sameR _ _ = _
      simp [sameR]
    clear he
    go_wp2
    go_ret
    exact ⟨ret_bool HE.out.symm, HB1.out⟩

set_option maxHeartbeats 2000000 in
theorem rsameRec_any (w : World) (k u f k' u' f' : Int) (a a' : Option Addr) (c c' : Nat) (R R' : List Int) (o p : Mv) (hl : R.length ≤ maxLen) (h : SlI w a R) (h' : SlI w a' R') :
    Calls Tryd.prog 11 #[rcV k u f (.slice a R.length c) o, rcV k' u' f' (.slice a' R'.length c') p] w fun e w' => e = .returned (.bool (sameR (k, u, f, R, o) (k', u', f', R', p))) ∧ Below w.heap.size w w' := by
  by_cases ek : k = k'
  case neg =>
    have HE : Hid (sameR (k, u, f, R, o) (k', u', f', R', p) = false) := sameR_no (by intro e; apply ek; simp at e; simp [e])
    have dk : (k == k') = false := by simpa using ek
    clear ek
    go_enter Tryd.func11, Tryd.ntmps11
    go_wp2
    go_ret
    exact ⟨ret_bool HE.out.symm, Go.Joins.below_alloc2 w _ _⟩
  subst ek
  by_cases eu : u = u'
  case neg =>
    have HE : Hid (sameR (k, u, f, R, o) (k, u', f', R', p) = false) := sameR_no (by intro e; apply eu; simp at e; simp [e])
    have du : (u == u') = false := by simpa using eu
    clear eu
    go_enter Tryd.func11, Tryd.ntmps11
    go_wp2
    go_ret
    exact ⟨ret_bool HE.out.symm, Go.Joins.below_alloc2 w _ _⟩
  subst eu
  by_cases ef : f = f'
  case neg =>
    have HE : Hid (sameR (k, u, f, R, o) (k, u, f', R', p) = false) := sameR_no (by intro e; apply ef; simp at e; simp [e])
    have df : (f == f') = false := by simpa using ef
    clear ef
    go_enter Tryd.func11, Tryd.ntmps11
    go_wp2
    go_ret
    exact ⟨ret_bool HE.out.symm, Go.Joins.below_alloc2 w _ _⟩
  subst ef
  have hq := run_eql_opg o p
  have hgd := guard_op
  go_enter Tryd.func11, Tryd.ntmps11
  go_wp2_with fail
  obtain ⟨W0, hW, hA, hC, hB, -⟩ := laid2 w [.int .i64 k, .int .i64 u, .int .i64 f, .slice a R.length c, .int .i64 o.1, .int .i64 o.2.1, .int .i64 o.2.2.1.1, .int .i64 o.2.2.1.2.1, .int .i64 o.2.2.1.2.2, .int .i64 o.2.2.2.1, .int .i64 o.2.2.2.2] 28 [.int .i64 k, .int .i64 u, .int .i64 f, .slice a' R'.length c', .int .i64 p.1, .int .i64 p.2.1, .int .i64 p.2.2.1.1, .int .i64 p.2.2.1.2.1, .int .i64 p.2.2.1.2.2, .int .i64 p.2.2.2.1, .int .i64 p.2.2.2.2] 28
  rw [hW]
  clear hW
  refine (equal_is W0 a a' c c' R R' hl (h.below hB) (h'.below hB)).mono ?_
  rintro e w1 ⟨rfl, n, rfl⟩
  have hb1 : Below W0.heap.size W0 (W0.drewN n) := below_drewN' _ _ _
  have hA1 := hA.keep hb1
  have hC1 := hC.keep hb1
  have HB1 : Hid (Below w.heap.size w (W0.drewN n)) := hB.trans (hb1.mono hB.size)
  clear hA hC hB hb1 h h'
  generalize W0.drewN n = W1 at *
  have x4 := hA1.at 4 rfl
  have y4 := hC1.at 4 rfl
  have x5 := hA1.at 5 rfl
  have y5 := hC1.at 5 rfl
  have x6 := hA1.at 6 rfl
  have y6 := hC1.at 6 rfl
  have x7 := hA1.at 7 rfl
  have y7 := hC1.at 7 rfl
  have x8 := hA1.at 8 rfl
  have y8 := hC1.at 8 rfl
  have x9 := hA1.at 9 rfl
  have y9 := hC1.at 9 rfl
  have x10 := hA1.at 10 rfl
  have y10 := hC1.at 10 rfl
  clear hA1 hC1
  cases he : eqIs R R'
  · have HE : Hid (sameR (k, u, f, R, o) (k, u, f, R', p) = false) := sameR_no (by intro e; simp at e; exact eqIs_ne he e.1)
    go_wp2
    go_ret
    exact ⟨ret_bool HE.out.symm, HB1.out⟩
  · have HE : Hid (sameR (k, u, f, R, o) (k, u, f, R', p) = decide (o = p)) := by
      have := eqIs_eq he
      subst this
      show sameR _ _ = _
      simp [sameR]
    clear he
    go_wp2
    go_ret
    exact ⟨ret_bool HE.out.symm, HB1.out⟩
end Go.Proofs.YtjonkadcijnneacDoor

/- Regions that draw their order, walked step by step: an operation that is not wanted is taken too. -/
namespace Go.Proofs.YtjonkadcijnneacDoor
open Go.ChangeShapes Go.WideShapes Go.ChangeAt Go.RowKit

/-- a wanted operation is taken first -/
theorem take_yes {P : Program} {md : Region.Mode} {ops : Array Oper} {Q : Exit → Act → World → Prop} {S : World → Prop} (i : Nat) (d : Nat) {oi : Oper} {v : Value} {fuel : Nat} {listed : Array Bool} {a : Act} {w : World} (hi : ops[i]? = some oi) (hd : oi.dst = some d)
    (hs : Region.noSelect ops = true) (hf : Region.free md ops listed i = true) (hr : (Region.ready md ops listed).contains i = true)
    (hQ : ∀ c a w, Q (.panic c) (a.put oi.dst v) w → Q (.panic c) a w) (hw : Region.wanted oi (yielded ops a.tmps) = true) (hy : ∀ w, S w → (execOp a.eval oi).run P w = .ok (.value v) w) (hS : S w)
    (h : wpAnyH P md ops Q S fuel (listed.setIfInBounds i true) (a.put (some d) v) w) : wpAnyH P md ops Q S (fuel + 1) listed a w :=
  wpAnyH_take hi hs hf hr hQ (Or.inl ⟨hw, hy⟩) hS (by rw [hd]; exact h)

/-- an operation that is not wanted is passed by -/
theorem take_no {P : Program} {md : Region.Mode} {ops : Array Oper} {Q : Exit → Act → World → Prop} {S : World → Prop} (i : Nat) (d : Nat) {oi : Oper} {fuel : Nat} {listed : Array Bool} {a : Act} {w : World} (hi : ops[i]? = some oi) (hd : oi.dst = some d)
    (hs : Region.noSelect ops = true) (hf : Region.free md ops listed i = true) (hr : (Region.ready md ops listed).contains i = true)
    (hQ : ∀ c a w, Q (.panic c) (a.put oi.dst undef) w → Q (.panic c) a w) (hw : Region.wanted oi (yielded ops a.tmps) = false) (hS : S w)
    (h : wpAnyH P md ops Q S fuel (listed.setIfInBounds i true) (a.put (some d) undef) w) : wpAnyH P md ops Q S (fuel + 1) listed a w :=
  wpAnyH_take hi hs hf hr hQ (Or.inr ⟨hw, rfl⟩) hS (by rw [hd]; exact h)
/-- a load of a whole row or struct is taken first -/
theorem take_load {P : Program} {md : Region.Mode} {ops : Array Oper} {Q : Exit → Act → World → Prop} {S : World → Prop} (i : Nat) (d : Nat) {oi : Oper} (ty : TypeId) {x : Operand} (b : Nat) (cs : List Value) {dd : TypeDesc} {fuel : Nat} {listed : Array Bool} {a : Act} {w : World} (hi : ops[i]? = some oi) (hd : oi.dst = some d)
    (hs : Region.noSelect ops = true) (hf : Region.free md ops listed i = true) (hr : (Region.ready md ops listed).contains i = true)
    (hQ : ∀ c a w, Q (.panic c) (a.put oi.dst (.agg cs.toArray)) w → Q (.panic c) a w) (hw : Region.wanted oi (yielded ops a.tmps) = true)
    (ho : oi.op = .load ty x) (hx : a.eval x = .pointer (some ⟨b, 0, none⟩)) (hc : ∀ w, S w → w.rangeAt b 0 cs)
    (hu : P.underlying ty = some dd) (hdd : dd.isRow = true) (hz : (P.info? ty).map (·.size) = some cs.length) (hS : S w)
    (h : wpAnyH P md ops Q S fuel (listed.setIfInBounds i true) (a.put (some d) (.agg cs.toArray)) w) : wpAnyH P md ops Q S (fuel + 1) listed a w :=
  wpAnyH_take hi hs hf hr hQ (yieldsIf_load_mid hw ty x ho b 0 hx cs dd hc hu hdd hz) hS (by rw [hd]; exact h)
/-- a store of a whole row or struct, the only one that may come up -/
theorem step_store {P : Program} {md : Region.Mode} {ops : Array Oper} {Q : Exit → Act → World → Prop} {S : World → Prop} (i : Nat) {oi : Oper} (ty : TypeId) {x y : Operand} (b : Nat) (cs : List Value) {fuel : Nat} {listed : Array Bool} {a : Act} {w : World} (hr : Region.ready md ops listed = [i]) (hi : ops[i]? = some oi) (hd : oi.dst = none)
    (hw : Region.wanted oi (yielded ops a.tmps) = true) (ho : oi.op = .store ty x y) (hx : a.eval x = .pointer (some ⟨b, 0, none⟩)) (hy : a.eval y = .agg cs.toArray)
    (ht : w.there b 0 cs.length) (hz : (P.info? ty).map (·.size) = some cs.length) (h1 : ∀ v ∈ cs, v.oneCell' = true) (hS : S (w.setCells b 0 cs))
    (h : wpAnyH P md ops Q S fuel (listed.setIfInBounds i true) a (w.setCells b 0 cs)) : wpAnyH P md ops Q S (fuel + 1) listed a w := by
  refine wpAnyH_ready hr (by simp) (AllReadyH.cons hi (fun K hK => ?_) AllReadyH.nil)
  rw [if_pos hw]
  refine wp_store_mid ty x y ho b 0 cs.toArray hx hy (by simpa using ht) (by simpa using hz) (all_oneCell_toArray h1) ?_
  rw [hd]
  have e : cs.toArray.toList = cs := rfl
  rw [e]
  exact hK.out _ _ hS (fun _ => h)
/-- a store of a whole struct anywhere in a block, the only operation that may come up -/
theorem step_store_at {P : Program} {md : Region.Mode} {ops : Array Oper} {Q : Exit → Act → World → Prop} {S : World → Prop} (i : Nat) {oi : Oper} (ty : TypeId) {x y : Operand} (b o : Nat) (cs : List Value) {fuel : Nat} {listed : Array Bool} {a : Act} {w : World} (hr : Region.ready md ops listed = [i]) (hi : ops[i]? = some oi) (hd : oi.dst = none)
    (hw : Region.wanted oi (yielded ops a.tmps) = true) (ho : oi.op = .store ty x y) (hx : a.eval x = .pointer (some ⟨b, o, none⟩)) (hy : a.eval y = .agg cs.toArray)
    (ht : w.there b o cs.length) (hz : (P.info? ty).map (·.size) = some cs.length) (h1 : ∀ v ∈ cs, v.oneCell' = true) (hS : S (w.setCells b o cs))
    (h : wpAnyH P md ops Q S fuel (listed.setIfInBounds i true) a (w.setCells b o cs)) : wpAnyH P md ops Q S (fuel + 1) listed a w := by
  refine wpAnyH_ready hr (by simp) (AllReadyH.cons hi (fun K hK => ?_) AllReadyH.nil)
  rw [if_pos hw]
  refine wp_store_mid ty x y ho b o cs.toArray hx hy (by simpa using ht) (by simpa using hz) (all_oneCell_toArray h1) ?_
  rw [hd]
  have e : cs.toArray.toList = cs := rfl
  rw [e]
  exact hK.out _ _ hS (fun _ => h)
end Go.Proofs.YtjonkadcijnneacDoor

/- An append in a region that draws its order. -/
namespace Go.Proofs.YtjonkadcijnneacDoor
open Go.ChangeShapes Go.WideShapes Go.ChangeAt Go.RowKit

/-- an append to a slice of the call's own, the only operation that may come up -/
theorem step_append {P : Program} {md : Region.Mode} {ops : Array Oper} {Q : Exit → Act → World → Prop} {S : World → Prop} (i d : Nat) {oi : Oper} {s x : Operand} (t : TypeId) {fuel : Nat} {listed : Array Bool} {a : Act} {w : World} (hr : Region.ready md ops listed = [i]) (hi : ops[i]? = some oi) (hd : oi.dst = some d)
    (hw : Region.wanted oi (yielded ops a.tmps) = true) (ho : oi.op = .call { callee := .builtin .append, args := #[s, x], argTypes := #[t, t] })
    (base : Nat) (e : TypeId) (inf : TypeInfo) (z : Value) (size bytes : Nat) (ht : P.underlying t = some (.slice e)) (hinf : P.info? e = some inf) (hz : inf.zero = some z)
    (hsize : inf.size = size) (hby : inf.bytes = bytes) (hzs : z.cells.size = size) (hsz : 0 < size)
    (v : Value) (n : Nat) (xs : List Value) (hs : a.eval s = v) (hown : w.ownsRow base e size v n xs)
    (ad : Addr) (m c : Nat) (news : List Value) (hx : a.eval x = .slice (some ad) m c) (hl : news.length = m * size) (hnews : ∀ j u, news[j]? = some u → w.cell? (ad.add j) = some u) (h1 : ∀ u ∈ news, u.oneCell' = true)
    (h63 : n + m ≤ maxLen) (hbytes : (n + m) * bytes ≤ 140737488355328) (hbase : base ≤ w.heap.size)
    (h : ∀ v' w', w'.ownsRow base e size v' (n + m) (xs ++ news) → w.grownBy w' v.ownBlock → S w' ∧ wpAnyH P md ops Q S fuel (listed.setIfInBounds i true) (a.put (some d) v') w') : wpAnyH P md ops Q S (fuel + 1) listed a w := by
  refine wpAnyH_ready hr (by simp) (AllReadyH.cons hi (fun K hK => ?_) AllReadyH.nil)
  rw [if_pos hw]
  refine wp_append_own w s x t ho base e inf z size bytes ht hinf hz hsize hby hzs hsz v n xs hs hown ad m c news hx hl hnews h1 h63 hbytes hbase (fun v' w' h2 h3 _ => ?_)
  rw [hd]
  exact hK.out _ _ (h v' w' h2 h3).1 (fun _ => (h v' w' h2 h3).2)
end Go.Proofs.YtjonkadcijnneacDoor

/- orangeryref.RecText's closure: texts of numbers behind a list of texts. -/
namespace Go.Proofs.YtjonkadcijnneacDoor
open Go.ChangeShapes Go.WideShapes Go.ChangeAt Go.RowKit

theorem infoString : (Tryd.prog.info? 9).map (fun i => (i.zero, i.size, i.bytes)) = some (some (.string ByteArray.empty), 1, 16) := by kernel_rfl

/-- a slice's memory is not that of a row of texts from block base on -/
def Apart (w : World) (base : Nat) (a : Option Addr) : Prop := ∀ b off, a = some ⟨b, off, none⟩ → b < w.heap.size ∧ (b < base ∨ ∃ cs e fr, w.heap[b]? = some (.cells cs e fr) ∧ e ≠ 9)
theorem Apart.keep {w w' : World} {base : Nat} {a : Option Addr} (h : Apart w base a) (hb : Below w.heap.size w w') : Apart w' base a := by
  intro b off e
  obtain ⟨h1, h2⟩ := h b off e
  refine ⟨Nat.lt_of_lt_of_le h1 hb.size, ?_⟩
  rcases h2 with h2 | ⟨cs, ty, fr, h3, h4⟩
  · exact Or.inl h2
  · exact Or.inr ⟨cs, ty, fr, by rw [hb.block b h1]; exact h3, h4⟩
theorem OwnE.block {α : Type} {enc : α → List Value} {k : Nat} {e : TypeId} {w : World} {base : Nat} {v : Value} {l : List α} (h : OwnE enc k e w base v l) (g : Nat) (hg : v.ownBlock = some g) : base ≤ g ∧ ∃ cur, w.heap[g]? = some (.cells cur e (0, 0)) := by
  rcases h.2 with ⟨e2, _⟩ | ⟨g', cap, cur, e2, hb, hh, _⟩
  · rw [e2] at hg; simp [Value.ownBlock] at hg
  · rw [e2] at hg
    simp [Value.ownBlock] at hg
    subst hg
    exact ⟨hb, cur, hh⟩
theorem Apart.ne {w : World} {base : Nat} {a : Option Addr} {v : Value} {l : List (List UInt8)} (h : Apart w base a) (ho : OwnE txC 1 9 w base v l) (b off : Nat) (e : a = some ⟨b, off, none⟩) : some b ≠ v.ownBlock := by
  intro hg
  obtain ⟨h1, cur, h2⟩ := ho.block b hg.symm
  rcases (h b off e).2 with h3 | ⟨cs, ty, fr, h3, h4⟩
  · omega
  · rw [h2] at h3
    simp at h3
    exact h4 h3.2.1.symm
theorem Apart.grown {w w' : World} {base : Nat} {a : Option Addr} {v : Value} {l : List (List UInt8)} (h : Apart w base a) (ho : OwnE txC 1 9 w base v l) (hg : w.grownBy w' v.ownBlock) : Apart w' base a := by
  intro b off e
  have hne := h.ne ho b off e
  obtain ⟨h1, h2⟩ := h b off e
  refine ⟨Nat.lt_of_lt_of_le h1 hg.size, ?_⟩
  rcases h2 with h2 | ⟨cs, ty, fr, h3, h4⟩
  · exact Or.inl h2
  · exact Or.inr ⟨cs, ty, fr, by rw [hg.block b h1 hne]; exact h3, h4⟩
theorem Apart.reads {w w' : World} {base : Nat} {a : Option Addr} {v : Value} {l : List (List UInt8)} {N : List Int} (h : Apart w base a) (ho : OwnE txC 1 9 w base v l) (hg : w.grownBy w' v.ownBlock) (hs : SlI w a N) : SlI w' a N := by
  rcases hs with hs | ⟨b, off, e, hlt, hp⟩
  · exact Or.inl hs
  · refine Or.inr ⟨b, off, e, Nat.lt_of_lt_of_le hlt hg.size, fun i hi => ?_⟩
    have := hg.block b hlt (h.ne ho b off e)
    have e2 : w'.cell? ⟨b, off + i, none⟩ = w.cell? ⟨b, off + i, none⟩ := by simp only [World.cell?, this]
    rw [e2]
    exact hp i hi
/-- the one cell of a variable is written: slices of ints elsewhere stay -/
theorem Apart.set {w : World} {base g : Nat} {a : Option Addr} (h : Apart w base a) (hne : ∀ b off, a = some ⟨b, off, none⟩ → b ≠ g) (u : Value) : Apart (w.setCell ⟨g, 0, none⟩ u) base a := by
  intro b off e
  obtain ⟨h1, h2⟩ := h b off e
  refine ⟨by simpa using h1, ?_⟩
  rcases h2 with h2 | ⟨cs, ty, fr, h3, h4⟩
  · exact Or.inl h2
  · refine Or.inr ⟨cs, ty, fr, ?_, h4⟩
    rw [heap_setCell_other w ⟨g, 0, none⟩ b u (hne b off e)]
    exact h3
theorem SlI.keep0 {w : World} {a : Option Addr} {l : List Int} (h : SlI w a l) (g : Nat) (hne : ∀ b off, a = some ⟨b, off, none⟩ → b ≠ g) (u : Value) : SlI (w.setCell ⟨g, 0, none⟩ u) a l := by
  rcases h with h | ⟨b, off, e, hlt, hp⟩
  · exact Or.inl h
  · refine Or.inr ⟨b, off, e, by simpa using hlt, fun i hi => ?_⟩
    have := hne b off e
    rw [World.cell?_setCell_other _ _ _ _ (by simp <;> omega)]
    exact hp i hi

set_option maxHeartbeats 2000000 in
set_option maxRecDepth 100000 in
theorem say_any (w : World) (bq : Nat) (v : Value) (ws : List (List UInt8)) (a : Option Addr) (c : Nat) (N : List Int) (hws : ws.length ≤ 100) (hl : N.length ≤ 100) (hr : ∀ n ∈ N, 0 ≤ n ∧ n ≤ 10000)
    (hbq : 8 ≤ bq) (hQ : Blk w bq [v]) (hO : OwnE txC 1 9 w (bq + 1) v ws) (hI : SlI w a N) (hA : Apart w (bq + 1) a) (hne : ∀ b off, a = some ⟨b, off, none⟩ → b ≠ bq) (hv : Vars w) :
    Calls Tryd.prog 21 #[.slice a N.length c, .pointer (some ⟨bq, 0, none⟩)] w
      fun e w' => e = .returned (.tuple #[]) ∧ (∃ v', Blk w' bq [v'] ∧ OwnE txC 1 9 w' (bq + 1) v' (ws ++ N.map Lib.itoa)) ∧ Below bq w w' := by
  obtain ⟨i0, hi, hz0, hz1, hz2⟩ := info_parts infoString
  have HV := Lib.hid hv
  have HR := Lib.hid hr
  have HNE := Lib.hid hne
  have hl' : N.length ≤ 9223372036854775807 := by omega
  clear hv hr hne
  have HQ := Lib.hid hQ
  have HO := Lib.hid hO
  have HI := Lib.hid hI
  have HA := Lib.hid hA
  clear hQ hO hI hA
  go_enter Tryd.func21, Tryd.ntmps21
  go_wp2
  go_loopw [7] (fun i W => ∃ (j : Nat) (v : Value), j ≤ N.length ∧ i = .int .i64 j ∧ Blk W bq [v] ∧ OwnE txC 1 9 W (bq + 1) v (ws ++ (N.take j).map Lib.itoa) ∧ SlI W a N ∧ Apart W (bq + 1) a ∧ Below bq w W) (fun i _ => N.length - (intOf i).toNat)
  case atStart => exact ⟨0, v, Nat.zero_le _, rfl, HQ.out, by simpa using HO.out, HI.out, HA.out, Below.refl _ _⟩
  case round =>
    clear HQ HO HI HA
    obtain ⟨j, v, hj, rfl, hQ, hO, hI, hA, hb⟩ := hrel
    by_cases hlt : j < N.length
    · obtain ⟨b, off, rfl, hbl, g0⟩ := hI.at j hlt
      have HX : Hid ((N.take (j + 1)).map Lib.itoa = (N.take j).map Lib.itoa ++ [Lib.itoa N[j]]) := by
        show _ = _
        rw [List.take_succ_eq_append_getElem hlt, List.map_append]
        rfl
      have hsm := HR.out _ (List.getElem_mem hlt)
      have hwl : (ws ++ (N.take j).map Lib.itoa).length ≤ 200 := by simp; omega
      have HVr := Lib.hid (HV.out.keep hb hbq)
      generalize N[j] = n at *
      obtain ⟨aS, cS, rfl, _, hcS⟩ := hO.val
      have hbs : bq < wr.heap.size := hQ.lt
      have HB := Lib.hid hb
      have HI := Lib.hid hI
      have HA := Lib.hid hA
      have HO := Lib.hid hO
      clear hb hI hA hO
      generalize hwk : ws ++ (N.take j).map Lib.itoa = wk at *
      have HWK := Lib.hid hwk
      clear hwk
      go_upto_region 3 with fail
      have q0 := hQ.at 0 rfl
      refine wp_region_held_drew (S := fun w' => True) (by kernel_rfl) trivial (fun hHeld => ?_)
      refine take_yes 1 12 (v := ?_) rfl rfl (by kernel_rfl) (by kernel_rfl) (by kernel_rfl) (fun _ _ _ h => h) (by rfl) ?_ hHeld ?_
      rotate_left 1
      · (intro w hSw; go_simp; try with_reducible rfl)
      simp only [Act.put, List.setIfInBounds_toArray, List.set_cons_succ, List.set_cons_zero]
      refine wpAnyH_ready (rs := [0, 2]) (by kernel_rfl) (by simp) ?_
      refine AllReadyH.cons rfl (fun KK hKK => ?_) (AllReadyH.cons rfl (fun KK hKK => ?_) AllReadyH.nil)
      · skip
        go_simp
        refine hKK.out _ _ (trivial) (fun hHeld => ?_)
        clear hKK KK
        refine wpAnyH_ready (rs := [2]) (by kernel_rfl) (by simp) ?_
        refine AllReadyH.cons rfl (fun KK hKK => ?_) AllReadyH.nil
        go_simp
        refine (itoa_any _ n (by omega) (by omega) (HVr.out.on ((Below.refl _ wr).drew))).mono ?_
        rintro e w1 ⟨rfl, hb1⟩
        have hb1' : Below wr.heap.size wr w1 := ((Below.refl _ wr).drew).trans hb1
        have hQ1 := hQ.keep hb1'
        have q1 := hQ1.at 0 rfl
        go_wp2_with fail
        refine hKK.out _ _ (trivial) (fun hHeld => ?_)
        clear hKK KK
        refine wpAnyH_ready (rs := [3]) (by kernel_rfl) (by simp) ?_
        refine AllReadyH.cons rfl (fun KK hKK => ?_) AllReadyH.nil
        go_simp
        refine hKK.out _ _ (trivial) (fun hHeld => ?_)
        clear hKK KK
        have hN2 := Blk.new w1 [txV (Lib.itoa n)] 9
        have hbn := Go.Joins.below_alloc1 w1 (Obj.cells [txV (Lib.itoa n)].toArray 9)
        have hO2 := (HO.out.keep hb1').keep hbn
        have hA2 := (HA.out.keep hb1').keep hbn
        have hI2 := (HI.out.below hb1').below hbn
        have hQ2 := hQ1.keep hbn
        have hsz2 : bq + 1 ≤ (w1.alloc (Obj.cells [txV (Lib.itoa n)].toArray 9)).heap.size := by have := hQ2.lt; omega
        refine step_append (s := Operand.tmp 11) (x := Operand.tmp 14) 4 15 50 ?x0 rfl ?x2 ?x3 ?x4 (bq + 1) 9 i0 _ 1 16 Tryd.underlying50 hi hz0 hz1 hz2 ?x5 ?x6 (.slice aS wk.length cS) wk.length (wk.flatMap txC) ?x7 hO2.row ⟨w1.heap.size, 0, none⟩ 1 1 [txV (Lib.itoa n)] ?x8 ?x9 ?xa ?xb ?xc ?xd ?xe ?_
        case x0 => kernel_rfl
        case x2 => rfl
        case x3 => rfl
        case x4 => rfl
        case x5 => rfl
        case x6 => decide
        case x7 => rfl
        case x8 => rfl
        case x9 => rfl
        case xa => intro j u hj; rw [Addr.add_mid, Nat.zero_add]; exact hN2.at j hj
        case xb => intro u hu; simp at hu; subst hu; rfl
        case xc => unfold maxLen; omega
        case xd => omega
        case xe => exact hsz2
        intro v3 w3 hown' hgrow
        have hO3 : OwnE txC 1 9 w3 (bq + 1) v3 (wk ++ [Lib.itoa n]) := by
          show World.ownsRow _ _ _ _ _ _ _
          simpa [txC] using hown'
        obtain ⟨wn, hwn⟩ : ∃ wn, wn = wk ++ [Lib.itoa n] := ⟨_, rfl⟩
        rw [← hwn] at hO3
        have HWN := Lib.hid hwn
        clear hwn
        have hI3 := hA2.reads hO2 hgrow hI2
        have hA3 := hA2.grown hO2 hgrow
        have hQ3 := hQ2.grown hgrow (fun e => by have := (hO2.block bq e.symm).1; omega)
        have hB3 : Below bq w w3 := ((HB.out.trans (hb1'.mono (by omega))).trans (hbn.mono (by have := hb1'.size; omega))).grown hgrow (by omega) (fun g hg => by have := (hO2.block g hg).1; omega)
        obtain ⟨a3, c3, rfl, _, _⟩ := hO3.val
        have q3 := hQ3.at 0 rfl
        have qf := hQ3.frz 0
        refine ⟨trivial, ?_⟩
        simp only [Act.put, List.setIfInBounds_toArray, List.set_cons_succ, List.set_cons_zero]
        refine wpAnyH_ready (rs := [5]) (by kernel_rfl) (by simp) ?_
        refine AllReadyH.cons rfl (fun KK hKK => ?_) AllReadyH.nil
        go_simp
        refine hKK.out _ _ (trivial) (fun hHeld => ?_)
        clear hKK KK
        refine wpAnyH_done (by kernel_rfl) ?_ _
        have HQf := Lib.hid (hQ3.set 0 (by simp) (.slice a3 wn.length c3))
        have HOf := Lib.hid (hO3.other bq (by omega) 0 (.slice a3 wn.length c3))
        have HIf := Lib.hid (hI3.keep0 bq HNE.out (.slice a3 wn.length c3))
        have HAf := Lib.hid (hA3.set HNE.out (.slice a3 wn.length c3))
        have HBf := Lib.hid (hB3.setCell (p := ⟨bq, 0, none⟩) (Nat.le_refl _) (.slice a3 wn.length c3))
        clear hQ3 hO3 hI3 hA3 hB3 hown' hgrow hO2 hA2 hI2 hQ2 hQ1 hN2 hbn hb1 hb1' q1 q3 qf hsz2
        go_wp2
        go_roundw
        case rel =>
          refine ⟨j + 1, _, hlt, by go_num, HQf.out, ?_, HIf.out, HAf.out, HBf.out⟩
          rw [HX.out, ← List.append_assoc, HWK.out, ← HWN.out]
          exact HOf.out
        case measure => simp [intOf]; omega
      · skip
        go_simp
        refine (itoa_any _ n (by omega) (by omega) (HVr.out.on ((Below.refl _ wr).drew))).mono ?_
        rintro e w1 ⟨rfl, hb1⟩
        have hb1' : Below wr.heap.size wr w1 := ((Below.refl _ wr).drew).trans hb1
        have hQ1 := hQ.keep hb1'
        have q1 := hQ1.at 0 rfl
        go_wp2_with fail
        refine hKK.out _ _ (trivial) (fun hHeld => ?_)
        clear hKK KK
        refine wpAnyH_ready (rs := [0, 3]) (by kernel_rfl) (by simp) ?_
        refine AllReadyH.cons rfl (fun KK hKK => ?_) (AllReadyH.cons rfl (fun KK hKK => ?_) AllReadyH.nil)
        · skip
          go_simp
          refine hKK.out _ _ (trivial) (fun hHeld => ?_)
          clear hKK KK
          refine wpAnyH_ready (rs := [3]) (by kernel_rfl) (by simp) ?_
          refine AllReadyH.cons rfl (fun KK hKK => ?_) AllReadyH.nil
          go_simp
          refine hKK.out _ _ (trivial) (fun hHeld => ?_)
          clear hKK KK
          have hN2 := Blk.new w1 [txV (Lib.itoa n)] 9
          have hbn := Go.Joins.below_alloc1 w1 (Obj.cells [txV (Lib.itoa n)].toArray 9)
          have hO2 := (HO.out.keep hb1').keep hbn
          have hA2 := (HA.out.keep hb1').keep hbn
          have hI2 := (HI.out.below hb1').below hbn
          have hQ2 := hQ1.keep hbn
          have hsz2 : bq + 1 ≤ (w1.alloc (Obj.cells [txV (Lib.itoa n)].toArray 9)).heap.size := by have := hQ2.lt; omega
          refine step_append (s := Operand.tmp 11) (x := Operand.tmp 14) 4 15 50 ?y0 rfl ?y2 ?y3 ?y4 (bq + 1) 9 i0 _ 1 16 Tryd.underlying50 hi hz0 hz1 hz2 ?y5 ?y6 (.slice aS wk.length cS) wk.length (wk.flatMap txC) ?y7 hO2.row ⟨w1.heap.size, 0, none⟩ 1 1 [txV (Lib.itoa n)] ?y8 ?y9 ?ya ?yb ?yc ?yd ?ye ?_
          case y0 => kernel_rfl
          case y2 => rfl
          case y3 => rfl
          case y4 => rfl
          case y5 => rfl
          case y6 => decide
          case y7 => rfl
          case y8 => rfl
          case y9 => rfl
          case ya => intro j u hj; rw [Addr.add_mid, Nat.zero_add]; exact hN2.at j hj
          case yb => intro u hu; simp at hu; subst hu; rfl
          case yc => unfold maxLen; omega
          case yd => omega
          case ye => exact hsz2
          intro v3 w3 hown' hgrow
          have hO3 : OwnE txC 1 9 w3 (bq + 1) v3 (wk ++ [Lib.itoa n]) := by
            show World.ownsRow _ _ _ _ _ _ _
            simpa [txC] using hown'
          obtain ⟨wn, hwn⟩ : ∃ wn, wn = wk ++ [Lib.itoa n] := ⟨_, rfl⟩
          rw [← hwn] at hO3
          have HWN := Lib.hid hwn
          clear hwn
          have hI3 := hA2.reads hO2 hgrow hI2
          have hA3 := hA2.grown hO2 hgrow
          have hQ3 := hQ2.grown hgrow (fun e => by have := (hO2.block bq e.symm).1; omega)
          have hB3 : Below bq w w3 := ((HB.out.trans (hb1'.mono (by omega))).trans (hbn.mono (by have := hb1'.size; omega))).grown hgrow (by omega) (fun g hg => by have := (hO2.block g hg).1; omega)
          obtain ⟨a3, c3, rfl, _, _⟩ := hO3.val
          have q3 := hQ3.at 0 rfl
          have qf := hQ3.frz 0
          refine ⟨trivial, ?_⟩
          simp only [Act.put, List.setIfInBounds_toArray, List.set_cons_succ, List.set_cons_zero]
          refine wpAnyH_ready (rs := [5]) (by kernel_rfl) (by simp) ?_
          refine AllReadyH.cons rfl (fun KK hKK => ?_) AllReadyH.nil
          go_simp
          refine hKK.out _ _ (trivial) (fun hHeld => ?_)
          clear hKK KK
          refine wpAnyH_done (by kernel_rfl) ?_ _
          have HQf := Lib.hid (hQ3.set 0 (by simp) (.slice a3 wn.length c3))
          have HOf := Lib.hid (hO3.other bq (by omega) 0 (.slice a3 wn.length c3))
          have HIf := Lib.hid (hI3.keep0 bq HNE.out (.slice a3 wn.length c3))
          have HAf := Lib.hid (hA3.set HNE.out (.slice a3 wn.length c3))
          have HBf := Lib.hid (hB3.setCell (p := ⟨bq, 0, none⟩) (Nat.le_refl _) (.slice a3 wn.length c3))
          clear hQ3 hO3 hI3 hA3 hB3 hown' hgrow hO2 hA2 hI2 hQ2 hQ1 hN2 hbn hb1 hb1' q1 q3 qf hsz2
          go_wp2
          go_roundw
          case rel =>
            refine ⟨j + 1, _, hlt, by go_num, HQf.out, ?_, HIf.out, HAf.out, HBf.out⟩
            rw [HX.out, ← List.append_assoc, HWK.out, ← HWN.out]
            exact HOf.out
          case measure => simp [intOf]; omega
        · skip
          go_simp
          refine hKK.out _ _ (trivial) (fun hHeld => ?_)
          clear hKK KK
          have q1 := (hQ1.alloc (Obj.cells #[txV (Lib.itoa n)] 9)).at 0 rfl
          refine wpAnyH_ready (rs := [0]) (by kernel_rfl) (by simp) ?_
          refine AllReadyH.cons rfl (fun KK hKK => ?_) AllReadyH.nil
          go_simp
          refine hKK.out _ _ (trivial) (fun hHeld => ?_)
          clear hKK KK
          have hN2 := Blk.new w1 [txV (Lib.itoa n)] 9
          have hbn := Go.Joins.below_alloc1 w1 (Obj.cells [txV (Lib.itoa n)].toArray 9)
          have hO2 := (HO.out.keep hb1').keep hbn
          have hA2 := (HA.out.keep hb1').keep hbn
          have hI2 := (HI.out.below hb1').below hbn
          have hQ2 := hQ1.keep hbn
          have hsz2 : bq + 1 ≤ (w1.alloc (Obj.cells [txV (Lib.itoa n)].toArray 9)).heap.size := by have := hQ2.lt; omega
          refine step_append (s := Operand.tmp 11) (x := Operand.tmp 14) 4 15 50 ?z0 rfl ?z2 ?z3 ?z4 (bq + 1) 9 i0 _ 1 16 Tryd.underlying50 hi hz0 hz1 hz2 ?z5 ?z6 (.slice aS wk.length cS) wk.length (wk.flatMap txC) ?z7 hO2.row ⟨w1.heap.size, 0, none⟩ 1 1 [txV (Lib.itoa n)] ?z8 ?z9 ?za ?zb ?zc ?zd ?ze ?_
          case z0 => kernel_rfl
          case z2 => rfl
          case z3 => rfl
          case z4 => rfl
          case z5 => rfl
          case z6 => decide
          case z7 => rfl
          case z8 => rfl
          case z9 => rfl
          case za => intro j u hj; rw [Addr.add_mid, Nat.zero_add]; exact hN2.at j hj
          case zb => intro u hu; simp at hu; subst hu; rfl
          case zc => unfold maxLen; omega
          case zd => omega
          case ze => exact hsz2
          intro v3 w3 hown' hgrow
          have hO3 : OwnE txC 1 9 w3 (bq + 1) v3 (wk ++ [Lib.itoa n]) := by
            show World.ownsRow _ _ _ _ _ _ _
            simpa [txC] using hown'
          obtain ⟨wn, hwn⟩ : ∃ wn, wn = wk ++ [Lib.itoa n] := ⟨_, rfl⟩
          rw [← hwn] at hO3
          have HWN := Lib.hid hwn
          clear hwn
          have hI3 := hA2.reads hO2 hgrow hI2
          have hA3 := hA2.grown hO2 hgrow
          have hQ3 := hQ2.grown hgrow (fun e => by have := (hO2.block bq e.symm).1; omega)
          have hB3 : Below bq w w3 := ((HB.out.trans (hb1'.mono (by omega))).trans (hbn.mono (by have := hb1'.size; omega))).grown hgrow (by omega) (fun g hg => by have := (hO2.block g hg).1; omega)
          obtain ⟨a3, c3, rfl, _, _⟩ := hO3.val
          have q3 := hQ3.at 0 rfl
          have qf := hQ3.frz 0
          refine ⟨trivial, ?_⟩
          simp only [Act.put, List.setIfInBounds_toArray, List.set_cons_succ, List.set_cons_zero]
          refine wpAnyH_ready (rs := [5]) (by kernel_rfl) (by simp) ?_
          refine AllReadyH.cons rfl (fun KK hKK => ?_) AllReadyH.nil
          go_simp
          refine hKK.out _ _ (trivial) (fun hHeld => ?_)
          clear hKK KK
          refine wpAnyH_done (by kernel_rfl) ?_ _
          have HQf := Lib.hid (hQ3.set 0 (by simp) (.slice a3 wn.length c3))
          have HOf := Lib.hid (hO3.other bq (by omega) 0 (.slice a3 wn.length c3))
          have HIf := Lib.hid (hI3.keep0 bq HNE.out (.slice a3 wn.length c3))
          have HAf := Lib.hid (hA3.set HNE.out (.slice a3 wn.length c3))
          have HBf := Lib.hid (hB3.setCell (p := ⟨bq, 0, none⟩) (Nat.le_refl _) (.slice a3 wn.length c3))
          clear hQ3 hO3 hI3 hA3 hB3 hown' hgrow hO2 hA2 hI2 hQ2 hQ1 hN2 hbn hb1 hb1' q1 q3 qf hsz2
          go_wp2
          go_roundw
          case rel =>
            refine ⟨j + 1, _, hlt, by go_num, HQf.out, ?_, HIf.out, HAf.out, HBf.out⟩
            rw [HX.out, ← List.append_assoc, HWK.out, ← HWN.out]
            exact HOf.out
          case measure => simp [intOf]; omega
    · have hj' : j = N.length := by omega
      subst hj'
      rw [List.take_length] at hO
      have HR1 := Lib.hid hQ
      have HR2 := Lib.hid hO
      have HR3 := Lib.hid hb
      clear hQ hO hb hI hA
      go_wp2
      refine bodyPost_end (v := .tuple #[]) (by simp [results, Tryd.results21, go_sem]) rfl ?_
      exact ⟨rfl, ⟨v, HR1.out, HR2.out⟩, HR3.out⟩

/-- the same, of memory that matters only where there are numbers -/
theorem say_any0 (w : World) (bq : Nat) (v : Value) (ws : List (List UInt8)) (a : Option Addr) (c : Nat) (N : List Int) (hws : ws.length ≤ 100) (hl : N.length ≤ 100) (hr : ∀ n ∈ N, 0 ≤ n ∧ n ≤ 10000)
    (hbq : 8 ≤ bq) (hQ : Blk w bq [v]) (hO : OwnE txC 1 9 w (bq + 1) v ws) (hI : SlI w a N) (hA : N ≠ [] → Apart w (bq + 1) a) (hne : N ≠ [] → ∀ b off, a = some ⟨b, off, none⟩ → b ≠ bq) (hv : Vars w) :
    Calls Tryd.prog 21 #[.slice a N.length c, .pointer (some ⟨bq, 0, none⟩)] w
      fun e w' => e = .returned (.tuple #[]) ∧ (∃ v', Blk w' bq [v'] ∧ OwnE txC 1 9 w' (bq + 1) v' (ws ++ N.map Lib.itoa)) ∧ Below bq w w' := by
  by_cases hN : N = []
  · subst hN
    have HQ := Lib.hid hQ
    have HO := Lib.hid hO
    clear hQ hO hI hA hne hv hr
    go_enter Tryd.func21, Tryd.ntmps21
    go_wp2
    go_loopw [7] (fun i W => i = .int .i64 0 ∧ W = w) (fun _ _ => 0)
    case atStart => exact ⟨rfl, rfl⟩
    case round =>
      obtain ⟨rfl, rfl⟩ := hrel
      go_wp2
      refine bodyPost_end (v := .tuple #[]) (by simp [results, Tryd.results21, go_sem]) rfl ?_
      exact ⟨rfl, ⟨v, HQ.out, by simpa using HO.out⟩, Below.refl _ _⟩
  · exact say_any w bq v ws a c N hws hl hr hbq hQ hO hI (hA hN) (hne hN) hv
end Go.Proofs.YtjonkadcijnneacDoor

/- orangeryref.RecText. -/
namespace Go.Proofs.YtjonkadcijnneacDoor
open Go.ChangeShapes Go.WideShapes Go.ChangeAt Go.RowKit
open Orangery (Mv Rc recWord recNums recText recT checkRec wOp wLife wRoots opNums glue)

theorem int_ne_string : (3 : TypeId) ≠ 9 := by decide

theorem says (w : World) (word : List UInt8) (N : List Int) :
    ∃ W, ((w.alloc (Obj.cells [Value.slice (some ⟨w.heap.size + 1, 0, none⟩) 1 1].toArray 50)).alloc (Obj.cells [txV word].toArray 9)).alloc (Obj.cells (N.map (Value.int .i64)).toArray 3) = W ∧
      Blk W w.heap.size [.slice (some ⟨w.heap.size + 1, 0, none⟩) 1 1] ∧ OwnE txC 1 9 W (w.heap.size + 1) (.slice (some ⟨w.heap.size + 1, 0, none⟩) 1 1) [word] ∧
      SlI W (some ⟨w.heap.size + 1 + 1, 0, none⟩) N ∧ Apart W (w.heap.size + 1) (some ⟨w.heap.size + 1 + 1, 0, none⟩) ∧ Below w.heap.size w W ∧ W.heap.size = w.heap.size + 3 := by
  refine ⟨_, rfl, ?_, ?_, ?_, ?_, ?_, ?_⟩
  · exact ((Blk.new w _ _).alloc _).alloc _
  · have h1 : OwnE txC 1 9 ((w.alloc (Obj.cells [Value.slice (some ⟨w.heap.size + 1, 0, none⟩) 1 1].toArray 50)).alloc (Obj.cells [txV word].toArray 9)) (w.heap.size + 1) (.slice (some ⟨w.heap.size + 1, 0, none⟩) 1 1) [word] :=
      ⟨rfl, Or.inr ⟨w.heap.size + 1, 1, [txV word].toArray, rfl, Nat.le_refl _, blk_new (by simp), Nat.le_refl _, by unfold maxLen; omega, rfl, rfl⟩⟩
    exact h1.alloc _
  · cases N with
    | nil => exact Or.inl rfl
    | cons n N =>
      refine Or.inr ⟨_, 0, rfl, by simp, fun i hi => ?_⟩
      rw [Go.Joins.cell_of_block (blk_new (by simp)), Nat.zero_add, List.getElem?_toArray, List.getElem?_map, List.getElem?_eq_getElem hi]
      rfl
  · intro b off e
    simp at e
    obtain ⟨rfl, _⟩ := e
    exact ⟨by simp, Or.inr ⟨_, _, _, blk_new (by simp), int_ne_string⟩⟩
  · exact ((Below.refl _ w).alloc (Nat.le_refl _) _ |>.alloc (by simp) _).alloc (by simp; omega) _
  · simp

set_option maxHeartbeats 4000000 in
set_option maxRecDepth 100000 in
theorem rrecText_any (w : World) (k u f : Int) (a : Option Addr) (c : Nat) (R : List Int) (o : Mv) (hl : R.length ≤ maxLen) (h : SlI w a R) (hv : Vars w) :
    Calls Tryd.prog 7 #[rcV k u f (.slice a R.length c) o] w fun e w' => e = .returned (.tuple #[txV (recText (k, u, f, R, o)), .int .i64 (checkRec (k, u, f, R, o))]) ∧ Below w.heap.size w w' := by
  have HH := Lib.hid h
  go_enter Tryd.func7, Tryd.ntmps7
  go_wp2_with fail
  obtain ⟨W0, hW, hA, hB, -⟩ := laid1 w [Value.int IntKind.i64 k, .int .i64 u, .int .i64 f, .slice a R.length c, .int .i64 o.1, .int .i64 o.2.1, .int .i64 o.2.2.1.1, .int .i64 o.2.2.1.2.1, .int .i64 o.2.2.1.2.2, .int .i64 o.2.2.2.1, .int .i64 o.2.2.2.2] 28
  rw [hW]
  clear hW
  refine (rcheckRec_any W0 k u f a c R o hl (h.below hB)).mono ?_
  rintro e w1 ⟨rfl, hb1⟩
  have hA1 := hA.keep hb1
  have h1 := (h.below hB).below hb1
  have hB1 : Below w.heap.size w w1 := hB.trans (hb1.mono hB.size)
  have hv1 := hv.on hB1
  clear hA hB hb1 h hv
  by_cases hc : checkRec (k, u, f, R, o) = 0
  case neg =>
    have HT : Hid (recText (k, u, f, R, o) = []) := recText_bad hc
    have d1 : (checkRec (k, u, f, R, o) != 0) = true := by simpa using hc
    have HB := Lib.hid hB1
    clear hc hA1 h1 hv1 hB1
    go_wp2
    go_ret2
    rw [HT.out]
    exact ⟨rfl, HB.out⟩
  have HT : Hid (recText (k, u, f, R, o) = recT (k, u, f, R, o)) := recText_ok hc
  have HL : Hid ((recT (k, u, f, R, o)).length ≤ 176) := Orangery.recT_len hc
  have HS := Lib.hid (Orangery.recNums_small hc)
  have HC : Hid (checkRec (k, u, f, R, o) = 0) := hc
  have hr4 := roots_few hc
  have hk := Orangery.checkRec_kind hc
  have hlt : w.heap.size < w1.heap.size := hA1.lt
  have hlo := hv1.lo
  have HV1 := Lib.hid hv1
  have HB1 := Lib.hid hB1
  have HI1 := Lib.hid h1
  rw [hc]
  clear hc hv1 hB1 h1
  have x0 := hA1.at 0 rfl
  have x1 := hA1.at 1 rfl
  have x2 := hA1.at 2 rfl
  have x3 := hA1.at 3 rfl
  have x4 := hA1.at 4 rfl
  have x5 := hA1.at 5 rfl
  have x6 := hA1.at 6 rfl
  have x7 := hA1.at 7 rfl
  have x8 := hA1.at 8 rfl
  have x9 := hA1.at 9 rfl
  have x10 := hA1.at 10 rfl
  have hne : ¬ w1.heap.size = w.heap.size := by omega
  rcases hk with hk | hk | hk
  · subst hk
    have HSM : Hid (∀ n ∈ [o.1, o.2.1, o.2.2.1.1, o.2.2.1.2.1, o.2.2.1.2.2, o.2.2.2.1, o.2.2.2.2], 0 ≤ n ∧ n ≤ 10000) := HS.out.2
    have HW := Lib.hid (says w1 wOp [o.1, o.2.1, o.2.2.1.1, o.2.2.1.2.1, o.2.2.1.2.2, o.2.2.2.1, o.2.2.2.2])
    go_wp2_with fail
    obtain ⟨W, hW, hQ, hO, hI, hP, hb, -⟩ := HW.out
    simp only [List.map_cons, List.map_nil, wOp] at hW
    rw [hW]
    clear hW HW x0 x1 x2 x3 x4 x5 x6 x7 x8 x9 x10
    have hA2 := hA1.keep hb
    have HB2 : Hid (Below w.heap.size w W) := HB1.out.trans (hb.mono HB1.out.size)
    have hv2 := HV1.out.on hb
    refine (say_any W w1.heap.size _ [wOp] _ _ [o.1, o.2.1, o.2.2.1.1, o.2.2.1.2.1, o.2.2.1.2.2, o.2.2.2.1, o.2.2.2.2] (by simp) (by simp) HSM.out hlo hQ hO hI hP (fun b off e => by simp at e; omega) hv2).mono ?_
    rintro e w3 ⟨rfl, ⟨v3, hQ3, hO3⟩, hb3⟩
    have HB3 : Hid (Below w.heap.size w w3) := HB2.out.trans (hb3.mono (by omega))
    clear hA1 hA2 hb3 hv2 hQ hO hI hP HB2
    obtain ⟨wj, hwj⟩ : ∃ wj, wj = [wOp] ++ ([o.1, o.2.1, o.2.2.1.1, o.2.2.1.2.1, o.2.2.1.2.2, o.2.2.2.1, o.2.2.2.2]).map Lib.itoa := ⟨_, rfl⟩
    rw [← hwj] at hO3
    have HGL : Hid (recT (1, u, f, R, o) = glue wj) := by rw [hwj]; rfl
    have HNN : Hid (wj ≠ []) := by show _ ≠ _; rw [hwj]; simp
    have HLN : Hid (wj.length ≤ 1000) := by rw [hwj]; show _ ≤ _; simp
    clear hwj
    obtain ⟨aJ, cJ, rfl, hJ, hcJ⟩ := hO3.val
    have q3 := hQ3.at 0 rfl
    have HJ := Lib.hid hJ
    clear hJ hO3 hQ3
    have HG : Hid (recT (1, u, f, R, o) = glue wj) := HGL.out
    generalize hwl : wj.length = wl at *
    have HWL := Lib.hid hwl
    clear hwl
    go_wp2_with fail
    have hjoin := join_any w3 aJ cJ wj HNN.out (by rw [HWL.out]; exact hcJ) (by rw [HWL.out]; exact HLN.out) (by rw [← HG.out]; have := HL.out; omega) HJ.out
    rw [HWL.out] at hjoin
    refine hjoin.mono ?_
    rintro e w4 ⟨rfl, hb4⟩
    have HB4 : Hid (Below w.heap.size w w4) := HB3.out.trans (hb4.mono HB3.out.size)
    clear hb4 hjoin
    go_wp2
    go_ret2
    rw [HT.out, HC.out, HG.out]
    exact ⟨rfl, HB4.out⟩
  · subst hk
    have HSM : Hid (∀ n ∈ [u, f], 0 ≤ n ∧ n ≤ 10000) := HS.out.2
    have HW := Lib.hid (says w1 wLife [u, f])
    go_wp2_with fail
    obtain ⟨W, hW, hQ, hO, hI, hP, hb, -⟩ := HW.out
    simp only [List.map_cons, List.map_nil, wLife] at hW
    rw [hW]
    clear hW HW x0 x1 x2 x3 x4 x5 x6 x7 x8 x9 x10
    have hA2 := hA1.keep hb
    have HB2 : Hid (Below w.heap.size w W) := HB1.out.trans (hb.mono HB1.out.size)
    have hv2 := HV1.out.on hb
    refine (say_any W w1.heap.size _ [wLife] _ _ [u, f] (by simp) (by simp) HSM.out hlo hQ hO hI hP (fun b off e => by simp at e; omega) hv2).mono ?_
    rintro e w3 ⟨rfl, ⟨v3, hQ3, hO3⟩, hb3⟩
    have HB3 : Hid (Below w.heap.size w w3) := HB2.out.trans (hb3.mono (by omega))
    clear hA1 hA2 hb3 hv2 hQ hO hI hP HB2
    obtain ⟨wj, hwj⟩ : ∃ wj, wj = [wLife] ++ ([u, f]).map Lib.itoa := ⟨_, rfl⟩
    rw [← hwj] at hO3
    have HGL : Hid (recT (2, u, f, R, o) = glue wj) := by rw [hwj]; rfl
    have HNN : Hid (wj ≠ []) := by show _ ≠ _; rw [hwj]; simp
    have HLN : Hid (wj.length ≤ 1000) := by rw [hwj]; show _ ≤ _; simp
    clear hwj
    obtain ⟨aJ, cJ, rfl, hJ, hcJ⟩ := hO3.val
    have q3 := hQ3.at 0 rfl
    have HJ := Lib.hid hJ
    clear hJ hO3 hQ3
    have HG : Hid (recT (2, u, f, R, o) = glue wj) := HGL.out
    generalize hwl : wj.length = wl at *
    have HWL := Lib.hid hwl
    clear hwl
    go_wp2_with fail
    have hjoin := join_any w3 aJ cJ wj HNN.out (by rw [HWL.out]; exact hcJ) (by rw [HWL.out]; exact HLN.out) (by rw [← HG.out]; have := HL.out; omega) HJ.out
    rw [HWL.out] at hjoin
    refine hjoin.mono ?_
    rintro e w4 ⟨rfl, hb4⟩
    have HB4 : Hid (Below w.heap.size w w4) := HB3.out.trans (hb4.mono HB3.out.size)
    clear hb4 hjoin
    go_wp2
    go_ret2
    rw [HT.out, HC.out, HG.out]
    exact ⟨rfl, HB4.out⟩
  · subst hk
    have HSM : Hid (∀ n ∈ [u], 0 ≤ n ∧ n ≤ 10000) := fun n hn => HS.out.2 n (by simp at hn; subst hn; simp [recNums])
    have HSR : Hid (∀ n ∈ R, 0 ≤ n ∧ n ≤ 10000) := fun n hn => HS.out.2 n (by simp [recNums, hn])
    have HW := Lib.hid (says w1 wRoots [u])
    go_wp2_with fail
    obtain ⟨W, hW, hQ, hO, hI, hP, hb, -⟩ := HW.out
    simp only [List.map_cons, List.map_nil, wRoots] at hW
    rw [hW]
    clear hW HW x0 x1 x2 x3 x4 x5 x6 x7 x8 x9 x10
    have hA2 := hA1.keep hb
    have HB2 : Hid (Below w.heap.size w W) := HB1.out.trans (hb.mono HB1.out.size)
    have hv2 := HV1.out.on hb
    have hIR := HI1.out.below hb
    have hltW : w1.heap.size < W.heap.size := hQ.lt
    refine (say_any W w1.heap.size _ [wRoots] _ _ [u] (by simp) (by simp) HSM.out hlo hQ hO hI hP (fun b off e => by simp at e; omega) hv2).mono ?_
    rintro e w3 ⟨rfl, ⟨v3, hQ3, hO3⟩, hb3⟩
    have hA3 := hA2.below hb3 hlt
    have x3 := hA3.at 3 rfl
    have hv3 := hv2.keep hb3 hlo
    have hI3 : SlI w3 a R := by
      rcases HI1.out with hI | ⟨b, off, e, hbl, hp⟩
      · exact Or.inl hI
      · refine Or.inr ⟨b, off, e, by have := hb3.size; omega, fun i hi => ?_⟩
        rw [hb3.cell (p := ⟨b, off + i, none⟩) hbl, hb.cell (p := ⟨b, off + i, none⟩) hbl]
        exact hp i hi
    have hP3 : R ≠ [] → Apart w3 (w1.heap.size + 1) a := by
      intro hR b off e
      rcases HI1.out with hI | ⟨b', off', e', hbl, _⟩
      · exact absurd hI hR
      · rw [e] at e'
        simp at e'
        exact ⟨by have := hb3.size; omega, Or.inl (by omega)⟩
    have hN3 : R ≠ [] → ∀ b off, a = some ⟨b, off, none⟩ → b ≠ w1.heap.size := by
      intro hR b off e
      rcases HI1.out with hI | ⟨b', off', e', hbl, _⟩
      · exact absurd hI hR
      · rw [e] at e'
        simp at e'
        omega
    have HB3' : Hid (Below w.heap.size w w3) := HB2.out.trans (hb3.mono (by omega))
    clear hA1 hA2 hb3 hv2 hQ hO hI hP HB2 hIR
    obtain ⟨aQ, cQ, rfl, _, _⟩ := hO3.val
    have q3 := hQ3.at 0 rfl
    have HS3 := Lib.hid (say_any0 w3 w1.heap.size _ _ a c R (by simp) (by omega) HSR.out hlo hQ3 hO3 hI3 hP3 hN3 hv3)
    clear hQ3 hO3 hI3 hP3 hN3 hv3 hA3

    go_wp2_with fail
    refine HS3.out.mono ?_
    rintro e w5 ⟨rfl, ⟨v5, hQ5, hO5⟩, hb5⟩
    have HB5 : Hid (Below w.heap.size w w5) := HB3'.out.trans (hb5.mono (by omega))
    clear HS3 HB3' hb5 q3 x3
    obtain ⟨wj, hwj⟩ : ∃ wj, wj = ([wRoots] ++ [u].map Lib.itoa) ++ R.map Lib.itoa := ⟨_, rfl⟩
    rw [← hwj] at hO5
    have HGL : Hid (recT (3, u, f, R, o) = glue wj) := by rw [hwj]; rfl
    have HNN : Hid (wj ≠ []) := by show _ ≠ _; rw [hwj]; simp
    have HLN : Hid (wj.length ≤ 1000) := by rw [hwj]; show _ ≤ _; simp; omega
    clear hwj
    obtain ⟨aJ, cJ, rfl, hJ, hcJ⟩ := hO5.val
    have q3 := hQ5.at 0 rfl
    have HJ := Lib.hid hJ
    clear hJ hO5 hQ5
    have HG : Hid (recT (3, u, f, R, o) = glue wj) := HGL.out
    generalize hwl : wj.length = wl at *
    have HWL := Lib.hid hwl
    clear hwl
    go_wp2_with fail
    have hjoin := join_any w5 aJ cJ wj HNN.out (by rw [HWL.out]; exact hcJ) (by rw [HWL.out]; exact HLN.out) (by rw [← HG.out]; have := HL.out; omega) HJ.out
    rw [HWL.out] at hjoin
    refine hjoin.mono ?_
    rintro e w4 ⟨rfl, hb4⟩
    have HB4 : Hid (Below w.heap.size w w4) := HB5.out.trans (hb4.mono HB5.out.size)
    clear hb4 hjoin
    go_wp2
    go_ret2
    rw [HT.out, HC.out, HG.out]
    exact ⟨rfl, HB4.out⟩
end Go.Proofs.YtjonkadcijnneacDoor

/- Plain facts on texts: words cut off one by one. -/
namespace Orangery
open Go.Lib (itoa index cut)

/-- what is left of a text: its words, if there are more -/
def remW (r : List UInt8) (m : Bool) : List (List UInt8) := if m = true then wordsB r else []
theorem cut_words (s : List UInt8) : wordsB s = (cut s [32]).1 :: remW (cut s [32]).2.1 (cut s [32]).2.2 ∧ (cut s [32]).1.length ≤ s.length ∧ ((cut s [32]).2.2 = true → (cut s [32]).2.1.length < s.length) := by
  have h := cut_blank s
  have hge := Go.Lib.index_ge s [32]
  refine ⟨?_, ?_, ?_⟩
  · rw [wordsB_split s, ← h.1, h.2]
    rfl
  · unfold cut
    split
    · simp
      omega
    · simp
  · unfold cut
    split
    · rename_i h0
      intro _
      simp only [List.length_drop, List.length_cons, List.length_nil]
      have hlt : (index s [32]).toNat < s.length := by
        have hw := words_step s
        cases s with
        | nil => simp [index_blank_nil] at h0
        | cons c r =>
          have : ∀ l : List UInt8, index l [32] < l.length := by
            intro l
            induction l with
            | nil => simp [index_blank_nil]
            | cons d q ih =>
              rw [index_blank]
              simp only [List.length_cons]
              split
              · omega
              · split <;> omega
          have := this (c :: r)
          omega
      omega
    · simp

/-- the numbers so far, and those to come -/
def soFar (ws : List (List UInt8)) (L : List Int) (r : List UInt8) (m : Bool) : Prop := numsOf ws = (numsOf (remW r m)).map (L ++ ·)
theorem soFar_start (r : List UInt8) (m : Bool) : soFar (remW r m) [] r m := by
  unfold soFar
  cases numsOf (remW r m) <;> simp
theorem soFar_end {ws : List (List UInt8)} {L : List Int} {r : List UInt8} (h : soFar ws L r false) : numsOf ws = some L := by
  unfold soFar at h
  rw [h]
  simp [remW, numsOf]
theorem soFar_bad {ws : List (List UInt8)} {L : List Int} {r : List UInt8} (h : soFar ws L r true) (hn : numOf (cut r [32]).1 = none) : numsOf ws = none := by
  unfold soFar at h
  rw [h]
  have : remW r true = wordsB r := rfl
  rw [this, (cut_words r).1]
  unfold numsOf
  rw [hn]
  rfl
theorem soFar_next {ws : List (List UInt8)} {L : List Int} {r : List UInt8} {v : Int} (h : soFar ws L r true) (hn : numOf (cut r [32]).1 = some v) : soFar ws (L ++ [v]) (cut r [32]).2.1 (cut r [32]).2.2 := by
  unfold soFar at h ⊢
  rw [h]
  have : remW r true = wordsB r := rfl
  rw [this, (cut_words r).1]
  conv => lhs; unfold numsOf
  rw [hn]
  simp only
  cases numsOf (remW (cut r [32]).2.1 (cut r [32]).2.2) <;> simp
end Orangery

