/- Blocks of the call's own, cell by cell: what they hold behind calls and stores. -/
import Derived.Test.YtphameoibnimmaaOwn
import Derived.Deep.MidRow
import Derived.Shelf.SlSortFuncK.RowK2
namespace Go.Proofs.Ytphameoibnimmaa
open Go.ChangeShapes Go.WideShapes Go.ChangeAt Go.RowKit

/-- a block holds these cells, and may be written -/
def Blk (w : World) (b : Nat) (vs : List Value) : Prop :=
  b < w.heap.size ∧ (∀ j, w.frozen? ⟨b, j, none⟩ = false) ∧ ∀ i v, vs[i]? = some v → w.cell? ⟨b, i, none⟩ = some v

theorem Blk.lt {w : World} {b : Nat} {vs : List Value} (h : Blk w b vs) : b < w.heap.size := h.1
theorem Blk.frz {w : World} {b : Nat} {vs : List Value} (h : Blk w b vs) (j : Nat) : w.frozen? ⟨b, j, none⟩ = false := h.2.1 j
theorem Blk.at {w : World} {b : Nat} {vs : List Value} (h : Blk w b vs) (i : Nat) {v : Value} (e : vs[i]? = some v) : w.cell? ⟨b, i, none⟩ = some v := h.2.2 i v e

theorem Blk.below {w w' : World} {b B : Nat} {vs : List Value} (h : Blk w b vs) (hb : Below B w w') (hB : b < B) : Blk w' b vs :=
  ⟨Nat.lt_of_lt_of_le h.1 hb.size, fun j => by rw [hb.frozen (by exact hB)]; exact h.2.1 j, fun i v e => by rw [hb.cell (by exact hB)]; exact h.2.2 i v e⟩

theorem Blk.keep {w w' : World} {b : Nat} {vs : List Value} (h : Blk w b vs) (hb : Below w.heap.size w w') : Blk w' b vs := h.below hb h.1

theorem Blk.new (w : World) (vs : List Value) (t : TypeId) : Blk (w.alloc (Obj.cells vs.toArray t)) w.heap.size vs := by
  refine ⟨by simp, fun j => by simp, fun i v e => ?_⟩
  have hh : (w.alloc (Obj.cells vs.toArray t)).heap[w.heap.size]? = some (Obj.cells vs.toArray t) := blk_new rfl
  rw [Go.Joins.cell_of_block hh]
  simpa using e

theorem Blk.alloc {w : World} {b : Nat} {vs : List Value} (h : Blk w b vs) (o : Obj) : Blk (w.alloc o) b vs := h.keep (Go.Joins.below_alloc1 w o)

theorem Blk.drew {w : World} {b : Nat} {vs : List Value} (h : Blk w b vs) : Blk w.drew b vs := h

theorem Blk.other {w : World} {b g : Nat} {vs : List Value} (h : Blk w b vs) (hne : b ≠ g) (j : Nat) (v : Value) : Blk (w.setCell ⟨g, j, none⟩ v) b vs :=
  ⟨by simpa using h.1, fun i => by simp only [World.frozen?_setCell]; exact h.2.1 i, fun i u e => by
    rw [World.cell?_setCell_other _ _ _ _ (by simp <;> omega)]; exact h.2.2 i u e⟩

theorem Blk.others {w : World} {b g : Nat} {vs : List Value} (h : Blk w b vs) (hne : b ≠ g) : ∀ (us : List Value) (o : Nat), Blk (w.setCells g o us) b vs := by
  intro us
  induction us generalizing w with
  | nil => intro o; exact h
  | cons u us ih => intro o; exact ih (h.other hne o u) (o + 1)

/-- one cell set -/
theorem Blk.set {w : World} {b : Nat} {vs : List Value} (h : Blk w b vs) (j : Nat) (hj : j < vs.length) (v : Value) : Blk (w.setCell ⟨b, j, none⟩ v) b (vs.set j v) := by
  refine ⟨by simpa using h.1, fun i => by simp only [World.frozen?_setCell]; exact h.2.1 i, fun i u e => ?_⟩
  by_cases hij : j = i
  · subst hij
    rw [List.getElem?_set_self hj] at e
    rw [World.cell?_setCell_same _ _ _ (h.at j (List.getElem?_eq_getElem hj))]
    exact e
  · rw [List.getElem?_set_ne hij] at e
    rw [World.cell?_setCell_other _ _ _ _ (by simp <;> omega)]
    exact h.2.2 i u e

/-- all cells set -/
theorem Blk.sets {w : World} {b : Nat} {vs : List Value} (h : Blk w b vs) (us : List Value) (hl : us.length = vs.length) : Blk (w.setCells b 0 us) b us := by
  have hth : w.there b 0 us.length := fun j hj => ⟨by rw [Nat.zero_add, h.at j (List.getElem?_eq_getElem (by omega))]; rfl, by rw [Nat.zero_add]; exact h.2.1 j⟩
  refine ⟨by simpa [Go.Sort.size_setCells] using h.1, fun i => by rw [World.frozen?_setCells]; exact h.2.1 i, fun i u e => ?_⟩
  have := World.rangeAt_setCells_same w b 0 us hth i u e
  rw [Nat.zero_add] at this
  exact this

theorem below_sets {B : Nat} {w W : World} (h : Below B w W) (g : Nat) (hg : B ≤ g) : ∀ (vs : List Value) (o : Nat), Below B w (W.setCells g o vs) := by
  intro vs
  induction vs generalizing W with
  | nil => intro o; exact h
  | cons v r ih => intro o; exact ih (h.setCell (by exact hg) v) (o + 1)

theorem SlP.other {w : World} {a : Option Addr} {l : List Orangery.Pl} (h : SlP w a l) (g : Nat) (hg : ∀ b off, a = some ⟨b, off, none⟩ → b ≠ g) (j : Nat) (v : Value) : SlP (w.setCell ⟨g, j, none⟩ v) a l := by
  rcases h with h | ⟨b, off, ha, hlt, hp⟩
  · exact Or.inl h
  · have hne := hg b off ha
    refine Or.inr ⟨b, off, ha, by simpa using hlt, fun i hi => ?_⟩
    rw [World.cell?_setCell_other _ _ _ _ (by simp <;> omega), World.cell?_setCell_other _ _ _ _ (by simp <;> omega), World.cell?_setCell_other _ _ _ _ (by simp <;> omega)]
    exact hp i hi

theorem Blk.grown {w w' : World} {b : Nat} {vs : List Value} {row : Option Nat} (h : Blk w b vs) (hg : w.grownBy w' row) (hne : some b ≠ row) : Blk w' b vs := by
  have hb := hg.block b h.1 hne
  refine ⟨Nat.lt_of_lt_of_le h.1 hg.size, fun j => ?_, fun i v e => ?_⟩
  · rw [World.frozen?_of_block (w := w) (w' := w') (a := ⟨b, j, none⟩) hb]; exact h.2.1 j
  · rw [World.cell?_of_block (w := w) (w' := w') (a := ⟨b, i, none⟩) hb]; exact h.2.2 i v e

theorem laid1 (w : World) (v0 : List Value) (t0 : TypeId) : ∃ W, (w.alloc (Obj.cells v0.toArray t0)) = W ∧ Blk W w.heap.size v0 ∧ Below w.heap.size w W ∧ W.heap.size = w.heap.size + 1 := by
  refine ⟨_, rfl, ?_, ?_, ?_⟩
  · have h := (Blk.new w v0 t0)
    exact h
  · exact (Go.Joins.below_alloc1 w (Obj.cells v0.toArray t0))
  · simp only [World.size_alloc]

theorem laid2 (w : World) (v0 : List Value) (t0 : TypeId) (v1 : List Value) (t1 : TypeId) : ∃ W, ((w.alloc (Obj.cells v0.toArray t0)).alloc (Obj.cells v1.toArray t1)) = W ∧ Blk W w.heap.size v0 ∧ Blk W (w.heap.size + 1) v1 ∧ Below w.heap.size w W ∧ W.heap.size = w.heap.size + 2 := by
  refine ⟨_, rfl, ?_, ?_, ?_, ?_⟩
  · have h := ((Blk.new w v0 t0).alloc (Obj.cells v1.toArray t1))
    exact h
  · have h := (Blk.new (w.alloc (Obj.cells v0.toArray t0)) v1 t1)
    simpa only [World.size_alloc] using h
  · exact (Below.alloc (Go.Joins.below_alloc1 w (Obj.cells v0.toArray t0)) (by simp only [World.size_alloc]; omega) (Obj.cells v1.toArray t1))
  · simp only [World.size_alloc]

theorem laid3 (w : World) (v0 : List Value) (t0 : TypeId) (v1 : List Value) (t1 : TypeId) (v2 : List Value) (t2 : TypeId) : ∃ W, (((w.alloc (Obj.cells v0.toArray t0)).alloc (Obj.cells v1.toArray t1)).alloc (Obj.cells v2.toArray t2)) = W ∧ Blk W w.heap.size v0 ∧ Blk W (w.heap.size + 1) v1 ∧ Blk W (w.heap.size + 1 + 1) v2 ∧ Below w.heap.size w W ∧ W.heap.size = w.heap.size + 3 := by
  refine ⟨_, rfl, ?_, ?_, ?_, ?_, ?_⟩
  · have h := (((Blk.new w v0 t0).alloc (Obj.cells v1.toArray t1)).alloc (Obj.cells v2.toArray t2))
    exact h
  · have h := ((Blk.new (w.alloc (Obj.cells v0.toArray t0)) v1 t1).alloc (Obj.cells v2.toArray t2))
    simpa only [World.size_alloc] using h
  · have h := (Blk.new ((w.alloc (Obj.cells v0.toArray t0)).alloc (Obj.cells v1.toArray t1)) v2 t2)
    simpa only [World.size_alloc] using h
  · exact (Below.alloc (Below.alloc (Go.Joins.below_alloc1 w (Obj.cells v0.toArray t0)) (by simp only [World.size_alloc]; omega) (Obj.cells v1.toArray t1)) (by simp only [World.size_alloc]; omega) (Obj.cells v2.toArray t2))
  · simp only [World.size_alloc]

theorem laid4 (w : World) (v0 : List Value) (t0 : TypeId) (v1 : List Value) (t1 : TypeId) (v2 : List Value) (t2 : TypeId) (v3 : List Value) (t3 : TypeId) : ∃ W, ((((w.alloc (Obj.cells v0.toArray t0)).alloc (Obj.cells v1.toArray t1)).alloc (Obj.cells v2.toArray t2)).alloc (Obj.cells v3.toArray t3)) = W ∧ Blk W w.heap.size v0 ∧ Blk W (w.heap.size + 1) v1 ∧ Blk W (w.heap.size + 1 + 1) v2 ∧ Blk W (w.heap.size + 1 + 1 + 1) v3 ∧ Below w.heap.size w W ∧ W.heap.size = w.heap.size + 4 := by
  refine ⟨_, rfl, ?_, ?_, ?_, ?_, ?_, ?_⟩
  · have h := ((((Blk.new w v0 t0).alloc (Obj.cells v1.toArray t1)).alloc (Obj.cells v2.toArray t2)).alloc (Obj.cells v3.toArray t3))
    exact h
  · have h := (((Blk.new (w.alloc (Obj.cells v0.toArray t0)) v1 t1).alloc (Obj.cells v2.toArray t2)).alloc (Obj.cells v3.toArray t3))
    simpa only [World.size_alloc] using h
  · have h := ((Blk.new ((w.alloc (Obj.cells v0.toArray t0)).alloc (Obj.cells v1.toArray t1)) v2 t2).alloc (Obj.cells v3.toArray t3))
    simpa only [World.size_alloc] using h
  · have h := (Blk.new (((w.alloc (Obj.cells v0.toArray t0)).alloc (Obj.cells v1.toArray t1)).alloc (Obj.cells v2.toArray t2)) v3 t3)
    simpa only [World.size_alloc] using h
  · exact (Below.alloc (Below.alloc (Below.alloc (Go.Joins.below_alloc1 w (Obj.cells v0.toArray t0)) (by simp only [World.size_alloc]; omega) (Obj.cells v1.toArray t1)) (by simp only [World.size_alloc]; omega) (Obj.cells v2.toArray t2)) (by simp only [World.size_alloc]; omega) (Obj.cells v3.toArray t3))
  · simp only [World.size_alloc]

theorem laid5 (w : World) (v0 : List Value) (t0 : TypeId) (v1 : List Value) (t1 : TypeId) (v2 : List Value) (t2 : TypeId) (v3 : List Value) (t3 : TypeId) (v4 : List Value) (t4 : TypeId) : ∃ W, (((((w.alloc (Obj.cells v0.toArray t0)).alloc (Obj.cells v1.toArray t1)).alloc (Obj.cells v2.toArray t2)).alloc (Obj.cells v3.toArray t3)).alloc (Obj.cells v4.toArray t4)) = W ∧ Blk W w.heap.size v0 ∧ Blk W (w.heap.size + 1) v1 ∧ Blk W (w.heap.size + 1 + 1) v2 ∧ Blk W (w.heap.size + 1 + 1 + 1) v3 ∧ Blk W (w.heap.size + 1 + 1 + 1 + 1) v4 ∧ Below w.heap.size w W ∧ W.heap.size = w.heap.size + 5 := by
  refine ⟨_, rfl, ?_, ?_, ?_, ?_, ?_, ?_, ?_⟩
  · have h := (((((Blk.new w v0 t0).alloc (Obj.cells v1.toArray t1)).alloc (Obj.cells v2.toArray t2)).alloc (Obj.cells v3.toArray t3)).alloc (Obj.cells v4.toArray t4))
    exact h
  · have h := ((((Blk.new (w.alloc (Obj.cells v0.toArray t0)) v1 t1).alloc (Obj.cells v2.toArray t2)).alloc (Obj.cells v3.toArray t3)).alloc (Obj.cells v4.toArray t4))
    simpa only [World.size_alloc] using h
  · have h := (((Blk.new ((w.alloc (Obj.cells v0.toArray t0)).alloc (Obj.cells v1.toArray t1)) v2 t2).alloc (Obj.cells v3.toArray t3)).alloc (Obj.cells v4.toArray t4))
    simpa only [World.size_alloc] using h
  · have h := ((Blk.new (((w.alloc (Obj.cells v0.toArray t0)).alloc (Obj.cells v1.toArray t1)).alloc (Obj.cells v2.toArray t2)) v3 t3).alloc (Obj.cells v4.toArray t4))
    simpa only [World.size_alloc] using h
  · have h := (Blk.new ((((w.alloc (Obj.cells v0.toArray t0)).alloc (Obj.cells v1.toArray t1)).alloc (Obj.cells v2.toArray t2)).alloc (Obj.cells v3.toArray t3)) v4 t4)
    simpa only [World.size_alloc] using h
  · exact (Below.alloc (Below.alloc (Below.alloc (Below.alloc (Go.Joins.below_alloc1 w (Obj.cells v0.toArray t0)) (by simp only [World.size_alloc]; omega) (Obj.cells v1.toArray t1)) (by simp only [World.size_alloc]; omega) (Obj.cells v2.toArray t2)) (by simp only [World.size_alloc]; omega) (Obj.cells v3.toArray t3)) (by simp only [World.size_alloc]; omega) (Obj.cells v4.toArray t4))
  · simp only [World.size_alloc]

theorem laid6 (w : World) (v0 : List Value) (t0 : TypeId) (v1 : List Value) (t1 : TypeId) (v2 : List Value) (t2 : TypeId) (v3 : List Value) (t3 : TypeId) (v4 : List Value) (t4 : TypeId) (v5 : List Value) (t5 : TypeId) : ∃ W, ((((((w.alloc (Obj.cells v0.toArray t0)).alloc (Obj.cells v1.toArray t1)).alloc (Obj.cells v2.toArray t2)).alloc (Obj.cells v3.toArray t3)).alloc (Obj.cells v4.toArray t4)).alloc (Obj.cells v5.toArray t5)) = W ∧ Blk W w.heap.size v0 ∧ Blk W (w.heap.size + 1) v1 ∧ Blk W (w.heap.size + 1 + 1) v2 ∧ Blk W (w.heap.size + 1 + 1 + 1) v3 ∧ Blk W (w.heap.size + 1 + 1 + 1 + 1) v4 ∧ Blk W (w.heap.size + 1 + 1 + 1 + 1 + 1) v5 ∧ Below w.heap.size w W ∧ W.heap.size = w.heap.size + 6 := by
  refine ⟨_, rfl, ?_, ?_, ?_, ?_, ?_, ?_, ?_, ?_⟩
  · have h := ((((((Blk.new w v0 t0).alloc (Obj.cells v1.toArray t1)).alloc (Obj.cells v2.toArray t2)).alloc (Obj.cells v3.toArray t3)).alloc (Obj.cells v4.toArray t4)).alloc (Obj.cells v5.toArray t5))
    exact h
  · have h := (((((Blk.new (w.alloc (Obj.cells v0.toArray t0)) v1 t1).alloc (Obj.cells v2.toArray t2)).alloc (Obj.cells v3.toArray t3)).alloc (Obj.cells v4.toArray t4)).alloc (Obj.cells v5.toArray t5))
    simpa only [World.size_alloc] using h
  · have h := ((((Blk.new ((w.alloc (Obj.cells v0.toArray t0)).alloc (Obj.cells v1.toArray t1)) v2 t2).alloc (Obj.cells v3.toArray t3)).alloc (Obj.cells v4.toArray t4)).alloc (Obj.cells v5.toArray t5))
    simpa only [World.size_alloc] using h
  · have h := (((Blk.new (((w.alloc (Obj.cells v0.toArray t0)).alloc (Obj.cells v1.toArray t1)).alloc (Obj.cells v2.toArray t2)) v3 t3).alloc (Obj.cells v4.toArray t4)).alloc (Obj.cells v5.toArray t5))
    simpa only [World.size_alloc] using h
  · have h := ((Blk.new ((((w.alloc (Obj.cells v0.toArray t0)).alloc (Obj.cells v1.toArray t1)).alloc (Obj.cells v2.toArray t2)).alloc (Obj.cells v3.toArray t3)) v4 t4).alloc (Obj.cells v5.toArray t5))
    simpa only [World.size_alloc] using h
  · have h := (Blk.new (((((w.alloc (Obj.cells v0.toArray t0)).alloc (Obj.cells v1.toArray t1)).alloc (Obj.cells v2.toArray t2)).alloc (Obj.cells v3.toArray t3)).alloc (Obj.cells v4.toArray t4)) v5 t5)
    simpa only [World.size_alloc] using h
  · exact (Below.alloc (Below.alloc (Below.alloc (Below.alloc (Below.alloc (Go.Joins.below_alloc1 w (Obj.cells v0.toArray t0)) (by simp only [World.size_alloc]; omega) (Obj.cells v1.toArray t1)) (by simp only [World.size_alloc]; omega) (Obj.cells v2.toArray t2)) (by simp only [World.size_alloc]; omega) (Obj.cells v3.toArray t3)) (by simp only [World.size_alloc]; omega) (Obj.cells v4.toArray t4)) (by simp only [World.size_alloc]; omega) (Obj.cells v5.toArray t5))
  · simp only [World.size_alloc]
end Go.Proofs.Ytphameoibnimmaa
