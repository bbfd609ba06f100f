/- 12 texts of the proof: Blocks of the call's own, cell by cell: what they hold behind calls and stores. tree.Find: the first place of a node, or the zero place. tree's small functions: inRange, isNode, and the closures that Check and Under hand to meets. tree.meets: from one parent to the next one, until one is what is sought. tree.Check: the first thing that keeps places from being a tree. slices.IndexFunc at places; or -/
import Derived.Deep.MidRow
import Derived.Shelf.SlSortFuncK.RowK2
import Derived.Shelf.Strings.OnBuilder
import Derived.Shelf.Strings.Split
import Derived.Shelf.Strings.Cut
import Derived.Shelf.Strconv.Itoa4
import Derived.Shelf.Strconv.ErrVarAll
import Derived.Shelf.Strconv.ErrVarParseInt
import Derived.WalkSmall
import Derived.Test.YtmlodnamknielacDoorP03
import Derived.Test.YtmlodnamknielacDoorP02
import Derived.Test.YtmlodnamknielacDoorP01
/- Blocks of the call's own, cell by cell: what they hold behind calls and stores. -/
namespace Go.Proofs.YtmlodnamknielacDoor
open Go.ChangeShapes Go.WideShapes Go.ChangeAt Go.RowKit

/-- a block holds these cells, and may be written -/
def Blk (w : World) (b : Nat) (vs : List Value) : Prop :=
  b < w.heap.size ∧ (∀ j, w.frozen? ⟨b, j, none⟩ = false) ∧ ∀ i v, vs[i]? = some v → w.cell? ⟨b, i, none⟩ = some v

theorem Blk.lt {w : World} {b : Nat} {vs : List Value} (h : Blk w b vs) : b < w.heap.size := h.1
theorem Blk.frz {w : World} {b : Nat} {vs : List Value} (h : Blk w b vs) (j : Nat) : w.frozen? ⟨b, j, none⟩ = false := h.2.1 j
theorem Blk.at {w : World} {b : Nat} {vs : List Value} (h : Blk w b vs) (i : Nat) {v : Value} (e : vs[i]? = some v) : w.cell? ⟨b, i, none⟩ = some v := h.2.2 i v e

theorem Blk.below {w w' : World} {b B : Nat} {vs : List Value} (h : Blk w b vs) (hb : Below B w w') (hB : b < B) : Blk w' b vs :=
  ⟨Nat.lt_of_lt_of_le h.1 hb.size, fun j => by rw [hb.frozen (by exact hB)]; exact h.2.1 j, fun i v e => by rw [hb.cell (by exact hB)]; exact h.2.2 i v e⟩

theorem Blk.keep {w w' : World} {b : Nat} {vs : List Value} (h : Blk w b vs) (hb : Below w.heap.size w w') : Blk w' b vs := h.below hb h.1

theorem Blk.new (w : World) (vs : List Value) (t : TypeId) : Blk (w.alloc (Obj.cells vs.toArray t)) w.heap.size vs := by
  refine ⟨by simp, fun j => by simp, fun i v e => ?_⟩
  have hh : (w.alloc (Obj.cells vs.toArray t)).heap[w.heap.size]? = some (Obj.cells vs.toArray t) := blk_new rfl
  rw [Go.Joins.cell_of_block hh]
  simpa using e

theorem Blk.alloc {w : World} {b : Nat} {vs : List Value} (h : Blk w b vs) (o : Obj) : Blk (w.alloc o) b vs := h.keep (Go.Joins.below_alloc1 w o)

theorem Blk.drew {w : World} {b : Nat} {vs : List Value} (h : Blk w b vs) : Blk w.drew b vs := h

theorem Blk.other {w : World} {b g : Nat} {vs : List Value} (h : Blk w b vs) (hne : b ≠ g) (j : Nat) (v : Value) : Blk (w.setCell ⟨g, j, none⟩ v) b vs :=
  ⟨by simpa using h.1, fun i => by simp only [World.frozen?_setCell]; exact h.2.1 i, fun i u e => by
    rw [World.cell?_setCell_other _ _ _ _ (by simp <;> omega)]; exact h.2.2 i u e⟩

theorem Blk.others {w : World} {b g : Nat} {vs : List Value} (h : Blk w b vs) (hne : b ≠ g) : ∀ (us : List Value) (o : Nat), Blk (w.setCells g o us) b vs := by
  intro us
  induction us generalizing w with
  | nil => intro o; exact h
  | cons u us ih => intro o; exact ih (h.other hne o u) (o + 1)

/-- one cell set -/
theorem Blk.set {w : World} {b : Nat} {vs : List Value} (h : Blk w b vs) (j : Nat) (hj : j < vs.length) (v : Value) : Blk (w.setCell ⟨b, j, none⟩ v) b (vs.set j v) := by
  refine ⟨by simpa using h.1, fun i => by simp only [World.frozen?_setCell]; exact h.2.1 i, fun i u e => ?_⟩
  by_cases hij : j = i
  · subst hij
    rw [List.getElem?_set_self hj] at e
    rw [World.cell?_setCell_same _ _ _ (h.at j (List.getElem?_eq_getElem hj))]
    exact e
  · rw [List.getElem?_set_ne hij] at e
    rw [World.cell?_setCell_other _ _ _ _ (by simp <;> omega)]
    exact h.2.2 i u e

/-- all cells set -/
theorem Blk.sets {w : World} {b : Nat} {vs : List Value} (h : Blk w b vs) (us : List Value) (hl : us.length = vs.length) : Blk (w.setCells b 0 us) b us := by
  have hth : w.there b 0 us.length := fun j hj => ⟨by rw [Nat.zero_add, h.at j (List.getElem?_eq_getElem (by omega))]; rfl, by rw [Nat.zero_add]; exact h.2.1 j⟩
  refine ⟨by simpa [Go.Sort.size_setCells] using h.1, fun i => by rw [World.frozen?_setCells]; exact h.2.1 i, fun i u e => ?_⟩
  have := World.rangeAt_setCells_same w b 0 us hth i u e
  rw [Nat.zero_add] at this
  exact this

theorem below_sets {B : Nat} {w W : World} (h : Below B w W) (g : Nat) (hg : B ≤ g) : ∀ (vs : List Value) (o : Nat), Below B w (W.setCells g o vs) := by
  intro vs
  induction vs generalizing W with
  | nil => intro o; exact h
  | cons v r ih => intro o; exact ih (h.setCell (by exact hg) v) (o + 1)

theorem SlP.other {w : World} {a : Option Addr} {l : List Orangery.Pl} (h : SlP w a l) (g : Nat) (hg : ∀ b off, a = some ⟨b, off, none⟩ → b ≠ g) (j : Nat) (v : Value) : SlP (w.setCell ⟨g, j, none⟩ v) a l := by
  rcases h with h | ⟨b, off, ha, hlt, hp⟩
  · exact Or.inl h
  · have hne := hg b off ha
    refine Or.inr ⟨b, off, ha, by simpa using hlt, fun i hi => ?_⟩
    rw [World.cell?_setCell_other _ _ _ _ (by simp <;> omega), World.cell?_setCell_other _ _ _ _ (by simp <;> omega), World.cell?_setCell_other _ _ _ _ (by simp <;> omega)]
    exact hp i hi

theorem Blk.grown {w w' : World} {b : Nat} {vs : List Value} {row : Option Nat} (h : Blk w b vs) (hg : w.grownBy w' row) (hne : some b ≠ row) : Blk w' b vs := by
  have hb := hg.block b h.1 hne
  refine ⟨Nat.lt_of_lt_of_le h.1 hg.size, fun j => ?_, fun i v e => ?_⟩
  · rw [World.frozen?_of_block (w := w) (w' := w') (a := ⟨b, j, none⟩) hb]; exact h.2.1 j
  · rw [World.cell?_of_block (w := w) (w' := w') (a := ⟨b, i, none⟩) hb]; exact h.2.2 i v e

theorem laid1 (w : World) (v0 : List Value) (t0 : TypeId) : ∃ W, (w.alloc (Obj.cells v0.toArray t0)) = W ∧ Blk W w.heap.size v0 ∧ Below w.heap.size w W ∧ W.heap.size = w.heap.size + 1 := by
  refine ⟨_, rfl, ?_, ?_, ?_⟩
  · have h := (Blk.new w v0 t0)
    exact h
  · exact (Go.Joins.below_alloc1 w (Obj.cells v0.toArray t0))
  · simp only [World.size_alloc]

theorem laid2 (w : World) (v0 : List Value) (t0 : TypeId) (v1 : List Value) (t1 : TypeId) : ∃ W, ((w.alloc (Obj.cells v0.toArray t0)).alloc (Obj.cells v1.toArray t1)) = W ∧ Blk W w.heap.size v0 ∧ Blk W (w.heap.size + 1) v1 ∧ Below w.heap.size w W ∧ W.heap.size = w.heap.size + 2 := by
  refine ⟨_, rfl, ?_, ?_, ?_, ?_⟩
  · have h := ((Blk.new w v0 t0).alloc (Obj.cells v1.toArray t1))
    exact h
  · have h := (Blk.new (w.alloc (Obj.cells v0.toArray t0)) v1 t1)
    simpa only [World.size_alloc] using h
  · exact (Below.alloc (Go.Joins.below_alloc1 w (Obj.cells v0.toArray t0)) (by simp only [World.size_alloc]; omega) (Obj.cells v1.toArray t1))
  · simp only [World.size_alloc]

theorem laid3 (w : World) (v0 : List Value) (t0 : TypeId) (v1 : List Value) (t1 : TypeId) (v2 : List Value) (t2 : TypeId) : ∃ W, (((w.alloc (Obj.cells v0.toArray t0)).alloc (Obj.cells v1.toArray t1)).alloc (Obj.cells v2.toArray t2)) = W ∧ Blk W w.heap.size v0 ∧ Blk W (w.heap.size + 1) v1 ∧ Blk W (w.heap.size + 1 + 1) v2 ∧ Below w.heap.size w W ∧ W.heap.size = w.heap.size + 3 := by
  refine ⟨_, rfl, ?_, ?_, ?_, ?_, ?_⟩
  · have h := (((Blk.new w v0 t0).alloc (Obj.cells v1.toArray t1)).alloc (Obj.cells v2.toArray t2))
    exact h
  · have h := ((Blk.new (w.alloc (Obj.cells v0.toArray t0)) v1 t1).alloc (Obj.cells v2.toArray t2))
    simpa only [World.size_alloc] using h
  · have h := (Blk.new ((w.alloc (Obj.cells v0.toArray t0)).alloc (Obj.cells v1.toArray t1)) v2 t2)
    simpa only [World.size_alloc] using h
  · exact (Below.alloc (Below.alloc (Go.Joins.below_alloc1 w (Obj.cells v0.toArray t0)) (by simp only [World.size_alloc]; omega) (Obj.cells v1.toArray t1)) (by simp only [World.size_alloc]; omega) (Obj.cells v2.toArray t2))
  · simp only [World.size_alloc]

theorem laid4 (w : World) (v0 : List Value) (t0 : TypeId) (v1 : List Value) (t1 : TypeId) (v2 : List Value) (t2 : TypeId) (v3 : List Value) (t3 : TypeId) : ∃ W, ((((w.alloc (Obj.cells v0.toArray t0)).alloc (Obj.cells v1.toArray t1)).alloc (Obj.cells v2.toArray t2)).alloc (Obj.cells v3.toArray t3)) = W ∧ Blk W w.heap.size v0 ∧ Blk W (w.heap.size + 1) v1 ∧ Blk W (w.heap.size + 1 + 1) v2 ∧ Blk W (w.heap.size + 1 + 1 + 1) v3 ∧ Below w.heap.size w W ∧ W.heap.size = w.heap.size + 4 := by
  refine ⟨_, rfl, ?_, ?_, ?_, ?_, ?_, ?_⟩
  · have h := ((((Blk.new w v0 t0).alloc (Obj.cells v1.toArray t1)).alloc (Obj.cells v2.toArray t2)).alloc (Obj.cells v3.toArray t3))
    exact h
  · have h := (((Blk.new (w.alloc (Obj.cells v0.toArray t0)) v1 t1).alloc (Obj.cells v2.toArray t2)).alloc (Obj.cells v3.toArray t3))
    simpa only [World.size_alloc] using h
  · have h := ((Blk.new ((w.alloc (Obj.cells v0.toArray t0)).alloc (Obj.cells v1.toArray t1)) v2 t2).alloc (Obj.cells v3.toArray t3))
    simpa only [World.size_alloc] using h
  · have h := (Blk.new (((w.alloc (Obj.cells v0.toArray t0)).alloc (Obj.cells v1.toArray t1)).alloc (Obj.cells v2.toArray t2)) v3 t3)
    simpa only [World.size_alloc] using h
  · exact (Below.alloc (Below.alloc (Below.alloc (Go.Joins.below_alloc1 w (Obj.cells v0.toArray t0)) (by simp only [World.size_alloc]; omega) (Obj.cells v1.toArray t1)) (by simp only [World.size_alloc]; omega) (Obj.cells v2.toArray t2)) (by simp only [World.size_alloc]; omega) (Obj.cells v3.toArray t3))
  · simp only [World.size_alloc]

theorem laid5 (w : World) (v0 : List Value) (t0 : TypeId) (v1 : List Value) (t1 : TypeId) (v2 : List Value) (t2 : TypeId) (v3 : List Value) (t3 : TypeId) (v4 : List Value) (t4 : TypeId) : ∃ W, (((((w.alloc (Obj.cells v0.toArray t0)).alloc (Obj.cells v1.toArray t1)).alloc (Obj.cells v2.toArray t2)).alloc (Obj.cells v3.toArray t3)).alloc (Obj.cells v4.toArray t4)) = W ∧ Blk W w.heap.size v0 ∧ Blk W (w.heap.size + 1) v1 ∧ Blk W (w.heap.size + 1 + 1) v2 ∧ Blk W (w.heap.size + 1 + 1 + 1) v3 ∧ Blk W (w.heap.size + 1 + 1 + 1 + 1) v4 ∧ Below w.heap.size w W ∧ W.heap.size = w.heap.size + 5 := by
  refine ⟨_, rfl, ?_, ?_, ?_, ?_, ?_, ?_, ?_⟩
  · have h := (((((Blk.new w v0 t0).alloc (Obj.cells v1.toArray t1)).alloc (Obj.cells v2.toArray t2)).alloc (Obj.cells v3.toArray t3)).alloc (Obj.cells v4.toArray t4))
    exact h
  · have h := ((((Blk.new (w.alloc (Obj.cells v0.toArray t0)) v1 t1).alloc (Obj.cells v2.toArray t2)).alloc (Obj.cells v3.toArray t3)).alloc (Obj.cells v4.toArray t4))
    simpa only [World.size_alloc] using h
  · have h := (((Blk.new ((w.alloc (Obj.cells v0.toArray t0)).alloc (Obj.cells v1.toArray t1)) v2 t2).alloc (Obj.cells v3.toArray t3)).alloc (Obj.cells v4.toArray t4))
    simpa only [World.size_alloc] using h
  · have h := ((Blk.new (((w.alloc (Obj.cells v0.toArray t0)).alloc (Obj.cells v1.toArray t1)).alloc (Obj.cells v2.toArray t2)) v3 t3).alloc (Obj.cells v4.toArray t4))
    simpa only [World.size_alloc] using h
  · have h := (Blk.new ((((w.alloc (Obj.cells v0.toArray t0)).alloc (Obj.cells v1.toArray t1)).alloc (Obj.cells v2.toArray t2)).alloc (Obj.cells v3.toArray t3)) v4 t4)
    simpa only [World.size_alloc] using h
  · exact (Below.alloc (Below.alloc (Below.alloc (Below.alloc (Go.Joins.below_alloc1 w (Obj.cells v0.toArray t0)) (by simp only [World.size_alloc]; omega) (Obj.cells v1.toArray t1)) (by simp only [World.size_alloc]; omega) (Obj.cells v2.toArray t2)) (by simp only [World.size_alloc]; omega) (Obj.cells v3.toArray t3)) (by simp only [World.size_alloc]; omega) (Obj.cells v4.toArray t4))
  · simp only [World.size_alloc]

theorem laid6 (w : World) (v0 : List Value) (t0 : TypeId) (v1 : List Value) (t1 : TypeId) (v2 : List Value) (t2 : TypeId) (v3 : List Value) (t3 : TypeId) (v4 : List Value) (t4 : TypeId) (v5 : List Value) (t5 : TypeId) : ∃ W, ((((((w.alloc (Obj.cells v0.toArray t0)).alloc (Obj.cells v1.toArray t1)).alloc (Obj.cells v2.toArray t2)).alloc (Obj.cells v3.toArray t3)).alloc (Obj.cells v4.toArray t4)).alloc (Obj.cells v5.toArray t5)) = W ∧ Blk W w.heap.size v0 ∧ Blk W (w.heap.size + 1) v1 ∧ Blk W (w.heap.size + 1 + 1) v2 ∧ Blk W (w.heap.size + 1 + 1 + 1) v3 ∧ Blk W (w.heap.size + 1 + 1 + 1 + 1) v4 ∧ Blk W (w.heap.size + 1 + 1 + 1 + 1 + 1) v5 ∧ Below w.heap.size w W ∧ W.heap.size = w.heap.size + 6 := by
  refine ⟨_, rfl, ?_, ?_, ?_, ?_, ?_, ?_, ?_, ?_⟩
  · have h := ((((((Blk.new w v0 t0).alloc (Obj.cells v1.toArray t1)).alloc (Obj.cells v2.toArray t2)).alloc (Obj.cells v3.toArray t3)).alloc (Obj.cells v4.toArray t4)).alloc (Obj.cells v5.toArray t5))
    exact h
  · have h := (((((Blk.new (w.alloc (Obj.cells v0.toArray t0)) v1 t1).alloc (Obj.cells v2.toArray t2)).alloc (Obj.cells v3.toArray t3)).alloc (Obj.cells v4.toArray t4)).alloc (Obj.cells v5.toArray t5))
    simpa only [World.size_alloc] using h
  · have h := ((((Blk.new ((w.alloc (Obj.cells v0.toArray t0)).alloc (Obj.cells v1.toArray t1)) v2 t2).alloc (Obj.cells v3.toArray t3)).alloc (Obj.cells v4.toArray t4)).alloc (Obj.cells v5.toArray t5))
    simpa only [World.size_alloc] using h
  · have h := (((Blk.new (((w.alloc (Obj.cells v0.toArray t0)).alloc (Obj.cells v1.toArray t1)).alloc (Obj.cells v2.toArray t2)) v3 t3).alloc (Obj.cells v4.toArray t4)).alloc (Obj.cells v5.toArray t5))
    simpa only [World.size_alloc] using h
  · have h := ((Blk.new ((((w.alloc (Obj.cells v0.toArray t0)).alloc (Obj.cells v1.toArray t1)).alloc (Obj.cells v2.toArray t2)).alloc (Obj.cells v3.toArray t3)) v4 t4).alloc (Obj.cells v5.toArray t5))
    simpa only [World.size_alloc] using h
  · have h := (Blk.new (((((w.alloc (Obj.cells v0.toArray t0)).alloc (Obj.cells v1.toArray t1)).alloc (Obj.cells v2.toArray t2)).alloc (Obj.cells v3.toArray t3)).alloc (Obj.cells v4.toArray t4)) v5 t5)
    simpa only [World.size_alloc] using h
  · exact (Below.alloc (Below.alloc (Below.alloc (Below.alloc (Below.alloc (Go.Joins.below_alloc1 w (Obj.cells v0.toArray t0)) (by simp only [World.size_alloc]; omega) (Obj.cells v1.toArray t1)) (by simp only [World.size_alloc]; omega) (Obj.cells v2.toArray t2)) (by simp only [World.size_alloc]; omega) (Obj.cells v3.toArray t3)) (by simp only [World.size_alloc]; omega) (Obj.cells v4.toArray t4)) (by simp only [World.size_alloc]; omega) (Obj.cells v5.toArray t5))
  · simp only [World.size_alloc]
end Go.Proofs.YtmlodnamknielacDoor

/- tree.Find: the first place of a node, or the zero place. -/
namespace Go.Proofs.YtmlodnamknielacDoor
open Go.ChangeShapes Go.WideShapes Go.ChangeAt Go.RowKit
open Orangery (Pl find)

end Go.Proofs.YtmlodnamknielacDoor

/- tree's small functions: inRange, isNode, and the closures that Check and Under hand to meets. -/
namespace Go.Proofs.YtmlodnamknielacDoor
open Go.ChangeShapes Go.WideShapes Go.ChangeAt Go.RowKit
open Orangery (Pl find isNodeB inRangeB meetsN)

end Go.Proofs.YtmlodnamknielacDoor

/- tree.meets: from one parent to the next one, until one is what is sought. -/
namespace Go.Proofs.YtmlodnamknielacDoor
open Go.ChangeShapes Go.WideShapes Go.ChangeAt Go.RowKit
open Orangery (Pl find isNodeB inRangeB meetsN)

end Go.Proofs.YtmlodnamknielacDoor

/- tree.Check: the first thing that keeps places from being a tree. -/
namespace Go.Proofs.YtmlodnamknielacDoor
open Go.ChangeShapes Go.WideShapes Go.ChangeAt Go.RowKit
open Orangery (Pl find isNodeB inRangeB meetsN scan ringAt check)

end Go.Proofs.YtmlodnamknielacDoor

/- slices.IndexFunc at places; orangeryref.FindIn; slices.Contains at ints; orangeryref.CheckPlace. -/
namespace Go.Proofs.YtmlodnamknielacDoor
open Go.ChangeShapes Go.WideShapes Go.ChangeAt Go.RowKit
open Orangery (Pl find isNodeB inRangeB meetsN scan ringAt check idxF)

def cpE (p : Pl) : Int := if inRangeB p = true then 0 else 3

set_option maxHeartbeats 400000 in
theorem checkPlace_any (w : World) (p : Pl) :
    Calls Tryd.prog 69 #[plV p] w fun e w' => e = .returned (.int .i64 (cpE p)) ∧ Below w.heap.size w w' := by
  obtain ⟨a, b, c⟩ := p
  cases hr : inRangeB (a, b, c)
  · have e : cpE (a, b, c) = 3 := by simp [cpE, hr]
    have hn : ¬ (1 ≤ a ∧ a < 16 ∧ 0 ≤ b ∧ b ≤ 16 ∧ 0 ≤ c ∧ c ≤ 99) := by simpa [inRangeB] using hr
    have HE : Hid (cpE (a, b, c) = 3) := e
    clear e hr
    by_cases h1 : 1 ≤ a ∧ a ≤ 15
    · obtain ⟨h1, h2⟩ := h1
      by_cases h3 : 0 ≤ b ∧ b ≤ 16
      · obtain ⟨h3, h4⟩ := h3
        by_cases h5 : 0 ≤ c
        · have h6 : ¬ c ≤ 99 := by omega
          go_enter Tryd.func69, Tryd.ntmps69
          go_wp2
          go_ret
          exact ⟨ret_int (by rw [HE.out]), Go.Joins.below_alloc1 w _⟩
        · go_enter Tryd.func69, Tryd.ntmps69
          go_wp2
          go_ret
          exact ⟨ret_int (by rw [HE.out]), Go.Joins.below_alloc1 w _⟩
      · by_cases h5 : 0 ≤ b
        · have h6 : ¬ b ≤ 16 := by omega
          go_enter Tryd.func69, Tryd.ntmps69
          go_wp2
          go_ret
          exact ⟨ret_int (by rw [HE.out]), Go.Joins.below_alloc1 w _⟩
        · go_enter Tryd.func69, Tryd.ntmps69
          go_wp2
          go_ret
          exact ⟨ret_int (by rw [HE.out]), Go.Joins.below_alloc1 w _⟩
    · by_cases h5 : 1 ≤ a
      · have h6 : ¬ a ≤ 15 := by omega
        go_enter Tryd.func69, Tryd.ntmps69
        go_wp2
        go_ret
        exact ⟨ret_int (by rw [HE.out]), Go.Joins.below_alloc1 w _⟩
      · go_enter Tryd.func69, Tryd.ntmps69
        go_wp2
        go_ret
        exact ⟨ret_int (by rw [HE.out]), Go.Joins.below_alloc1 w _⟩
  · have e : cpE (a, b, c) = 0 := by simp [cpE, hr]
    have hn : 1 ≤ a ∧ a < 16 ∧ 0 ≤ b ∧ b ≤ 16 ∧ 0 ≤ c ∧ c ≤ 99 := by simpa [inRangeB] using hr
    obtain ⟨h1, h2, h3, h4, h5, h6⟩ := hn
    have HE : Hid (cpE (a, b, c) = 0) := e
    clear e hr
    go_enter Tryd.func69, Tryd.ntmps69
    go_wp2
    go_ret
    exact ⟨ret_int (by rw [HE.out]), Go.Joins.below_alloc1 w _⟩
end Go.Proofs.YtmlodnamknielacDoor

/- move's small functions: within, Check, target, the closures; orangeryref.CheckOp. -/
namespace Go.Proofs.YtmlodnamknielacDoor
open Go.ChangeShapes Go.WideShapes Go.ChangeAt Go.RowKit
open Orangery (Pl Mv Stp opOkB checkOp orI cmpI inRangeB)

/-- the value of an operation -/
abbrev opV (o : Mv) : Value := .agg #[.int .i64 o.1, .int .i64 o.2.1, .int .i64 o.2.2.1.1, .int .i64 o.2.2.1.2.1, .int .i64 o.2.2.1.2.2, .int .i64 o.2.2.2.1, .int .i64 o.2.2.2.2]
/-- the value of a step -/
abbrev stV (s : Stp) : Value := .agg #[.int .i64 s.1.1, .int .i64 s.1.2.1, .int .i64 s.1.2.2.1.1, .int .i64 s.1.2.2.1.2.1, .int .i64 s.1.2.2.1.2.2, .int .i64 s.1.2.2.2.1, .int .i64 s.1.2.2.2.2, .bool s.2.1, .int .i64 s.2.2.1, .int .i64 s.2.2.2.1, .int .i64 s.2.2.2.2]

/-- the cells of an operation, of a step -/
def opC (o : Mv) : List Value := [.int .i64 o.1, .int .i64 o.2.1, .int .i64 o.2.2.1.1, .int .i64 o.2.2.1.2.1, .int .i64 o.2.2.1.2.2, .int .i64 o.2.2.2.1, .int .i64 o.2.2.2.2]
def stC (s : Stp) : List Value := [.int .i64 s.1.1, .int .i64 s.1.2.1, .int .i64 s.1.2.2.1.1, .int .i64 s.1.2.2.1.2.1, .int .i64 s.1.2.2.1.2.2, .int .i64 s.1.2.2.2.1, .int .i64 s.1.2.2.2.2, .bool s.2.1, .int .i64 s.2.2.1, .int .i64 s.2.2.2.1, .int .i64 s.2.2.2.2]
theorem stC_len (s : Stp) : (stC s).length = 11 := rfl
theorem stC_one (s : Stp) : ∀ v ∈ stC s, v.oneCell' = true := by
  intro v hv
  simp [stC] at hv
  rcases hv with rfl | rfl | rfl | rfl | rfl | rfl | rfl | rfl | rfl | rfl | rfl <;> rfl

def inB (n a b : Int) : Bool := decide (a ≤ n ∧ n ≤ b)

set_option maxHeartbeats 400000 in
theorem within_any (w : World) (n a b : Int) :
    Calls Tryd.prog 71 #[.int .i64 n, .int .i64 a, .int .i64 b] w fun e w' => e = .returned (.bool (inB n a b)) ∧ w' = w := by
  by_cases h1 : a ≤ n
  all_goals by_cases h2 : n ≤ b
  all_goals
    go_enter Tryd.func71, Tryd.ntmps71
    go_wp2
    go_ret
    exact ⟨ret_bool (by simp [inB]; try omega), rfl⟩

theorem checkOp_in (o : Mv) : opOkB o = (inB o.1 1 10000 && inB o.2.1 0 2 && inB o.2.2.1.1 1 15 && inB o.2.2.1.2.1 0 16 && inB o.2.2.1.2.2 0 99 && inB o.2.2.2.1 1 50 && inB o.2.2.2.2 1 30) := by
  rw [Bool.eq_iff_iff]
  simp [opOkB, inB]
  omega

set_option maxHeartbeats 2000000 in
theorem moveCheck_any (w : World) (o : Mv) :
    Calls Tryd.prog 56 #[opV o] w fun e w' => e = .returned (.int .i64 (checkOp o)) ∧ Below w.heap.size w w' := by
  have hk := checkOp_in o
  obtain ⟨o1, o2, ⟨o3, o4, o5⟩, o6, o7⟩ := o
  have HE : Hid (checkOp (o1, o2, (o3, o4, o5), o6, o7) = if opOkB (o1, o2, (o3, o4, o5), o6, o7) = true then 0 else 3) := rfl
  have HK : Hid (opOkB (o1, o2, (o3, o4, o5), o6, o7) = (inB o1 1 10000 && inB o2 0 2 && inB o3 1 15 && inB o4 0 16 && inB o5 0 99 && inB o6 1 50 && inB o7 1 30)) := hk
  clear hk
  go_enter Tryd.func56, Tryd.ntmps56
  go_wp2_with fail
  refine (within_any _ o1 _ _).mono ?_
  rintro e w1 ⟨rfl, rfl⟩
  cases h1 : inB o1 1 10000
  · go_wp2
    go_ret
    exact ⟨ret_int (by rw [HE.out, HK.out]; simp [h1]), Go.Joins.below_alloc1 w _⟩
  go_wp2_with fail
  refine (within_any _ o2 _ _).mono ?_
  rintro e w1 ⟨rfl, rfl⟩
  cases h2 : inB o2 0 2
  · go_wp2
    go_ret
    exact ⟨ret_int (by rw [HE.out, HK.out]; simp [h2]), Go.Joins.below_alloc1 w _⟩
  go_wp2_with fail
  refine (within_any _ o3 _ _).mono ?_
  rintro e w1 ⟨rfl, rfl⟩
  cases h3 : inB o3 1 15
  · go_wp2
    go_ret
    exact ⟨ret_int (by rw [HE.out, HK.out]; simp [h3]), Go.Joins.below_alloc1 w _⟩
  go_wp2_with fail
  refine (within_any _ o4 _ _).mono ?_
  rintro e w1 ⟨rfl, rfl⟩
  cases h4 : inB o4 0 16
  · go_wp2
    go_ret
    exact ⟨ret_int (by rw [HE.out, HK.out]; simp [h4]), Go.Joins.below_alloc1 w _⟩
  go_wp2_with fail
  refine (within_any _ o5 _ _).mono ?_
  rintro e w1 ⟨rfl, rfl⟩
  cases h5 : inB o5 0 99
  · go_wp2
    go_ret
    exact ⟨ret_int (by rw [HE.out, HK.out]; simp [h5]), Go.Joins.below_alloc1 w _⟩
  go_wp2_with fail
  refine (within_any _ o6 _ _).mono ?_
  rintro e w1 ⟨rfl, rfl⟩
  cases h6 : inB o6 1 50
  · go_wp2
    go_ret
    exact ⟨ret_int (by rw [HE.out, HK.out]; simp [h6]), Go.Joins.below_alloc1 w _⟩
  go_wp2_with fail
  refine (within_any _ o7 _ _).mono ?_
  rintro e w1 ⟨rfl, rfl⟩
  cases h7 : inB o7 1 30
  · go_wp2
    go_ret
    exact ⟨ret_int (by rw [HE.out, HK.out]; simp [h7]), Go.Joins.below_alloc1 w _⟩
  go_wp2
  go_ret
  exact ⟨ret_int (by rw [HE.out, HK.out]; simp [h1, h2, h3, h4, h5, h6, h7]), Go.Joins.below_alloc1 w _⟩

theorem ref_in (o : Mv) : opOkB o = (inB o.1 1 10000 && inB o.2.1 0 2 && inRangeB o.2.2.1 && inB o.2.2.2.1 1 50 && inB o.2.2.2.2 1 30) := by
  rw [Bool.eq_iff_iff]
  simp [opOkB, inB, inRangeB]
  omega

set_option maxHeartbeats 400000 in
theorem rin_any (w : World) (n a b : Int) :
    Calls Tryd.prog 53 #[.int .i64 n, .int .i64 a, .int .i64 b] w fun e w' => e = .returned (.bool (inB n a b)) ∧ w' = w := by
  by_cases h1 : a ≤ n
  all_goals by_cases h2 : n ≤ b
  all_goals
    go_enter Tryd.func53, Tryd.ntmps53
    go_wp2
    go_ret
    exact ⟨ret_bool (by simp [inB]; try omega), rfl⟩

set_option maxHeartbeats 2000000 in
theorem refCheckOp_any (w : World) (o : Mv) :
    Calls Tryd.prog 52 #[opV o] w fun e w' => e = .returned (.int .i64 (checkOp o)) ∧ Below w.heap.size w w' := by
  have hk := ref_in o
  obtain ⟨o1, o2, ⟨o3, o4, o5⟩, o6, o7⟩ := o
  have HE : Hid (checkOp (o1, o2, (o3, o4, o5), o6, o7) = if opOkB (o1, o2, (o3, o4, o5), o6, o7) = true then 0 else 3) := rfl
  have HK : Hid (opOkB (o1, o2, (o3, o4, o5), o6, o7) = (inB o1 1 10000 && inB o2 0 2 && inRangeB (o3, o4, o5) && inB o6 1 50 && inB o7 1 30)) := hk
  clear hk
  go_enter Tryd.func52, Tryd.ntmps52
  go_wp2_with fail
  refine (rin_any _ o1 _ _).mono ?_
  rintro e w1 ⟨rfl, rfl⟩
  cases h1 : inB o1 1 10000
  · go_wp2
    go_ret
    exact ⟨ret_int (by rw [HE.out, HK.out]; simp [h1]), Go.Joins.below_alloc1 w _⟩
  go_wp2_with fail
  refine (rin_any _ o2 _ _).mono ?_
  rintro e w1 ⟨rfl, rfl⟩
  cases h2 : inB o2 0 2
  · go_wp2
    go_ret
    exact ⟨ret_int (by rw [HE.out, HK.out]; simp [h2]), Go.Joins.below_alloc1 w _⟩
  go_wp2_with fail
  refine (checkPlace_any _ (o3, o4, o5)).mono ?_
  rintro e w1 ⟨rfl, hb⟩
  have hb1 : Below w.heap.size w w1 := (Go.Joins.below_alloc1 w _).trans (hb.mono (by simp))
  have c6 : w1.cell? ⟨w.heap.size, 5, none⟩ = some (.int .i64 o6) := by rw [hb.cell (by simp)]; simp
  have c7 : w1.cell? ⟨w.heap.size, 6, none⟩ = some (.int .i64 o7) := by rw [hb.cell (by simp)]; simp
  have HC : Hid (cpE (o3, o4, o5) = if inRangeB (o3, o4, o5) = true then 0 else 3) := rfl
  clear hb
  cases h3 : inRangeB (o3, o4, o5)
  · rw [show cpE (o3, o4, o5) = 3 by rw [HC.out, h3]; rfl]
    go_wp2
    go_ret
    exact ⟨ret_int (by rw [HE.out, HK.out]; simp [h3]), hb1⟩
  rw [show cpE (o3, o4, o5) = 0 by rw [HC.out, h3]; rfl]
  go_wp2_with fail
  refine (rin_any _ o6 _ _).mono ?_
  rintro e w2 ⟨rfl, rfl⟩
  cases h4 : inB o6 1 50
  · go_wp2
    go_ret
    exact ⟨ret_int (by rw [HE.out, HK.out]; simp [h4]), hb1⟩
  go_wp2_with fail
  refine (rin_any _ o7 _ _).mono ?_
  rintro e w2 ⟨rfl, rfl⟩
  cases h5 : inB o7 1 30
  · go_wp2
    go_ret
    exact ⟨ret_int (by rw [HE.out, HK.out]; simp [h5]), hb1⟩
  go_wp2
  go_ret
  exact ⟨ret_int (by rw [HE.out, HK.out]; simp [h1, h2, h3, h4, h5]), hb1⟩
end Go.Proofs.YtmlodnamknielacDoor

/- Slices of whatever elements in memory of the call's own; operations and steps in their cells. -/
namespace Go.Proofs.YtmlodnamknielacDoor
open Go.ChangeShapes Go.WideShapes Go.ChangeAt Go.RowKit
open Orangery (Pl Mv Stp)

/-- a slice of the call's own, of elements of k cells -/
def OwnE {α : Type} (enc : α → List Value) (k : Nat) (e : TypeId) (w : World) (base : Nat) (v : Value) (l : List α) : Prop :=
  w.ownsRow base e k v l.length (l.flatMap enc)

theorem OwnE.row {α : Type} {enc : α → List Value} {k : Nat} {e : TypeId} {w : World} {base : Nat} {v : Value} {l : List α} (h : OwnE enc k e w base v l) : w.ownsRow base e k v l.length (l.flatMap enc) := h

theorem OwnE.val {α : Type} {enc : α → List Value} {k : Nat} {e : TypeId} {w : World} {base : Nat} {v : Value} {l : List α} (h : OwnE enc k e w base v l) :
    ∃ a cap, v = .slice a l.length cap ∧ SlE enc w a l ∧ l.length ≤ cap := by
  obtain ⟨a, cap, e1, h1, _⟩ := own_slE h
  refine ⟨a, cap, e1, h1, ?_⟩
  rcases h.2 with ⟨e2, hn⟩ | ⟨g, cap', cur, e2, _, _, hn, _⟩
  · rw [e1] at e2
    obtain ⟨_, h2, h3⟩ : a = none ∧ l.length = 0 ∧ cap = 0 := by simpa using e2
    omega
  · rw [e1] at e2
    obtain ⟨_, rfl⟩ : a = _ ∧ cap = cap' := by simpa using e2
    exact hn

theorem OwnE.read {α : Type} {enc : α → List Value} {k : Nat} {e : TypeId} {w : World} {base n c : Nat} {a : Option Addr} {l : List α} (h : OwnE enc k e w base (.slice a n c) l) : SlE enc w a l := own_readE h

theorem OwnE.keep {α : Type} {enc : α → List Value} {k : Nat} {e : TypeId} {w w' : World} {base : Nat} {v : Value} {l : List α} (h : OwnE enc k e w base v l) (hb : Below w.heap.size w w') : OwnE enc k e w' base v l := own_below h hb
theorem OwnE.alloc {α : Type} {enc : α → List Value} {k : Nat} {e : TypeId} {w : World} {base : Nat} {v : Value} {l : List α} (h : OwnE enc k e w base v l) (o : Obj) : OwnE enc k e (w.alloc o) base v l := h.keep (Go.Joins.below_alloc1 w o)
theorem OwnE.drew {α : Type} {enc : α → List Value} {k : Nat} {e : TypeId} {w : World} {base : Nat} {v : Value} {l : List α} (h : OwnE enc k e w base v l) : OwnE enc k e w.drew base v l := h
theorem OwnE.mono {α : Type} {enc : α → List Value} {k : Nat} {e : TypeId} {w : World} {base base' : Nat} {v : Value} {l : List α} (h : OwnE enc k e w base v l) (hb : base' ≤ base) : OwnE enc k e w base' v l := by
  obtain ⟨h1, h2⟩ := h
  refine ⟨h1, ?_⟩
  rcases h2 with h2 | ⟨g, cap, cur, e2, hg, r⟩
  · exact Or.inl h2
  · exact Or.inr ⟨g, cap, cur, e2, by omega, r⟩
theorem OwnE.other {α : Type} {enc : α → List Value} {k : Nat} {e : TypeId} {w : World} {base : Nat} {v : Value} {l : List α} (h : OwnE enc k e w base v l) (g : Nat) (hg : g < base) (j : Nat) (u : Value) : OwnE enc k e (w.setCell ⟨g, j, none⟩ u) base v l :=
  ownsRow_setCell_below h (a := ⟨g, j, none⟩) hg u
theorem OwnE.others {α : Type} {enc : α → List Value} {k : Nat} {e : TypeId} {base : Nat} {v : Value} {l : List α} (g : Nat) (hg : g < base) : ∀ (us : List Value) (o : Nat) (w : World), OwnE enc k e w base v l → OwnE enc k e (w.setCells g o us) base v l
  | [], _, _, h => h
  | u :: us, o, _, h => OwnE.others g hg us (o + 1) _ (h.other g hg o u)
/-- an own slice, behind an append to another one -/
theorem OwnE.grown {α : Type} {enc : α → List Value} {k : Nat} {e : TypeId} {w w' : World} {base : Nat} {v : Value} {l : List α} {row : Option Nat} (h : OwnE enc k e w base v l) (hg : w.grownBy w' row) (hne : ∀ g, row = some g → g < base) : OwnE enc k e w' base v l := by
  obtain ⟨h1, h2⟩ := h
  refine ⟨h1, ?_⟩
  rcases h2 with h2 | ⟨g, cap, cur, e2, hb, hh, r⟩
  · exact Or.inl h2
  · refine Or.inr ⟨g, cap, cur, e2, hb, ?_, r⟩
    rw [hg.block g (blk_lt hh) (fun e => by have := hne g e.symm; omega)]
    exact hh
theorem OwnE.nil {α : Type} {enc : α → List Value} {k : Nat} {e : TypeId} (w : World) (base : Nat) : OwnE enc k e w base (.slice none 0 0) ([] : List α) := ⟨by simp, Or.inl ⟨rfl, rfl⟩⟩

theorem OwnS.grown {w w' : World} {base : Nat} {v : Value} {l : List Pl} {row : Option Nat} (h : OwnS w base v l) (hg : w.grownBy w' row) (hne : ∀ g, row = some g → g < base) : OwnS w' base v l :=
  own_pls (OwnE.grown (enc := encPl) (k := 3) (e := 106) h.row hg hne)
theorem OwnS.alloc {w : World} {base : Nat} {v : Value} {l : List Pl} (h : OwnS w base v l) (o : Obj) : OwnS (w.alloc o) base v l := h.below (Go.Joins.below_alloc1 w o)
theorem OwnS.drew {w : World} {base : Nat} {v : Value} {l : List Pl} (h : OwnS w base v l) : OwnS w.drew base v l := h

theorem SlE.at {α : Type} {enc : α → List Value} {k : Nat} (hk : ∀ x, (enc x).length = k) {w : World} {a : Option Addr} {l : List α} (h : SlE enc w a l) (i : Nat) (hi : i < l.length) :
    ∃ b off, a = some ⟨b, off, none⟩ ∧ b < w.heap.size ∧ w.rangeAt b (off + i * k) (enc l[i]) := by
  rcases h with h | ⟨b, off, ha, hb, hr⟩
  · subst h; simp at hi
  · exact ⟨b, off, ha, hb, elemE hk hr i hi⟩
theorem SlE.take {α : Type} {enc : α → List Value} {w : World} {a : Option Addr} {l : List α} (h : SlE enc w a l) (i : Nat) : SlE enc w a (l.take i) := by
  rcases h with h | ⟨b, off, ha, hb, hr⟩
  · subst h; exact Or.inl (by simp)
  · refine Or.inr ⟨b, off, ha, hb, fun j v hv => hr j v ?_⟩
    have e : l.flatMap enc = (l.take i).flatMap enc ++ (l.drop i).flatMap enc := by rw [← List.flatMap_append, List.take_append_drop]
    rw [e, List.getElem?_append_left (List.getElem?_eq_some_iff.1 hv).1]
    exact hv
theorem SlE.drew {α : Type} {enc : α → List Value} {w : World} {a : Option Addr} {l : List α} (h : SlE enc w a l) : SlE enc w.drew a l := h
theorem SlE.nil {α : Type} {enc : α → List Value} {w : World} {a : Option Addr} : SlE enc w a ([] : List α) := Or.inl rfl

theorem opC_len (o : Mv) : (opC o).length = 7 := rfl
theorem opC_one (o : Mv) : ∀ v ∈ opC o, v.oneCell' = true := by
  intro v hv
  simp [opC] at hv
  rcases hv with rfl | rfl | rfl | rfl | rfl | rfl | rfl <;> rfl
theorem flat_oneE {α : Type} {enc : α → List Value} (h : ∀ x, ∀ v ∈ enc x, v.oneCell' = true) (l : List α) : ∀ v ∈ l.flatMap enc, v.oneCell' = true := by
  intro v hv
  rw [List.mem_flatMap] at hv
  obtain ⟨x, _, hx⟩ := hv
  exact h x v hx

theorem op_cells {w : World} {b o : Nat} {x : Mv} (h : w.rangeAt b o (opC x)) :
    w.cell? ⟨b, o, none⟩ = some (.int .i64 x.1) ∧ w.cell? ⟨b, o + 1, none⟩ = some (.int .i64 x.2.1) ∧ w.cell? ⟨b, o + 2, none⟩ = some (.int .i64 x.2.2.1.1) ∧ w.cell? ⟨b, o + 3, none⟩ = some (.int .i64 x.2.2.1.2.1) ∧ w.cell? ⟨b, o + 4, none⟩ = some (.int .i64 x.2.2.1.2.2) ∧ w.cell? ⟨b, o + 5, none⟩ = some (.int .i64 x.2.2.2.1) ∧ w.cell? ⟨b, o + 6, none⟩ = some (.int .i64 x.2.2.2.2) :=
  ⟨h 0 _ rfl, h 1 _ rfl, h 2 _ rfl, h 3 _ rfl, h 4 _ rfl, h 5 _ rfl, h 6 _ rfl⟩
theorem st_cells {w : World} {b o : Nat} {x : Stp} (h : w.rangeAt b o (stC x)) :
    w.cell? ⟨b, o, none⟩ = some (.int .i64 x.1.1) ∧ w.cell? ⟨b, o + 1, none⟩ = some (.int .i64 x.1.2.1) ∧ w.cell? ⟨b, o + 2, none⟩ = some (.int .i64 x.1.2.2.1.1) ∧ w.cell? ⟨b, o + 3, none⟩ = some (.int .i64 x.1.2.2.1.2.1) ∧ w.cell? ⟨b, o + 4, none⟩ = some (.int .i64 x.1.2.2.1.2.2) ∧ w.cell? ⟨b, o + 5, none⟩ = some (.int .i64 x.1.2.2.2.1) ∧ w.cell? ⟨b, o + 6, none⟩ = some (.int .i64 x.1.2.2.2.2) ∧ w.cell? ⟨b, o + 7, none⟩ = some (.bool x.2.1) ∧ w.cell? ⟨b, o + 8, none⟩ = some (.int .i64 x.2.2.1) ∧ w.cell? ⟨b, o + 9, none⟩ = some (.int .i64 x.2.2.2.1) ∧ w.cell? ⟨b, o + 10, none⟩ = some (.int .i64 x.2.2.2.2) :=
  ⟨h 0 _ rfl, h 1 _ rfl, h 2 _ rfl, h 3 _ rfl, h 4 _ rfl, h 5 _ rfl, h 6 _ rfl, h 7 _ rfl, h 8 _ rfl, h 9 _ rfl, h 10 _ rfl⟩

theorem infoOp : (Tryd.prog.info? 26).map (fun i => (i.zero, i.size, i.bytes)) = some (some (.agg #[.int .i64 0, .int .i64 0, .int .i64 0, .int .i64 0, .int .i64 0, .int .i64 0, .int .i64 0]), 7, 56) := by kernel_rfl
theorem sizeStamp : (Tryd.prog.info? 24).map (·.size) = some 2 := by kernel_rfl
/-- the next operation is a store of this type -/
theorem at_store {ops : Array Oper} {Q : Exit → Act → World → Prop} {rest : List Oper} {x y : Operand} {t : TypeId} {pos : String} {after : Array Edge} {a : Act} {w : World} (ty : TypeId)
    (h : wpList Tryd.prog ops Q (⟨none, .store ty x y, t, pos, after, none⟩ :: rest) a w) : wpList Tryd.prog ops Q (⟨none, .store ty x y, t, pos, after, none⟩ :: rest) a w := h
/-- the value of a history -/
abbrev hiV (x y : Value) : Value := .agg #[x, y]
end Go.Proofs.YtmlodnamknielacDoor

/- The library's strings and numbers, in the words of PlainQ and PlainT: strconv.Itoa, FormatInt, Atoi, ParseInt; strings.Split, Cut, Join; strings.Builder. -/
namespace Go.Proofs.YtmlodnamknielacDoor
open Go.ChangeShapes Go.WideShapes Go.ChangeAt Go.RowKit
open Orangery (wordsB glue)

/-- the value of a text -/
abbrev txV (l : List UInt8) : Value := .string ⟨l.toArray⟩

/-- what the library's own variables hold -/
structure Vars (w : World) : Prop where
  lo : 8 ≤ w.heap.size
  tab : Lib.TabIs Tryd.prog w "internal/strconv.uint64pow10" .u64 Lib.pow10Tab
  syn : ∃ te pe, w.var? Tryd.prog "strconv.ErrSyntax" = some #[.iface te pe]
  ran : ∃ te pe, w.var? Tryd.prog "strconv.ErrRange" = some #[.iface te pe]
  mx : ∃ m, w.cell? ⟨0, 0, none⟩ = some (.int .i64 m)

theorem powNamed : Tryd.prog.globalNamed "internal/strconv.uint64pow10" = some 3 := by kernel_rfl
theorem synNamed : Tryd.prog.globalNamed "strconv.ErrSyntax" = some 1 := by kernel_rfl
theorem ranNamed : Tryd.prog.globalNamed "strconv.ErrRange" = some 2 := by kernel_rfl

theorem Vars.keep {w w' : World} {B : Nat} (h : Vars w) (hb : Below B w w') (hB : 8 ≤ B) : Vars w' where
  lo := Nat.le_trans h.lo hb.size
  tab := var?_below hb powNamed (by omega) h.tab
  syn := by
    obtain ⟨te, pe, h1⟩ := h.syn
    exact ⟨te, pe, var?_below hb synNamed (by omega) h1⟩
  ran := by
    obtain ⟨te, pe, h1⟩ := h.ran
    exact ⟨te, pe, var?_below hb ranNamed (by omega) h1⟩
  mx := by
    obtain ⟨m, h1⟩ := h.mx
    exact ⟨m, by rw [hb.cell (show (⟨0, 0, none⟩ : Addr).block < B by show 0 < B; omega)]; exact h1⟩
theorem Vars.on {w w' : World} (h : Vars w) (hb : Below w.heap.size w w') : Vars w' := h.keep hb h.lo

theorem grow_size (w : World) (os : Array Obj) : (Go.Sort.grow w os).heap.size = w.heap.size + os.size := by simp [Go.Sort.grow]
theorem below_grow_drewN (w : World) (n : Nat) (os : Array Obj) : Below w.heap.size w (Go.Sort.grow (w.drewN n) os) :=
  ⟨rfl, rfl, rfl, by rw [grow_size]; exact Nat.le_add_right _ _, fun k hk => by
    show ((w.drewN n).heap ++ os)[k]? = w.heap[k]?
    rw [Array.getElem?_append_left (by exact hk)]
    rfl⟩

theorem itoa_any (w : World) (n : Int) (h0 : -9223372036854775808 ≤ n) (h1 : n ≤ 9223372036854775807) (hv : Vars w) :
    Calls Tryd.prog 26 #[.int .i64 n] w fun e w' => e = .returned (txV (Lib.itoa n)) ∧ Below w.heap.size w w' := by
  refine (Any.strconv_Itoa Tryd.laysM171 n h0 h1 w hv.tab).mono ?_
  rintro e w' ⟨rfl, k, os, rfl⟩
  exact ⟨rfl, below_grow_drewN w k os⟩
theorem formatInt_any (w : World) (n : Int) (h0 : -9223372036854775808 ≤ n) (h1 : n ≤ 9223372036854775807) (hv : Vars w) :
    Calls Tryd.prog 40 #[.int .i64 n, .int .i64 10] w fun e w' => e = .returned (txV (Lib.itoa n)) ∧ Below w.heap.size w w' := by
  refine (Any.strconv_FormatInt_10 Tryd.laysM173 n h0 h1 w hv.tab).mono ?_
  rintro e w' ⟨rfl, k, os, rfl⟩
  exact ⟨rfl, below_grow_drewN w k os⟩

/-- a number, no number, or one that is too great -/
theorem numEnds (x : Lib.NumEnd Int) : (∃ v, x = .ok v) ∨ x = Lib.NumEnd.ofOption none ∨ x = .range := by
  cases x
  · exact Or.inl ⟨_, rfl⟩
  · exact Or.inr (Or.inl rfl)
  · exact Or.inr (Or.inr rfl)
theorem numEnds_two (x : Lib.NumEnd Int) : (∃ v, x = .ok v) ∨ ∀ v, x ≠ .ok v := by
  cases x
  · exact Or.inl ⟨_, rfl⟩
  · exact Or.inr (fun v e => by cases e)
  · exact Or.inr (fun v e => by cases e)

theorem atoi_ok (w : World) (t : List UInt8) (v : Int) (hl : t.length ≤ 60000) (h : Lib.atoiAll t = .ok v) :
    Calls Tryd.prog 51 #[txV t] w fun e w' => e = .returned (.tuple #[.int .i64 v, .nilIface]) ∧ Below w.heap.size w w' := by
  refine (Any.strconv_Atoi_ok Tryd.laysC172 ⟨t.toArray⟩ (by rw [Orangery.bytes_size]; omega) v h w).mono ?_
  rintro e w' ⟨rfl, rfl | ⟨s, rfl⟩⟩
  · exact ⟨rfl, Below.refl _ _⟩
  · exact ⟨rfl, Lib.bytesWorld_below _ _ _⟩
theorem atoi_bad (w : World) (t : List UInt8) (hl : t.length ≤ 60000) (h : ∀ v, Lib.atoiAll t ≠ .ok v) (hv : Vars w) :
    Calls Tryd.prog 51 #[txV t] w fun e w' => (∃ v te pe, e = .returned (.tuple #[.int .i64 v, .iface te pe])) ∧ Below w.heap.size w w' := by
  rcases numEnds (Lib.atoiAll t) with ⟨v, hq⟩ | hq | hq
  · exact absurd hq (h v)
  · obtain ⟨te, pe, h1⟩ := hv.syn
    refine (Any.strconv_Atoi_syntax_var Tryd.laysC172 ⟨t.toArray⟩ (by rw [Orangery.bytes_size]; omega) (hq) te pe w h1).mono ?_
    rintro e w' ⟨N, rfl, _, _, hb⟩
    exact ⟨⟨_, _, _, rfl⟩, hb⟩
  · obtain ⟨te, pe, h1⟩ := hv.ran
    refine (Any.strconv_Atoi_range_var Tryd.laysC172 ⟨t.toArray⟩ (by rw [Orangery.bytes_size]; omega) (hq) te pe w h1).mono ?_
    rintro e w' ⟨N, rfl, _, _, hb⟩
    exact ⟨⟨_, _, _, rfl⟩, hb⟩

theorem parseInt_ok (w : World) (t : List UInt8) (v : Int) (hl : t.length ≤ 60000) (h : Lib.atoiAll t = .ok v) :
    Calls Tryd.prog 39 #[txV t, .int .i64 10, .int .i64 64] w fun e w' => e = .returned (.tuple #[.int .i64 v, .nilIface]) ∧ Below w.heap.size w w' := by
  refine (Any.strconv_ParseInt_10_at64_ok Tryd.laysC174 ⟨t.toArray⟩ (by rw [Orangery.bytes_size]; omega) v (by rw [Lib.parseIntB_64]; exact h) w).mono ?_
  rintro e w' ⟨rfl, rfl | ⟨s, rfl⟩⟩
  · exact ⟨rfl, Below.refl _ _⟩
  · exact ⟨rfl, Lib.bytesWorld_below _ _ _⟩
theorem parseInt_bad (w : World) (t : List UInt8) (hl : t.length ≤ 60000) (h : ∀ v, Lib.atoiAll t ≠ .ok v) (hv : Vars w) :
    Calls Tryd.prog 39 #[txV t, .int .i64 10, .int .i64 64] w fun e w' => (∃ v te pe, e = .returned (.tuple #[.int .i64 v, .iface te pe])) ∧ Below w.heap.size w w' := by
  rcases numEnds (Lib.atoiAll t) with ⟨v, hq⟩ | hq | hq
  · exact absurd hq (h v)
  · obtain ⟨te, pe, h1⟩ := hv.syn
    refine (Any.strconv_ParseInt_10_at64_syntax_var Tryd.laysC174 ⟨t.toArray⟩ (by rw [Orangery.bytes_size]; omega) (by rw [Lib.parseIntB_64]; exact hq) te pe w h1).mono ?_
    rintro e w' ⟨N, rfl, _, _, hb⟩
    exact ⟨⟨_, _, _, rfl⟩, hb⟩
  · obtain ⟨te, pe, h1⟩ := hv.ran
    refine (Any.strconv_ParseInt_10_at64_range_var Tryd.laysC174 ⟨t.toArray⟩ (by rw [Orangery.bytes_size]; omega) (by rw [Lib.parseIntB_64]; exact hq) te pe w h1).mono ?_
    rintro e w' ⟨N, rfl, _, _, hb⟩
    exact ⟨⟨_, _, _, rfl⟩, hb⟩

/-- the cell of a text -/
def txC (l : List UInt8) : List Value := [txV l]
theorem txC_len (l : List UInt8) : (txC l).length = 1 := rfl

/-- strings.Split at a blank -/
theorem split_any (w : World) (t : List UInt8) (hl : t.length ≤ 60000) (hv : Vars w) :
    Calls Tryd.prog 28 #[txV t, txV [32]] w fun e w' =>
      e = .returned (.slice (some ⟨w.heap.size, 0, none⟩) (wordsB t).length (wordsB t).length) ∧ w' = w.alloc (.cells ((wordsB t).map txV).toArray 9) := by
  obtain ⟨m, hm⟩ := hv.mx
  refine (Any.strings_Split Tryd.lays146 (by kernel_rfl) ⟨t.toArray⟩ ⟨#[32]⟩ m w (by rw [Orangery.bytes_size]; omega) hm (by decide)).mono ?_
  rintro e w' ⟨rfl, rfl⟩
  rw [Orangery.splitB_strs, Orangery.countB_words]
  refine ⟨rfl, ?_⟩
  rw [List.map_map]
  rfl

/-- strings.Cut at a blank -/
theorem cut_any (w : World) (t : List UInt8) (hl : t.length ≤ 60000) (hv : Vars w) :
    Calls Tryd.prog 38 #[txV t, txV [32]] w fun e w' =>
      e = .returned (.tuple #[txV (Lib.cut t [32]).1, txV (Lib.cut t [32]).2.1, .bool (Lib.cut t [32]).2.2]) ∧ Below w.heap.size w w' := by
  obtain ⟨m, hm⟩ := hv.mx
  refine (Any.strings_Cut Tryd.lays145 ⟨t.toArray⟩ ⟨#[32]⟩ m w (by rw [Orangery.bytes_size]; omega) hm).mono ?_
  rintro e w' ⟨rfl, n, rfl⟩
  exact ⟨rfl, ⟨rfl, rfl, rfl, Nat.le_refl _, fun _ _ => rfl⟩⟩

/-- strings.Join at a blank, of one text at least -/
theorem join_any (w : World) (a : Option Addr) (c : Nat) (ws : List (List UInt8)) (hn : ws ≠ []) (hc : ws.length ≤ c) (hl : ws.length ≤ 1000) (hg : (glue ws).length ≤ 60000) (h : SlE txC w a ws) :
    Calls Tryd.prog 33 #[.slice a ws.length c, txV [32]] w fun e w' => e = .returned (txV (glue ws)) ∧ Below w.heap.size w w' := by
  have hp : 0 < ws.length := List.length_pos_iff.2 hn
  obtain ⟨b, off, rfl, hlt, _⟩ := h.at txC_len 0 hp
  have e1 : (ws.map fun x => (⟨x.toArray⟩ : ByteArray)).map (·.data.toList) = ws := by
    rw [List.map_map]
    have : ((fun x : ByteArray => x.data.toList) ∘ fun x : List UInt8 => (⟨x.toArray⟩ : ByteArray)) = id := by funext x; simp
    rw [this, List.map_id]
  have hJ := Any.strings_Join Tryd.lays156 Tryd.extra156 b off c (ws.map fun x => (⟨x.toArray⟩ : ByteArray)) ⟨#[32]⟩ w (by
    intro j x hx
    rw [List.getElem?_map] at hx
    have hj : j < ws.length := by
      rcases Nat.lt_or_ge j ws.length with h' | h'
      · exact h'
      · rw [List.getElem?_eq_none h'] at hx; simp at hx
    rw [List.getElem?_eq_getElem hj] at hx
    simp at hx
    subst hx
    obtain ⟨b', off', e2, _, hr⟩ := h.at txC_len j hj
    obtain ⟨rfl, rfl⟩ : b = b' ∧ off = off' := by simpa using e2
    have := hr 0 (txV ws[j]) rfl
    simpa using this) hlt (by simp; omega) (by simpa using hc) (by rw [e1]; show (glue ws).length ≤ _; omega)
  rw [e1, List.length_map] at hJ
  exact hJ

/-- a builder of the call's own, from block B on, that holds the text -/
def Built (w : World) (B b : Nat) (l : List UInt8) : Prop := Lib.IsBuilder 58 5 B b (Lib.byteCells l) w
theorem Built.new (w : World) : Built (w.alloc (.cells #[.pointer none, .slice none 0 0] 58)) w.heap.size w.heap.size [] := Lib.fresh_isBuilder 58 5 w
theorem Built.keep {w w' : World} {B b : Nat} {l : List UInt8} (h : Built w B b l) (hb : Below w.heap.size w w') : Built w' B b l := by
  rcases h with ⟨h1, v, h2, h3, h4⟩ | ⟨h1, v, h2, h3, h4⟩
  · exact Or.inl ⟨h1, v, by rw [hb.block b (blk_lt h2)]; exact h2, own_below h3 hb, h4⟩
  · exact Or.inr ⟨h1, v, by rw [hb.block b (blk_lt h2)]; exact h2, own_below h3 hb, h4⟩
theorem write_any (w : World) (B b : Nat) (l t : List UInt8) (h : Built w B b l) (hl : l.length + t.length ≤ 60000) (hB : B ≤ w.heap.size) :
    Calls Tryd.prog 25 #[.pointer (some ⟨b, 0, none⟩), txV t] w fun e w' => (∃ n, e = .returned (.tuple #[.int .i64 n, .nilIface])) ∧ Built w' B b (l ++ t) ∧ Below B w w' := by
  refine (Any.Builder_WriteString (ρ := Tryd.lays156_ren) { Tryd.lays156 with } Tryd.extra156 B b (Lib.byteCells l) ⟨t.toArray⟩ w h (by rw [Lib.byteCells_length, Orangery.bytes_size]; omega) hB).mono ?_
  rintro e w' ⟨rfl, h1, h2⟩
  refine ⟨⟨_, rfl⟩, Or.inr ?_, h2⟩
  rw [Lib.byteCells_append]
  exact h1
theorem built_any (w : World) (B b : Nat) (l : List UInt8) (h : Built w B b l) (hB : B ≤ w.heap.size) :
    Calls Tryd.prog 27 #[.pointer (some ⟨b, 0, none⟩)] w fun e w' => e = .returned (txV l) ∧ Below B w w' :=
  Any.Builder_String_any Tryd.lays169 Tryd.extra169 B b l w h hB
end Go.Proofs.YtmlodnamknielacDoor

/- orangeryref.chain: a node, its parent, and so on; orangeryref.IsUnder. -/
namespace Go.Proofs.YtmlodnamknielacDoor
open Go.ChangeShapes Go.WideShapes Go.ChangeAt Go.RowKit
open Orangery (Pl find isNodeB inRangeB meetsN scan ringAt check idxF chain chainN hasB outOk)

theorem infoInt : (Tryd.prog.info? 3).map (fun i => (i.zero, i.size, i.bytes)) = some (some (.int .i64 0), 1, 8) := by kernel_rfl

end Go.Proofs.YtmlodnamknielacDoor

/- Slices of ints that a call reads; slices.Equal, slices.Clone, slices.Contains at them. -/
namespace Go.Proofs.YtmlodnamknielacDoor
open Go.ChangeShapes Go.WideShapes Go.ChangeAt Go.RowKit
open Orangery (hasB)

/-- a slice's address holds these ints -/
def SlI (w : World) (a : Option Addr) (l : List Int) : Prop :=
  l = [] ∨ ∃ b off, a = some ⟨b, off, none⟩ ∧ b < w.heap.size ∧ IntsAt w b off l

theorem SlI.below {w w' : World} {a : Option Addr} {l : List Int} (h : SlI w a l) (hb : Below w.heap.size w w') : SlI w' a l := by
  rcases h with h | ⟨b, off, ha, hlt, hp⟩
  · exact Or.inl h
  · exact Or.inr ⟨b, off, ha, Nat.lt_of_lt_of_le hlt hb.size, fun i hi => by rw [hb.cell hlt]; exact hp i hi⟩
theorem SlI.nil {w : World} {a : Option Addr} : SlI w a [] := Or.inl rfl
theorem SlI.at {w : World} {a : Option Addr} {l : List Int} (h : SlI w a l) (k : Nat) (hk : k < l.length) : ∃ b off, a = some ⟨b, off, none⟩ ∧ b < w.heap.size ∧ w.cell? ⟨b, off + k, none⟩ = some (.int .i64 l[k]) := by
  rcases h with h | ⟨b, off, ha, hlt, hp⟩
  · exact absurd hk (by simp [h])
  · exact ⟨b, off, ha, hlt, hp k hk⟩
theorem SlI.take {w : World} {a : Option Addr} {l : List Int} (h : SlI w a l) (n : Nat) : SlI w a (l.take n) := by
  rcases h with h | ⟨b, off, ha, hlt, hp⟩
  · exact Or.inl (by simp [h])
  · exact Or.inr ⟨b, off, ha, hlt, fun i hi => by rw [List.getElem_take]; exact hp i (by simp at hi; omega)⟩
theorem SlI.news {w : World} {ad : Addr} {l : List Int} (h : SlI w (some ad) l) : ∀ j u, (l.map (Value.int .i64))[j]? = some u → w.cell? (ad.add j) = some u := by
  intro j u hj
  rcases h with rfl | ⟨b, off, ha, _, hp⟩
  · simp at hj
  · simp at ha
    subst ha
    rw [Addr.add_mid]
    have hlt : j < l.length := by
      have := (List.getElem?_eq_some_iff.1 hj).1
      simpa using this
    rw [List.getElem?_map, List.getElem?_eq_getElem hlt] at hj
    simp at hj
    rw [hp j hlt, hj]
theorem SlI.none_nil {w : World} {l : List Int} (h : SlI w none l) : l = [] := by
  rcases h with rfl | ⟨b, off, h, _⟩
  · rfl
  · simp at h

/-- a row of ints of the call's own -/
def OwnI (w : World) (base : Nat) (v : Value) (l : List Int) : Prop := w.ownsRow base 3 1 v l.length (l.map (Value.int .i64))
theorem OwnI.val {w : World} {base : Nat} {v : Value} {l : List Int} (h : OwnI w base v l) : ∃ a cap, v = .slice a l.length cap ∧ SlI w a l := by
  obtain ⟨_, h2⟩ := own_ints h
  rcases h2 with ⟨rfl, h2⟩ | ⟨g, cap, h3, _, h4, h5⟩
  · have : l = [] := List.length_eq_zero_iff.1 h2
    subst this
    exact ⟨none, 0, rfl, Or.inl rfl⟩
  · exact ⟨_, cap, h3, Or.inr ⟨g, 0, rfl, h4, h5⟩⟩
theorem OwnI.keep {w w' : World} {base : Nat} {v : Value} {l : List Int} (h : OwnI w base v l) (hb : Below w.heap.size w w') : OwnI w' base v l := own_below h hb

theorem OwnI.other {w : World} {base : Nat} {v : Value} {l : List Int} (h : OwnI w base v l) (g : Nat) (hg : g < base) (j : Nat) (u : Value) : OwnI (w.setCell ⟨g, j, none⟩ u) base v l := ownsRow_setCell_below h (a := ⟨g, j, none⟩) hg u
theorem OwnI.others {base : Nat} {v : Value} {l : List Int} (g : Nat) (hg : g < base) : ∀ (us : List Value) (o : Nat) (w : World), OwnI w base v l → OwnI (w.setCells g o us) base v l
  | [], _, _, h => h
  | u :: us, o, _, h => OwnI.others g hg us (o + 1) _ (h.other g hg o u)
theorem OwnI.reads {W : World} {base : Nat} {a : Option Addr} {n c : Nat} {l : List Int} (h : OwnI W base (.slice a n c) l) : SlI W a l := by
  obtain ⟨a', c', e, h1⟩ := h.val
  obtain ⟨rfl, _, _⟩ : a = a' ∧ n = l.length ∧ c = c' := by simpa using e
  exact h1

theorem map_one (l : List Int) : ∀ v ∈ l.map (Value.int .i64), v.oneCell' = true := by
  intro v hv
  simp at hv
  obtain ⟨x, _, rfl⟩ := hv
  rfl

def eqIs (l m : List Int) : Bool := decide (l = m)
theorem eqIs_no {l m : List Int} (h : l ≠ m) : eqIs l m = false := by simpa [eqIs] using h
theorem eqIs_yes {l m : List Int} (h : l = m) : eqIs l m = true := by simpa [eqIs] using h

set_option maxHeartbeats 1000000 in
theorem equal_is (w : World) (a a' : Option Addr) (c c' : Nat) (l m : List Int) (hl : l.length ≤ maxLen) (h1 : SlI w a l) (h2 : SlI w a' m) :
    Calls Tryd.prog 37 #[.slice a l.length c, .slice a' m.length c'] w
      fun e w' => e = .returned (.bool (eqIs l m)) ∧ ∃ n, w' = w.drewN n := by
  have hl' : l.length ≤ 9223372036854775807 := hl
  by_cases hlen : l.length = m.length
  · have hlen' : ((l.length : Int) != (m.length : Int)) = false := by simp [hlen]
    go_enter Tryd.func37, Tryd.ntmps37
    go_wp2
    go_loopw [13] (fun i w' => ∃ k n : Nat, k ≤ l.length ∧ i = .int .i64 k ∧ w' = w.drewN n ∧ l.take k = m.take k) (fun i _ => l.length - (intOf i).toNat)
    case atStart => exact ⟨0, 0, Nat.zero_le _, rfl, rfl, rfl⟩
    case round =>
      obtain ⟨k, n, hk, rfl, rfl, hpre⟩ := hrel
      have HP : Hid (l.take k = m.take k) := hpre
      clear hpre
      by_cases hlt : k < l.length
      · have hlt2 : k < m.length := by omega
        obtain ⟨b, off, rfl, hbl, g0⟩ := h1.at k hlt
        obtain ⟨b', off', rfl, hbl', x0⟩ := h2.at k hlt2
        have hlti : (k : Int) < (m.length : Int) := by omega
        have HT1 : Hid (l.take (k + 1) = l.take k ++ [l[k]]) := List.take_succ_eq_append_getElem hlt
        have HT2 : Hid (m.take (k + 1) = m.take k ++ [m[k]]) := List.take_succ_eq_append_getElem hlt2
        have HG : Hid (l = m → l[k] = m[k]) := fun e => by subst e; rfl
        generalize l[k] = s at *
        generalize m[k] = t at *
        by_cases hq : s = t
        · have hq' : (s != t) = false := by simp [hq]
          have HQ : Hid (s = t) := hq
          clear hq
          go_wp2
          go_quiet (fail)
          go_wp2
          go_roundw
          case rel => exact ⟨k + 1, _, by omega, by go_num, rfl, by rw [HT1.out, HT2.out, HP.out, HQ.out]⟩
          case measure => simp [intOf]; omega
        · have hq' : (s != t) = true := by simp [hq]
          have HQ : Hid (s ≠ t) := hq
          clear hq
          go_wp2
          go_quiet (fail)
          go_wp2
          go_ret
          exact ⟨ret_bool ((eqIs_no (fun e => HQ.out (HG.out e))).symm), n + nq, by simp⟩
      · go_wp2
        go_ret
        refine ⟨ret_bool ?_, n, rfl⟩
        have e := HP.out
        rw [List.take_of_length_le (by omega), List.take_of_length_le (by omega)] at e
        exact (eqIs_yes e).symm
  · have hlen' : ((l.length : Int) != (m.length : Int)) = true := by simp; omega
    have HL : Hid (l.length ≠ m.length) := hlen
    clear hlen
    go_enter Tryd.func37, Tryd.ntmps37
    go_wp2
    go_ret
    exact ⟨ret_bool ((eqIs_no (by intro e; subst e; exact HL.out rfl)).symm), 0, rfl⟩

end Go.Proofs.YtmlodnamknielacDoor

/- Results that lie in cells: how a call hands them back. -/
namespace Go.Proofs.YtmlodnamknielacDoor
open Go.ChangeShapes Go.WideShapes Go.ChangeAt Go.RowKit

theorem Blk.range {w : World} {b : Nat} {vs : List Value} (h : Blk w b vs) : w.rangeAt b 0 vs := fun j v hv => by rw [Nat.zero_add]; exact h.at j hv
theorem Blk.there {w : World} {b : Nat} {vs : List Value} (h : Blk w b vs) : w.there b 0 vs.length := fun j hj =>
  ⟨by rw [Nat.zero_add, h.at j (List.getElem?_eq_getElem hj)]; rfl, by rw [Nat.zero_add]; exact h.frz j⟩

theorem Blk.load {w : World} {b : Nat} {vs : List Value} {ty : TypeId} {d : TypeDesc} (h : Blk w b vs) (hu : Tryd.prog.underlying ty = some d) (hd : d.isRow = true)
    (hi : (Tryd.prog.info? ty).map (·.size) = some vs.length) : (loadVar ty ⟨b, 0, none⟩).run Tryd.prog w = .ok (.agg vs.toArray) w :=
  run_loadVar_mid w b 0 ty vs d h.range hu hd hi

theorem ret_cell {fn : Func} {R : Ending → World → Prop} {tmps : Array Value} {W : World} {p : Tmp} {ty : TypeId} {b : Nat} {vs : List Value}
    (h : fn.results = #[.cell p ty]) (hp : tmps.getD p undef = .pointer (some ⟨b, 0, none⟩)) (hl : (loadVar ty ⟨b, 0, none⟩).run Tryd.prog W = .ok (.agg vs.toArray) W)
    (hR : R (.returned (.agg vs.toArray)) W) : bodyPost Tryd.prog fn R .ret { tmps := tmps, defers := [] } W := by
  refine bodyPost_ret ?_ rfl hR
  have hp' : tmps[p]?.getD undef = .pointer (some ⟨b, 0, none⟩) := by simpa using hp
  simp [results, h, hp', asAddr, hl]

theorem ret_cell_tmp {fn : Func} {R : Ending → World → Prop} {tmps : Array Value} {W : World} {p u : Tmp} {ty : TypeId} {b : Nat} {vs : List Value} {v : Value}
    (h : fn.results = #[.cell p ty, .tmp u]) (hp : tmps.getD p undef = .pointer (some ⟨b, 0, none⟩)) (hv : tmps.getD u undef = v) (hl : (loadVar ty ⟨b, 0, none⟩).run Tryd.prog W = .ok (.agg vs.toArray) W)
    (hR : R (.returned (.tuple #[.agg vs.toArray, v])) W) : bodyPost Tryd.prog fn R .ret { tmps := tmps, defers := [] } W := by
  refine bodyPost_ret ?_ rfl hR
  have hp' : tmps[p]?.getD undef = .pointer (some ⟨b, 0, none⟩) := by simpa using hp
  have hv' : tmps[u]?.getD undef = v := by simpa using hv
  simp [results, h, hp', hv', asAddr, hl]

theorem ret_tmp_cell {fn : Func} {R : Ending → World → Prop} {tmps : Array Value} {W : World} {p u : Tmp} {ty : TypeId} {b : Nat} {vs : List Value} {v : Value}
    (h : fn.results = #[.tmp u, .cell p ty]) (hp : tmps.getD p undef = .pointer (some ⟨b, 0, none⟩)) (hv : tmps.getD u undef = v) (hl : (loadVar ty ⟨b, 0, none⟩).run Tryd.prog W = .ok (.agg vs.toArray) W)
    (hR : R (.returned (.tuple #[v, .agg vs.toArray])) W) : bodyPost Tryd.prog fn R .ret { tmps := tmps, defers := [] } W := by
  refine bodyPost_ret ?_ rfl hR
  have hp' : tmps[p]?.getD undef = .pointer (some ⟨b, 0, none⟩) := by simpa using hp
  have hv' : tmps[u]?.getD undef = v := by simpa using hv
  simp [results, h, hp', hv', asAddr, hl]

theorem ret_cell_cell_tmp {fn : Func} {R : Ending → World → Prop} {tmps : Array Value} {W : World} {p q u : Tmp} {ty tz : TypeId} {b b' : Nat} {vs us : List Value} {v : Value}
    (h : fn.results = #[.cell p ty, .cell q tz, .tmp u]) (hp : tmps.getD p undef = .pointer (some ⟨b, 0, none⟩)) (hq : tmps.getD q undef = .pointer (some ⟨b', 0, none⟩)) (hv : tmps.getD u undef = v)
    (hl : (loadVar ty ⟨b, 0, none⟩).run Tryd.prog W = .ok (.agg vs.toArray) W) (hm : (loadVar tz ⟨b', 0, none⟩).run Tryd.prog W = .ok (.agg us.toArray) W)
    (hR : R (.returned (.tuple #[.agg vs.toArray, .agg us.toArray, v])) W) : bodyPost Tryd.prog fn R .ret { tmps := tmps, defers := [] } W := by
  refine bodyPost_ret ?_ rfl hR
  have hp' : tmps[p]?.getD undef = .pointer (some ⟨b, 0, none⟩) := by simpa using hp
  have hq' : tmps[q]?.getD undef = .pointer (some ⟨b', 0, none⟩) := by simpa using hq
  have hv' : tmps[u]?.getD undef = v := by simpa using hv
  simp [results, h, hp', hq', hv', asAddr, hl, hm]

theorem sizeOp : (Tryd.prog.info? 26).map (·.size) = some 7 := by kernel_rfl
end Go.Proofs.YtmlodnamknielacDoor

