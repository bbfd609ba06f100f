/- Slices of whatever elements in memory of the call's own; operations and steps in their cells. -/
import Derived.Test.YtphameoibnimmaaSlab
import Derived.Test.YtphameoibnimmaaBlk
import Derived.Test.YtphameoibnimmaaMoveA
namespace Go.Proofs.Ytphameoibnimmaa
open Go.ChangeShapes Go.WideShapes Go.ChangeAt Go.RowKit
open Orangery (Pl Mv Stp)

/-- a slice of the call's own, of elements of k cells -/
def OwnE {α : Type} (enc : α → List Value) (k : Nat) (e : TypeId) (w : World) (base : Nat) (v : Value) (l : List α) : Prop :=
  w.ownsRow base e k v l.length (l.flatMap enc)

theorem OwnE.row {α : Type} {enc : α → List Value} {k : Nat} {e : TypeId} {w : World} {base : Nat} {v : Value} {l : List α} (h : OwnE enc k e w base v l) : w.ownsRow base e k v l.length (l.flatMap enc) := h

theorem OwnE.val {α : Type} {enc : α → List Value} {k : Nat} {e : TypeId} {w : World} {base : Nat} {v : Value} {l : List α} (h : OwnE enc k e w base v l) :
    ∃ a cap, v = .slice a l.length cap ∧ SlE enc w a l ∧ l.length ≤ cap := by
  obtain ⟨a, cap, e1, h1, _⟩ := own_slE h
  refine ⟨a, cap, e1, h1, ?_⟩
  rcases h.2 with ⟨e2, hn⟩ | ⟨g, cap', cur, e2, _, _, hn, _⟩
  · rw [e1] at e2
    obtain ⟨_, h2, h3⟩ : a = none ∧ l.length = 0 ∧ cap = 0 := by simpa using e2
    omega
  · rw [e1] at e2
    obtain ⟨_, rfl⟩ : a = _ ∧ cap = cap' := by simpa using e2
    exact hn

theorem OwnE.read {α : Type} {enc : α → List Value} {k : Nat} {e : TypeId} {w : World} {base n c : Nat} {a : Option Addr} {l : List α} (h : OwnE enc k e w base (.slice a n c) l) : SlE enc w a l := own_readE h

theorem OwnE.keep {α : Type} {enc : α → List Value} {k : Nat} {e : TypeId} {w w' : World} {base : Nat} {v : Value} {l : List α} (h : OwnE enc k e w base v l) (hb : Below w.heap.size w w') : OwnE enc k e w' base v l := own_below h hb
theorem OwnE.alloc {α : Type} {enc : α → List Value} {k : Nat} {e : TypeId} {w : World} {base : Nat} {v : Value} {l : List α} (h : OwnE enc k e w base v l) (o : Obj) : OwnE enc k e (w.alloc o) base v l := h.keep (Go.Joins.below_alloc1 w o)
theorem OwnE.drew {α : Type} {enc : α → List Value} {k : Nat} {e : TypeId} {w : World} {base : Nat} {v : Value} {l : List α} (h : OwnE enc k e w base v l) : OwnE enc k e w.drew base v l := h
theorem OwnE.mono {α : Type} {enc : α → List Value} {k : Nat} {e : TypeId} {w : World} {base base' : Nat} {v : Value} {l : List α} (h : OwnE enc k e w base v l) (hb : base' ≤ base) : OwnE enc k e w base' v l := by
  obtain ⟨h1, h2⟩ := h
  refine ⟨h1, ?_⟩
  rcases h2 with h2 | ⟨g, cap, cur, e2, hg, r⟩
  · exact Or.inl h2
  · exact Or.inr ⟨g, cap, cur, e2, by omega, r⟩
theorem OwnE.other {α : Type} {enc : α → List Value} {k : Nat} {e : TypeId} {w : World} {base : Nat} {v : Value} {l : List α} (h : OwnE enc k e w base v l) (g : Nat) (hg : g < base) (j : Nat) (u : Value) : OwnE enc k e (w.setCell ⟨g, j, none⟩ u) base v l :=
  ownsRow_setCell_below h (a := ⟨g, j, none⟩) hg u
theorem OwnE.others {α : Type} {enc : α → List Value} {k : Nat} {e : TypeId} {base : Nat} {v : Value} {l : List α} (g : Nat) (hg : g < base) : ∀ (us : List Value) (o : Nat) (w : World), OwnE enc k e w base v l → OwnE enc k e (w.setCells g o us) base v l
  | [], _, _, h => h
  | u :: us, o, _, h => OwnE.others g hg us (o + 1) _ (h.other g hg o u)
/-- an own slice, behind an append to another one -/
theorem OwnE.grown {α : Type} {enc : α → List Value} {k : Nat} {e : TypeId} {w w' : World} {base : Nat} {v : Value} {l : List α} {row : Option Nat} (h : OwnE enc k e w base v l) (hg : w.grownBy w' row) (hne : ∀ g, row = some g → g < base) : OwnE enc k e w' base v l := by
  obtain ⟨h1, h2⟩ := h
  refine ⟨h1, ?_⟩
  rcases h2 with h2 | ⟨g, cap, cur, e2, hb, hh, r⟩
  · exact Or.inl h2
  · refine Or.inr ⟨g, cap, cur, e2, hb, ?_, r⟩
    rw [hg.block g (blk_lt hh) (fun e => by have := hne g e.symm; omega)]
    exact hh
theorem OwnE.nil {α : Type} {enc : α → List Value} {k : Nat} {e : TypeId} (w : World) (base : Nat) : OwnE enc k e w base (.slice none 0 0) ([] : List α) := ⟨by simp, Or.inl ⟨rfl, rfl⟩⟩

theorem OwnS.grown {w w' : World} {base : Nat} {v : Value} {l : List Pl} {row : Option Nat} (h : OwnS w base v l) (hg : w.grownBy w' row) (hne : ∀ g, row = some g → g < base) : OwnS w' base v l :=
  own_pls (OwnE.grown (enc := encPl) (k := 3) (e := 36) h.row hg hne)
theorem OwnS.alloc {w : World} {base : Nat} {v : Value} {l : List Pl} (h : OwnS w base v l) (o : Obj) : OwnS (w.alloc o) base v l := h.below (Go.Joins.below_alloc1 w o)
theorem OwnS.drew {w : World} {base : Nat} {v : Value} {l : List Pl} (h : OwnS w base v l) : OwnS w.drew base v l := h

theorem SlE.at {α : Type} {enc : α → List Value} {k : Nat} (hk : ∀ x, (enc x).length = k) {w : World} {a : Option Addr} {l : List α} (h : SlE enc w a l) (i : Nat) (hi : i < l.length) :
    ∃ b off, a = some ⟨b, off, none⟩ ∧ b < w.heap.size ∧ w.rangeAt b (off + i * k) (enc l[i]) := by
  rcases h with h | ⟨b, off, ha, hb, hr⟩
  · subst h; simp at hi
  · exact ⟨b, off, ha, hb, elemE hk hr i hi⟩
theorem SlE.take {α : Type} {enc : α → List Value} {w : World} {a : Option Addr} {l : List α} (h : SlE enc w a l) (i : Nat) : SlE enc w a (l.take i) := by
  rcases h with h | ⟨b, off, ha, hb, hr⟩
  · subst h; exact Or.inl (by simp)
  · refine Or.inr ⟨b, off, ha, hb, fun j v hv => hr j v ?_⟩
    have e : l.flatMap enc = (l.take i).flatMap enc ++ (l.drop i).flatMap enc := by rw [← List.flatMap_append, List.take_append_drop]
    rw [e, List.getElem?_append_left (List.getElem?_eq_some_iff.1 hv).1]
    exact hv
theorem SlE.drew {α : Type} {enc : α → List Value} {w : World} {a : Option Addr} {l : List α} (h : SlE enc w a l) : SlE enc w.drew a l := h
theorem SlE.nil {α : Type} {enc : α → List Value} {w : World} {a : Option Addr} : SlE enc w a ([] : List α) := Or.inl rfl

theorem opC_len (o : Mv) : (opC o).length = 7 := rfl
theorem opC_one (o : Mv) : ∀ v ∈ opC o, v.oneCell' = true := by
  intro v hv
  simp [opC] at hv
  rcases hv with rfl | rfl | rfl | rfl | rfl | rfl | rfl <;> rfl
theorem flat_oneE {α : Type} {enc : α → List Value} (h : ∀ x, ∀ v ∈ enc x, v.oneCell' = true) (l : List α) : ∀ v ∈ l.flatMap enc, v.oneCell' = true := by
  intro v hv
  rw [List.mem_flatMap] at hv
  obtain ⟨x, _, hx⟩ := hv
  exact h x v hx

theorem op_cells {w : World} {b o : Nat} {x : Mv} (h : w.rangeAt b o (opC x)) :
    w.cell? ⟨b, o, none⟩ = some (.int .i64 x.1) ∧ w.cell? ⟨b, o + 1, none⟩ = some (.int .i64 x.2.1) ∧ w.cell? ⟨b, o + 2, none⟩ = some (.int .i64 x.2.2.1.1) ∧ w.cell? ⟨b, o + 3, none⟩ = some (.int .i64 x.2.2.1.2.1) ∧ w.cell? ⟨b, o + 4, none⟩ = some (.int .i64 x.2.2.1.2.2) ∧ w.cell? ⟨b, o + 5, none⟩ = some (.int .i64 x.2.2.2.1) ∧ w.cell? ⟨b, o + 6, none⟩ = some (.int .i64 x.2.2.2.2) :=
  ⟨h 0 _ rfl, h 1 _ rfl, h 2 _ rfl, h 3 _ rfl, h 4 _ rfl, h 5 _ rfl, h 6 _ rfl⟩
theorem st_cells {w : World} {b o : Nat} {x : Stp} (h : w.rangeAt b o (stC x)) :
    w.cell? ⟨b, o, none⟩ = some (.int .i64 x.1.1) ∧ w.cell? ⟨b, o + 1, none⟩ = some (.int .i64 x.1.2.1) ∧ w.cell? ⟨b, o + 2, none⟩ = some (.int .i64 x.1.2.2.1.1) ∧ w.cell? ⟨b, o + 3, none⟩ = some (.int .i64 x.1.2.2.1.2.1) ∧ w.cell? ⟨b, o + 4, none⟩ = some (.int .i64 x.1.2.2.1.2.2) ∧ w.cell? ⟨b, o + 5, none⟩ = some (.int .i64 x.1.2.2.2.1) ∧ w.cell? ⟨b, o + 6, none⟩ = some (.int .i64 x.1.2.2.2.2) ∧ w.cell? ⟨b, o + 7, none⟩ = some (.bool x.2.1) ∧ w.cell? ⟨b, o + 8, none⟩ = some (.int .i64 x.2.2.1) ∧ w.cell? ⟨b, o + 9, none⟩ = some (.int .i64 x.2.2.2.1) ∧ w.cell? ⟨b, o + 10, none⟩ = some (.int .i64 x.2.2.2.2) :=
  ⟨h 0 _ rfl, h 1 _ rfl, h 2 _ rfl, h 3 _ rfl, h 4 _ rfl, h 5 _ rfl, h 6 _ rfl, h 7 _ rfl, h 8 _ rfl, h 9 _ rfl, h 10 _ rfl⟩

theorem infoOp : (Try.prog.info? 49).map (fun i => (i.zero, i.size, i.bytes)) = some (some (.agg #[.int .i64 0, .int .i64 0, .int .i64 0, .int .i64 0, .int .i64 0, .int .i64 0, .int .i64 0]), 7, 56) := by kernel_rfl
theorem infoStep : (Try.prog.info? 51).map (fun i => (i.zero, i.size, i.bytes)) = some (some (.agg #[.int .i64 0, .int .i64 0, .int .i64 0, .int .i64 0, .int .i64 0, .int .i64 0, .int .i64 0, .bool false, .int .i64 0, .int .i64 0, .int .i64 0]), 11, 88) := by kernel_rfl
theorem sizeHist : (Try.prog.info? 62).map (·.size) = some 2 := by kernel_rfl
theorem sizeStamp : (Try.prog.info? 47).map (·.size) = some 2 := by kernel_rfl
/-- the next operation is a store of this type -/
theorem at_store {ops : Array Oper} {Q : Exit → Act → World → Prop} {rest : List Oper} {x y : Operand} {t : TypeId} {pos : String} {after : Array Edge} {a : Act} {w : World} (ty : TypeId)
    (h : wpList Try.prog ops Q (⟨none, .store ty x y, t, pos, after, none⟩ :: rest) a w) : wpList Try.prog ops Q (⟨none, .store ty x y, t, pos, after, none⟩ :: rest) a w := h
/-- the value of a history -/
abbrev hiV (x y : Value) : Value := .agg #[x, y]
end Go.Proofs.Ytphameoibnimmaa
