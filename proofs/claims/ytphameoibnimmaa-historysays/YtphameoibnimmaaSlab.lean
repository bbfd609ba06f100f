/- Slices of elements of several cells, whatever they are: how they lie, are owned, sorted, come in. -/
import Derived.Test.YtphameoibnimmaaOwn
import Derived.Deep.MidRow
import Derived.Deep.Slices
import Derived.Deep.Onto
import Derived.Shelf.SlSortFuncK.RowK2
namespace Go.Proofs.Ytphameoibnimmaa
open Go.ChangeShapes Go.WideShapes Go.ChangeAt Go.RowKit

/-- a slice's address holds these elements -/
def SlE {α : Type} (enc : α → List Value) (w : World) (a : Option Addr) (l : List α) : Prop :=
  l = [] ∨ ∃ b off, a = some ⟨b, off, none⟩ ∧ b < w.heap.size ∧ w.rangeAt b off (l.flatMap enc)

theorem SlE.below {α : Type} {enc : α → List Value} {w w' : World} {a : Option Addr} {l : List α} (h : SlE enc w a l) (hb : Below w.heap.size w w') : SlE enc w' a l := by
  rcases h with h | ⟨b, off, ha, hlt, hp⟩
  · exact Or.inl h
  · exact Or.inr ⟨b, off, ha, Nat.lt_of_lt_of_le hlt hb.size, fun j v hv => by rw [hb.cell (by exact hlt)]; exact hp j v hv⟩

theorem flatE_len {α : Type} {enc : α → List Value} {k : Nat} (hk : ∀ x, (enc x).length = k) (l : List α) : (l.flatMap enc).length = l.length * k := by
  induction l with
  | nil => simp
  | cons p l ih => rw [List.flatMap_cons, List.length_append, ih, hk, List.length_cons, Nat.succ_mul]; omega

theorem flatE_get {α : Type} {enc : α → List Value} {k : Nat} (hk : ∀ x, (enc x).length = k) (l : List α) : ∀ i, (hi : i < l.length) → ∀ c, c < k → (l.flatMap enc)[i * k + c]? = (enc l[i])[c]? := by
  induction l with
  | nil => intro i hi; simp at hi
  | cons p l ih =>
    intro i hi c hc
    rw [List.flatMap_cons]
    cases i with
    | zero => rw [Nat.zero_mul, Nat.zero_add, List.getElem?_append_left (by rw [hk]; exact hc)]; rfl
    | succ i =>
      have e : (i + 1) * k + c = (enc p).length + (i * k + c) := by rw [hk, Nat.succ_mul]; omega
      rw [e, List.getElem?_append_right (by omega), Nat.add_sub_cancel_left, ih i (by simpa using hi) c hc]
      rfl

/-- one element of them -/
theorem elemE {α : Type} {enc : α → List Value} {k : Nat} (hk : ∀ x, (enc x).length = k) {w : World} {b off : Nat} {l : List α} (h : w.rangeAt b off (l.flatMap enc)) (i : Nat) (hi : i < l.length) : w.rangeAt b (off + i * k) (enc l[i]) := by
  intro c v hv
  have hc : c < k := by rw [← hk l[i]]; exact (List.getElem?_eq_some_iff.1 hv).1
  have := h (i * k + c) v (by rw [flatE_get hk l i hi c hc]; exact hv)
  rw [Nat.add_assoc]
  exact this

/-- an own row, as an address -/
theorem own_slE {α : Type} {enc : α → List Value} {k : Nat} {w : World} {base : Nat} {e : TypeId} {v : Value} {l : List α} (h : w.ownsRow base e k v l.length (l.flatMap enc)) :
    ∃ a cap, v = .slice a l.length cap ∧ SlE enc w a l ∧ (a = none ∨ ∃ g, a = some ⟨g, 0, none⟩ ∧ base ≤ g ∧ g < w.heap.size) := by
  obtain ⟨h1, h2⟩ := h
  rcases h2 with ⟨rfl, hn⟩ | ⟨g, cap, cur, rfl, hb, hh, hn, hm, hs, ht⟩
  · have : l = [] := List.length_eq_zero_iff.1 hn
    subst this
    exact ⟨none, 0, rfl, Or.inl rfl, Or.inl rfl⟩
  · refine ⟨_, cap, rfl, Or.inr ⟨g, 0, rfl, blk_lt hh, fun j v hv => ?_⟩, Or.inr ⟨g, rfl, hb, blk_lt hh⟩⟩
    rw [← ht] at hv
    rw [Go.Joins.cell_of_block hh, Nat.zero_add]
    rw [List.getElem?_take] at hv
    split at hv
    · simpa using hv
    · simp at hv

theorem own_readE {α : Type} {enc : α → List Value} {k : Nat} {w : World} {base n c : Nat} {e : TypeId} {a : Option Addr} {l : List α} (h : w.ownsRow base e k (.slice a n c) l.length (l.flatMap enc)) : SlE enc w a l := by
  obtain ⟨a', c', e', h', _⟩ := own_slE h
  obtain ⟨rfl, _⟩ : a = a' ∧ _ := by simpa using e'
  exact h'

/-- a row of cells that was read -/
theorem cells_range {w : World} {base n : Nat} {a : Addr} {cs : List Value} (h : w.cells? base a n = some cs) : cs.length = n ∧ ∀ (j : Nat) (v : Value), cs[j]? = some v → w.cell? (a.add j) = some v := by
  unfold World.cells? at h
  split at h
  · have key : ∀ (f : Nat → Option Value) (r : List Nat) (cs : List Value), r.mapM f = some cs → cs.length = r.length ∧ ∀ (j : Nat) (v : Value), cs[j]? = some v → ∃ i : Nat, r[j]? = some i ∧ f i = some v := by
      intro f r
      induction r with
      | nil => intro cs h; simp at h; subst h; exact ⟨rfl, by intro j v hv; simp at hv⟩
      | cons i r ih =>
        intro cs h
        rw [List.mapM_cons] at h
        cases h0 : f i with
        | none => simp [h0] at h
        | some x =>
          cases h1 : r.mapM f with
          | none => simp [h0, h1] at h
          | some t =>
            simp [h0, h1] at h
            subst h
            obtain ⟨hl, hg⟩ := ih t h1
            refine ⟨by simp [hl], ?_⟩
            intro j v hv
            cases j with
            | zero => simp at hv; subst hv; exact ⟨i, rfl, h0⟩
            | succ j => exact hg j v (by simpa using hv)
    obtain ⟨hl, hg⟩ := key _ _ _ h
    refine ⟨by simpa using hl, fun j v hv => ?_⟩
    obtain ⟨i, hi, hf⟩ := hg j v hv
    have : i = j := by
      rw [List.getElem?_eq_some_iff] at hi
      obtain ⟨h1, h2⟩ := hi
      simp at h2
      exact h2.symm
    subst this
    exact hf
  · simp at h

/-- a slice of such elements that came in -/
theorem open_slE {α : Type} [Inhabited α] {enc : α → List Value} {k : Nat} {H : Type} {en : TypeId × Value → H} {w : World} {base fuel : Nat} {spare : Nat → Bool} {held : Bool} {v : Value} {x : DataW H × List MemPlace} {t e : TypeId}
    (hk : ∀ x, (enc x).length = k) (hpos : 0 < k) (ht : Try.prog.underlying t = some (.slice e)) (hC : Try.prog.cellsOf e = k)
    (hel : ∀ (n : Nat) (cs : List Value) (y : DataW H × List MemPlace), DataW.trod en Try.prog w base spare held n e cs = some y → ∃ z : α, cs = enc z)
    (h : DataW.trod en Try.prog w base spare held fuel t [v] = some x) : ∃ a c, ∃ l : List α, v = .slice a l.length c ∧ l.length ≤ maxLen ∧ SlE enc w a l := by
  rcases Go.Deep.open_slice ht h with ⟨hcs, _⟩ | ⟨a, len, cap, m, n, D, Pq, hcs, _, hle, hm, hmm, _, hx⟩
  · simp at hcs
    subst hcs
    exact ⟨none, 0, [], rfl, by simp, Or.inl rfl⟩
  · simp at hcs
    subst hcs
    have hlm : len ≤ m := by rw [hmm]; split <;> omega
    have key : ∀ i, i < len → ∃ z : α, ∀ (j : Nat) (v : Value), (enc z)[j]? = some v → w.cell? ((a.add (i * k)).add j) = some v := by
      intro i hi
      obtain ⟨cs', h1, h2⟩ := hx i (by omega)
      rw [hC] at h1
      obtain ⟨z, rfl⟩ := hel _ _ _ h2
      exact ⟨z, (cells_range h1).2⟩
    obtain ⟨f, hf⟩ := Go.Deep.choose_lt key
    refine ⟨some a, cap, (List.range len).map f, by simp, by simp; omega, ?_⟩
    by_cases hz : len = 0
    · exact Or.inl (by simp [hz])
    · right
      obtain ⟨u, hu⟩ : ∃ u, (enc (f 0))[0]? = some u := ⟨_, List.getElem?_eq_getElem (by rw [hk]; exact hpos)⟩
      have h0 := hf 0 (by omega) 0 u hu
      obtain ⟨b, off, spot⟩ := a
      have hspot : spot = none := by simpa [Addr.add] using World.cell?_spot h0
      subst hspot
      have hb : b < w.heap.size := by
        have := World.block_lt_of_cell? w _ h0
        rw [Addr.add_mid, Addr.add_mid] at this
        exact this
      refine ⟨b, off, rfl, hb, fun j v hv => ?_⟩
      have hj : j < len * k := by
        have := (List.getElem?_eq_some_iff.1 hv).1
        rw [flatE_len hk] at this
        simpa using this
      have hi : j / k < len := (Nat.div_lt_iff_lt_mul hpos).2 hj
      have hc : j % k < k := Nat.mod_lt _ hpos
      have e1 : j / k * k + j % k = j := by rw [Nat.mul_comm]; exact Nat.div_add_mod j k
      have e2 := flatE_get hk ((List.range len).map f) (j / k) (by simpa using hi) (j % k) hc
      rw [e1, hv] at e2
      have e3 := hf (j / k) hi (j % k) v (by simpa using e2.symm)
      rw [Addr.add_mid, Addr.add_mid] at e3
      rw [show off + j = off + j / k * k + j % k by omega]
      exact e3

/-- an own row, for the library's sort -/
theorem own_holdsK {α : Type} [Inhabited α] {enc : α → List Value} {k : Nat} (hk : ∀ x, (enc x).length = k) (hpos : 0 < k) {w : World} {base g cap : Nat} {e : TypeId} {l : List α} (h : w.ownsRow base e k (.slice (some ⟨g, 0, none⟩) l.length cap) l.length (l.flatMap enc)) :
    Go.Sort.HoldsK enc k w g 0 l.toArray := by
  intro j hj
  rw [Go.Sort.size_flatK] at hj
  have hj' : j < l.length * k := by simpa using hj
  have hi : j / k < l.length := (Nat.div_lt_iff_lt_mul hpos).2 hj'
  have hc : j % k < k := Nat.mod_lt _ hpos
  have e1 : j / k * k + j % k = j := by rw [Nat.mul_comm]; exact Nat.div_add_mod j k
  rw [Go.Sort.get_flatK _ _ _ _ (by simpa using hj')]
  have e : l.toArray[j / k]! = l[j / k] := by simp [hi]
  rw [e]
  have h1 := h.cellAt j hj'
  have h2 := h.frozenAt j
  have e2 := flatE_get hk l (j / k) hi (j % k) hc
  rw [e1] at e2
  rw [e2] at h1
  refine ⟨?_, by rw [Nat.zero_add]; exact h2⟩
  rw [Nat.zero_add, h1, List.getElem?_eq_getElem (by rw [hk]; exact hc)]
  simp [hk, hc]
end Go.Proofs.Ytphameoibnimmaa
