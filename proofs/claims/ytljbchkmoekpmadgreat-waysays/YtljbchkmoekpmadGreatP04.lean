/- 8 texts of the proof: Slices of places in memory of the call's own. Slices of elements of several cells, whatever they are: how they lie, are owned, sorted, come in. Blocks of the call's own, cell by cell: what they hold behind calls and stores. tree.Find: the first place of a node, or the zero place. tree's small functions: inRange, isNode, and the closures that Check and Under hand to meets. tree.meets: from one pare -/
import Derived.Lib.SliceRun
import Derived.Deep.MidRow
import Derived.Deep.Slices
import Derived.Deep.Onto
import Derived.Shelf.SlSortFuncK.RowK2
import Derived.Test.YtljbchkmoekpmadGreatP03
/- Slices of places in memory of the call's own. -/
namespace Go.Proofs.YtljbchkmoekpmadGreat
open Go.ChangeShapes Go.WideShapes Go.ChangeAt Go.RowKit
open Orangery (Pl)

def encPl (p : Pl) : List Value := [.int .i64 p.1, .int .i64 p.2.1, .int .i64 p.2.2]

/-- places from a block's head on, that may be written -/
def HoldsP (w : World) (g : Nat) (m : List Pl) : Prop :=
  PlsAt w g 0 m ∧ ∀ i, i < m.length * 3 → w.frozen? ⟨g, i, none⟩ = false

/-- a block is a row of places with so much room -/
def RowAt (w : World) (g cap : Nat) : Prop := ∃ cur, w.heap[g]? = some (.cells cur 64 (0, 0)) ∧ cur.size = cap * 3

theorem RowAt.below {w w' : World} {g cap B : Nat} (h : RowAt w g cap) (hb : Below B w w') (hg : g < B) : RowAt w' g cap := by
  obtain ⟨cur, h1, h2⟩ := h
  exact ⟨cur, by rw [hb.block g hg]; exact h1, h2⟩

theorem RowAt.set {w : World} {g cap : Nat} (h : RowAt w g cap) (b j : Nat) (v : Value) : RowAt (w.setCell ⟨b, j, none⟩ v) g cap := by
  obtain ⟨cur, h1, h2⟩ := h
  by_cases hb : g = b
  · subst hb
    exact ⟨_, heap_setCell_same w g j cur _ v h1, by simpa using h2⟩
  · exact ⟨cur, by rw [heap_setCell_other w ⟨b, j, none⟩ g v hb]; exact h1, h2⟩

theorem RowAt.sets {g cap : Nat} (b : Nat) : ∀ (vs : List Value) (o : Nat) (w : World), RowAt w g cap → RowAt (w.setCells b o vs) g cap
  | [], _, _, h => h
  | v :: r, o, _, h => RowAt.sets b r (o + 1) _ (h.set b o v)

/-- a slice of the call's own -/
def OwnS (w : World) (base : Nat) (v : Value) (l : List Pl) : Prop :=
  (v = .slice none 0 0 ∧ l = []) ∨ ∃ g cap, v = .slice (some ⟨g, 0, none⟩) l.length cap ∧ base ≤ g ∧ g < w.heap.size ∧ l.length ≤ cap ∧ cap ≤ maxLen ∧ HoldsP w g l ∧ RowAt w g cap

theorem flat_len (l : List Pl) : (l.flatMap encPl).length = l.length * 3 := by
  induction l with
  | nil => rfl
  | cons p l ih => simp [List.flatMap_cons, ih, encPl]; omega

theorem flat_get (l : List Pl) : ∀ i, (h : i < l.length) → (l.flatMap encPl)[i * 3]? = some (.int .i64 l[i].1) ∧ (l.flatMap encPl)[i * 3 + 1]? = some (.int .i64 l[i].2.1) ∧ (l.flatMap encPl)[i * 3 + 2]? = some (.int .i64 l[i].2.2) := by
  induction l with
  | nil => intro i h; simp at h
  | cons p l ih =>
    intro i h
    cases i with
    | zero => simp [List.flatMap_cons, encPl]
    | succ i =>
      have := ih i (by simpa using h)
      rw [List.flatMap_cons]
      have e : ∀ j, (encPl p ++ l.flatMap encPl)[(i + 1) * 3 + j]? = (l.flatMap encPl)[i * 3 + j]? := by
        intro j
        rw [List.getElem?_append_right (by simp [encPl]; omega)]
        congr 1
        simp [encPl]
        omega
      have e0 := e 0
      simp only [Nat.add_zero] at e0
      rw [e0, e 1, e 2]
      simpa using this

theorem flat_one (l : List Pl) : ∀ v ∈ l.flatMap encPl, v.oneCell' = true := by
  intro v hv
  simp [encPl] at hv
  obtain ⟨_, _, _, _, rfl | rfl | rfl⟩ := hv <;> rfl

theorem pls_flat {w : World} {b off : Nat} {l : List Pl} (h : PlsAt w b off l) : ∀ j u, (l.flatMap encPl)[j]? = some u → w.cell? ((⟨b, off, none⟩ : Addr).add j) = some u := by
  intro j u hj
  have hlt : j < l.length * 3 := by
    rw [← flat_len]
    rcases Nat.lt_or_ge j (l.flatMap encPl).length with h' | h'
    · exact h'
    · rw [List.getElem?_eq_none h'] at hj; simp at hj
  have hi : j / 3 < l.length := by omega
  have hc := h (j / 3) hi
  have hg := flat_get l (j / 3) hi
  have ha : (⟨b, off, none⟩ : Addr).add j = ⟨b, off + j, none⟩ := by unfold Addr.add; by_cases hz : j = 0 <;> simp [hz]
  rw [ha]
  have hm : j % 3 = 0 ∨ j % 3 = 1 ∨ j % 3 = 2 := by omega
  rcases hm with hm | hm | hm
  · have e : j = j / 3 * 3 := by omega
    have e2 : off + j = off + j / 3 * 3 := by omega
    rw [e2, hc.1]
    rw [e, hg.1] at hj
    exact hj
  · have e : j = j / 3 * 3 + 1 := by omega
    have e2 : off + j = off + j / 3 * 3 + 1 := by omega
    rw [e2, hc.2.1]
    rw [e, hg.2.1] at hj
    exact hj
  · have e : j = j / 3 * 3 + 2 := by omega
    have e2 : off + j = off + j / 3 * 3 + 2 := by omega
    rw [e2, hc.2.2]
    rw [e, hg.2.2] at hj
    exact hj

theorem own_pls {w : World} {base : Nat} {v : Value} {l : List Pl} (h : w.ownsRow base 64 3 v l.length (l.flatMap encPl)) : OwnS w base v l := by
  obtain ⟨h1, h2⟩ := h
  rcases h2 with ⟨hv, hn⟩ | ⟨g, cap, cur, hv, hb, hh, hn, hm, hs, ht⟩
  · exact Or.inl ⟨hv, List.length_eq_zero_iff.1 hn⟩
  · refine Or.inr ⟨g, cap, hv, hb, blk_lt hh, hn, hm, ⟨?_, ?_⟩, cur, hh, hs⟩
    · intro i hi
      have hg := flat_get l i hi
      rw [← ht] at hg
      have key : ∀ j u, (cur.toList.take (l.length * 3))[j]? = some u → w.cell? ⟨g, 0 + j, none⟩ = some u := by
        intro j u hj
        rw [Go.Joins.cell_of_block hh, Nat.zero_add]
        rw [List.getElem?_take] at hj
        split at hj
        · simpa using hj
        · simp at hj
      have k0 := key _ _ hg.1
      have k1 := key _ _ hg.2.1
      have k2 := key _ _ hg.2.2
      rw [← Nat.add_assoc] at k1 k2
      exact ⟨k0, k1, k2⟩
    · intro i _
      exact Go.Joins.unfrozen_of_block hh i

theorem OwnS.slp {w : World} {base : Nat} {v : Value} {l : List Pl} (h : OwnS w base v l) : ∃ a cap, v = .slice a l.length cap ∧ SlP w a l := by
  rcases h with ⟨rfl, rfl⟩ | ⟨g, cap, rfl, _, hg, _, _, hp, _⟩
  · exact ⟨none, 0, rfl, Or.inl rfl⟩
  · exact ⟨_, cap, rfl, Or.inr ⟨g, 0, rfl, hg, hp.1⟩⟩

theorem OwnS.read {w : World} {base : Nat} {a : Option Addr} {n c : Nat} {l : List Pl} (h : OwnS w base (.slice a n c) l) : SlP w a l := by
  obtain ⟨a', c', e, h'⟩ := h.slp
  obtain ⟨rfl, _⟩ : a = a' ∧ _ := by simpa using e
  exact h'
theorem OwnS.below {w w' : World} {base : Nat} {v : Value} {l : List Pl} (h : OwnS w base v l) (hb : Below w.heap.size w w') : OwnS w' base v l := by
  rcases h with h | ⟨g, cap, rfl, h1, hg, h2, h3, ⟨hp, hf⟩, hr⟩
  · exact Or.inl h
  · refine Or.inr ⟨g, cap, rfl, h1, Nat.lt_of_lt_of_le hg hb.size, h2, h3, ⟨fun i hi => ?_, fun i hi => ?_⟩, hr.below hb hg⟩
    · rw [hb.cell hg, hb.cell hg, hb.cell hg]; exact hp i hi
    · rw [hb.frozen hg]; exact hf i hi

/-- an own slice, for an append -/
theorem OwnS.row {w : World} {base : Nat} {v : Value} {l : List Pl} (h : OwnS w base v l) : w.ownsRow base 64 3 v l.length (l.flatMap encPl) := by
  refine ⟨flat_len l, ?_⟩
  rcases h with ⟨rfl, rfl⟩ | ⟨g, cap, rfl, h1, hg, h2, h3, hp, cur, hc, hs⟩
  · exact Or.inl ⟨rfl, rfl⟩
  · refine Or.inr ⟨g, cap, cur, rfl, h1, hc, h2, h3, hs, ?_⟩
    have h4 := pls_flat hp.1
    apply List.ext_getElem?
    intro j
    by_cases hj : j < l.length * 3
    · obtain ⟨u, hu⟩ : ∃ u, (l.flatMap encPl)[j]? = some u := ⟨_, List.getElem?_eq_getElem (by rw [flat_len]; exact hj)⟩
      have h5 := h4 j u hu
      have ha : (⟨g, 0, none⟩ : Addr).add j = ⟨g, j, none⟩ := by unfold Addr.add; by_cases hz : j = 0 <;> simp [hz]
      rw [ha, Go.Joins.cell_of_block hc] at h5
      rw [List.getElem?_take_of_lt hj, hu]
      simpa using h5
    · rw [List.getElem?_eq_none (by simp; omega), List.getElem?_eq_none (by rw [flat_len]; omega)]

theorem infoPlace : (Tryz.prog.info? 64).map (fun i => (i.zero, i.size, i.bytes)) = some (some (.agg #[.int .i64 0, .int .i64 0, .int .i64 0]), 3, 24) := by kernel_rfl

set_option maxHeartbeats 1000000 in
theorem clone_any (w : World) (a : Option Addr) (c : Nat) (l : List Pl) (hl : l.length ≤ 1000) (h : SlP w a l) :
    Calls Tryz.prog 88 #[.slice a l.length c] w
      fun e w' => ∃ v, e = .returned v ∧ OwnS w' w.heap.size v l ∧ Below w.heap.size w w' := by
  obtain ⟨i0, hi, hz0, hz1, hz2⟩ := info_parts infoPlace
  have hq := fun (W : World) (a : Option Addr) (n c : Nat) => Lib.run_eql_slice_nil (P := Tryz.prog) W 23 64 a n c 0 0 Tryz.underlying23
  cases a with
  | none =>
    have hl0 : l = [] := by
      rcases h with h | ⟨b, off, h, _⟩
      · exact h
      · simp at h
    subst hl0
    go_enter Tryz.func88, Tryz.ntmps88
    go_wp2
    go_ret
    exact ⟨_, rfl, Or.inl ⟨rfl, rfl⟩, Below.refl _ _⟩
  | some ad =>
    have hB := Go.Joins.below_alloc1 w (Obj.cells #[] 64)
    have hP := h.below hB
    have hown : (w.alloc (Obj.cells #[] 64)).ownsRow w.heap.size 64 3 (.slice (some ⟨w.heap.size, 0, none⟩) 0 0) 0 [] :=
      ⟨rfl, Or.inr ⟨w.heap.size, 0, #[], rfl, Nat.le_refl _, blk_new rfl, Nat.le_refl _, by unfold maxLen; omega, rfl, rfl⟩⟩
    have hnews : ∀ j u, (l.flatMap encPl)[j]? = some u → (w.alloc (Obj.cells #[] 64)).cell? (ad.add j) = some u := by
      rcases hP with hP | ⟨b, off, ha, _, hp⟩
      · intro j u hj; subst hP; simp at hj
      · simp at ha
        subst ha
        exact pls_flat hp
    have HP : Hid (SlP w (some ad) l) := h
    have HN : Hid (∀ j u, (l.flatMap encPl)[j]? = some u → (w.alloc (Obj.cells #[] 64)).cell? (ad.add j) = some u) := hnews
    clear hP h hnews
    go_enter Tryz.func88, Tryz.ntmps88
    go_wp2_with (at_builtin; refine wpList_append_own _ rfl _ _ 23 rfl w.heap.size 64 i0 _ 3 24 Tryz.underlying23 hi hz0 hz1 hz2 rfl (by decide) _ _ _ rfl hown ad l.length c (l.flatMap encPl) rfl (flat_len l) ?c1 ?c2 ?c3 ?c4 ?c5 ?_)
    case c1 => exact HN.out
    case c2 => exact flat_one l
    case c3 => unfold maxLen; omega
    case c4 => omega
    case c5 => exact hB.size
    · intro v' w1 hown' hgrow _
      have hb1 := hB.trans (below_grown hown hB.size hgrow)
      have hO : OwnS w1 w.heap.size v' l := own_pls (by simpa using hown')
      clear hgrow hown hown'
      go_wp2
      go_ret
      exact ⟨_, rfl, hO, hb1⟩
end Go.Proofs.YtljbchkmoekpmadGreat

/- Slices of elements of several cells, whatever they are: how they lie, are owned, sorted, come in. -/
namespace Go.Proofs.YtljbchkmoekpmadGreat
open Go.ChangeShapes Go.WideShapes Go.ChangeAt Go.RowKit

/-- a slice's address holds these elements -/
def SlE {α : Type} (enc : α → List Value) (w : World) (a : Option Addr) (l : List α) : Prop :=
  l = [] ∨ ∃ b off, a = some ⟨b, off, none⟩ ∧ b < w.heap.size ∧ w.rangeAt b off (l.flatMap enc)

theorem SlE.below {α : Type} {enc : α → List Value} {w w' : World} {a : Option Addr} {l : List α} (h : SlE enc w a l) (hb : Below w.heap.size w w') : SlE enc w' a l := by
  rcases h with h | ⟨b, off, ha, hlt, hp⟩
  · exact Or.inl h
  · exact Or.inr ⟨b, off, ha, Nat.lt_of_lt_of_le hlt hb.size, fun j v hv => by rw [hb.cell (by exact hlt)]; exact hp j v hv⟩

theorem flatE_len {α : Type} {enc : α → List Value} {k : Nat} (hk : ∀ x, (enc x).length = k) (l : List α) : (l.flatMap enc).length = l.length * k := by
  induction l with
  | nil => simp
  | cons p l ih => rw [List.flatMap_cons, List.length_append, ih, hk, List.length_cons, Nat.succ_mul]; omega

theorem flatE_get {α : Type} {enc : α → List Value} {k : Nat} (hk : ∀ x, (enc x).length = k) (l : List α) : ∀ i, (hi : i < l.length) → ∀ c, c < k → (l.flatMap enc)[i * k + c]? = (enc l[i])[c]? := by
  induction l with
  | nil => intro i hi; simp at hi
  | cons p l ih =>
    intro i hi c hc
    rw [List.flatMap_cons]
    cases i with
    | zero => rw [Nat.zero_mul, Nat.zero_add, List.getElem?_append_left (by rw [hk]; exact hc)]; rfl
    | succ i =>
      have e : (i + 1) * k + c = (enc p).length + (i * k + c) := by rw [hk, Nat.succ_mul]; omega
      rw [e, List.getElem?_append_right (by omega), Nat.add_sub_cancel_left, ih i (by simpa using hi) c hc]
      rfl

/-- one element of them -/
theorem elemE {α : Type} {enc : α → List Value} {k : Nat} (hk : ∀ x, (enc x).length = k) {w : World} {b off : Nat} {l : List α} (h : w.rangeAt b off (l.flatMap enc)) (i : Nat) (hi : i < l.length) : w.rangeAt b (off + i * k) (enc l[i]) := by
  intro c v hv
  have hc : c < k := by rw [← hk l[i]]; exact (List.getElem?_eq_some_iff.1 hv).1
  have := h (i * k + c) v (by rw [flatE_get hk l i hi c hc]; exact hv)
  rw [Nat.add_assoc]
  exact this

/-- an own row, as an address -/
theorem own_slE {α : Type} {enc : α → List Value} {k : Nat} {w : World} {base : Nat} {e : TypeId} {v : Value} {l : List α} (h : w.ownsRow base e k v l.length (l.flatMap enc)) :
    ∃ a cap, v = .slice a l.length cap ∧ SlE enc w a l ∧ (a = none ∨ ∃ g, a = some ⟨g, 0, none⟩ ∧ base ≤ g ∧ g < w.heap.size) := by
  obtain ⟨h1, h2⟩ := h
  rcases h2 with ⟨rfl, hn⟩ | ⟨g, cap, cur, rfl, hb, hh, hn, hm, hs, ht⟩
  · have : l = [] := List.length_eq_zero_iff.1 hn
    subst this
    exact ⟨none, 0, rfl, Or.inl rfl, Or.inl rfl⟩
  · refine ⟨_, cap, rfl, Or.inr ⟨g, 0, rfl, blk_lt hh, fun j v hv => ?_⟩, Or.inr ⟨g, rfl, hb, blk_lt hh⟩⟩
    rw [← ht] at hv
    rw [Go.Joins.cell_of_block hh, Nat.zero_add]
    rw [List.getElem?_take] at hv
    split at hv
    · simpa using hv
    · simp at hv

theorem own_readE {α : Type} {enc : α → List Value} {k : Nat} {w : World} {base n c : Nat} {e : TypeId} {a : Option Addr} {l : List α} (h : w.ownsRow base e k (.slice a n c) l.length (l.flatMap enc)) : SlE enc w a l := by
  obtain ⟨a', c', e', h', _⟩ := own_slE h
  obtain ⟨rfl, _⟩ : a = a' ∧ _ := by simpa using e'
  exact h'

/-- a row of cells that was read -/
theorem cells_range {w : World} {base n : Nat} {a : Addr} {cs : List Value} (h : w.cells? base a n = some cs) : cs.length = n ∧ ∀ (j : Nat) (v : Value), cs[j]? = some v → w.cell? (a.add j) = some v := by
  unfold World.cells? at h
  split at h
  · have key : ∀ (f : Nat → Option Value) (r : List Nat) (cs : List Value), r.mapM f = some cs → cs.length = r.length ∧ ∀ (j : Nat) (v : Value), cs[j]? = some v → ∃ i : Nat, r[j]? = some i ∧ f i = some v := by
      intro f r
      induction r with
      | nil => intro cs h; simp at h; subst h; exact ⟨rfl, by intro j v hv; simp at hv⟩
      | cons i r ih =>
        intro cs h
        rw [List.mapM_cons] at h
        cases h0 : f i with
        | none => simp [h0] at h
        | some x =>
          cases h1 : r.mapM f with
          | none => simp [h0, h1] at h
          | some t =>
            simp [h0, h1] at h
            subst h
            obtain ⟨hl, hg⟩ := ih t h1
            refine ⟨by simp [hl], ?_⟩
            intro j v hv
            cases j with
            | zero => simp at hv; subst hv; exact ⟨i, rfl, h0⟩
            | succ j => exact hg j v (by simpa using hv)
    obtain ⟨hl, hg⟩ := key _ _ _ h
    refine ⟨by simpa using hl, fun j v hv => ?_⟩
    obtain ⟨i, hi, hf⟩ := hg j v hv
    have : i = j := by
      rw [List.getElem?_eq_some_iff] at hi
      obtain ⟨h1, h2⟩ := hi
      simp at h2
      exact h2.symm
    subst this
    exact hf
  · simp at h

/-- a slice of such elements that came in -/
theorem open_slE {α : Type} [Inhabited α] {enc : α → List Value} {k : Nat} {H : Type} {en : TypeId × Value → H} {w : World} {base fuel : Nat} {spare : Nat → Bool} {held : Bool} {v : Value} {x : DataW H × List MemPlace} {t e : TypeId}
    (hk : ∀ x, (enc x).length = k) (hpos : 0 < k) (ht : Tryz.prog.underlying t = some (.slice e)) (hC : Tryz.prog.cellsOf e = k)
    (hel : ∀ (n : Nat) (cs : List Value) (y : DataW H × List MemPlace), DataW.trod en Tryz.prog w base spare held n e cs = some y → ∃ z : α, cs = enc z)
    (h : DataW.trod en Tryz.prog w base spare held fuel t [v] = some x) : ∃ a c, ∃ l : List α, v = .slice a l.length c ∧ l.length ≤ maxLen ∧ SlE enc w a l := by
  rcases Go.Deep.open_slice ht h with ⟨hcs, _⟩ | ⟨a, len, cap, m, n, D, Pq, hcs, _, hle, hm, hmm, _, hx⟩
  · simp at hcs
    subst hcs
    exact ⟨none, 0, [], rfl, by simp, Or.inl rfl⟩
  · simp at hcs
    subst hcs
    have hlm : len ≤ m := by rw [hmm]; split <;> omega
    have key : ∀ i, i < len → ∃ z : α, ∀ (j : Nat) (v : Value), (enc z)[j]? = some v → w.cell? ((a.add (i * k)).add j) = some v := by
      intro i hi
      obtain ⟨cs', h1, h2⟩ := hx i (by omega)
      rw [hC] at h1
      obtain ⟨z, rfl⟩ := hel _ _ _ h2
      exact ⟨z, (cells_range h1).2⟩
    obtain ⟨f, hf⟩ := Go.Deep.choose_lt key
    refine ⟨some a, cap, (List.range len).map f, by simp, by simp; omega, ?_⟩
    by_cases hz : len = 0
    · exact Or.inl (by simp [hz])
    · right
      obtain ⟨u, hu⟩ : ∃ u, (enc (f 0))[0]? = some u := ⟨_, List.getElem?_eq_getElem (by rw [hk]; exact hpos)⟩
      have h0 := hf 0 (by omega) 0 u hu
      obtain ⟨b, off, spot⟩ := a
      have hspot : spot = none := by simpa [Addr.add] using World.cell?_spot h0
      subst hspot
      have hb : b < w.heap.size := by
        have := World.block_lt_of_cell? w _ h0
        rw [Addr.add_mid, Addr.add_mid] at this
        exact this
      refine ⟨b, off, rfl, hb, fun j v hv => ?_⟩
      have hj : j < len * k := by
        have := (List.getElem?_eq_some_iff.1 hv).1
        rw [flatE_len hk] at this
        simpa using this
      have hi : j / k < len := (Nat.div_lt_iff_lt_mul hpos).2 hj
      have hc : j % k < k := Nat.mod_lt _ hpos
      have e1 : j / k * k + j % k = j := by rw [Nat.mul_comm]; exact Nat.div_add_mod j k
      have e2 := flatE_get hk ((List.range len).map f) (j / k) (by simpa using hi) (j % k) hc
      rw [e1, hv] at e2
      have e3 := hf (j / k) hi (j % k) v (by simpa using e2.symm)
      rw [Addr.add_mid, Addr.add_mid] at e3
      rw [show off + j = off + j / k * k + j % k by omega]
      exact e3

/-- an own row, for the library's sort -/
theorem own_holdsK {α : Type} [Inhabited α] {enc : α → List Value} {k : Nat} (hk : ∀ x, (enc x).length = k) (hpos : 0 < k) {w : World} {base g cap : Nat} {e : TypeId} {l : List α} (h : w.ownsRow base e k (.slice (some ⟨g, 0, none⟩) l.length cap) l.length (l.flatMap enc)) :
    Go.Sort.HoldsK enc k w g 0 l.toArray := by
  intro j hj
  rw [Go.Sort.size_flatK] at hj
  have hj' : j < l.length * k := by simpa using hj
  have hi : j / k < l.length := (Nat.div_lt_iff_lt_mul hpos).2 hj'
  have hc : j % k < k := Nat.mod_lt _ hpos
  have e1 : j / k * k + j % k = j := by rw [Nat.mul_comm]; exact Nat.div_add_mod j k
  rw [Go.Sort.get_flatK _ _ _ _ (by simpa using hj')]
  have e : l.toArray[j / k]! = l[j / k] := by simp [hi]
  rw [e]
  have h1 := h.cellAt j hj'
  have h2 := h.frozenAt j
  have e2 := flatE_get hk l (j / k) hi (j % k) hc
  rw [e1] at e2
  rw [e2] at h1
  refine ⟨?_, by rw [Nat.zero_add]; exact h2⟩
  rw [Nat.zero_add, h1, List.getElem?_eq_getElem (by rw [hk]; exact hc)]
  simp [hk, hc]
end Go.Proofs.YtljbchkmoekpmadGreat

/- Blocks of the call's own, cell by cell: what they hold behind calls and stores. -/
namespace Go.Proofs.YtljbchkmoekpmadGreat
open Go.ChangeShapes Go.WideShapes Go.ChangeAt Go.RowKit

/-- a block holds these cells, and may be written -/
def Blk (w : World) (b : Nat) (vs : List Value) : Prop :=
  b < w.heap.size ∧ (∀ j, w.frozen? ⟨b, j, none⟩ = false) ∧ ∀ i v, vs[i]? = some v → w.cell? ⟨b, i, none⟩ = some v

theorem Blk.lt {w : World} {b : Nat} {vs : List Value} (h : Blk w b vs) : b < w.heap.size := h.1
theorem Blk.frz {w : World} {b : Nat} {vs : List Value} (h : Blk w b vs) (j : Nat) : w.frozen? ⟨b, j, none⟩ = false := h.2.1 j
theorem Blk.at {w : World} {b : Nat} {vs : List Value} (h : Blk w b vs) (i : Nat) {v : Value} (e : vs[i]? = some v) : w.cell? ⟨b, i, none⟩ = some v := h.2.2 i v e

theorem Blk.below {w w' : World} {b B : Nat} {vs : List Value} (h : Blk w b vs) (hb : Below B w w') (hB : b < B) : Blk w' b vs :=
  ⟨Nat.lt_of_lt_of_le h.1 hb.size, fun j => by rw [hb.frozen (by exact hB)]; exact h.2.1 j, fun i v e => by rw [hb.cell (by exact hB)]; exact h.2.2 i v e⟩

theorem Blk.keep {w w' : World} {b : Nat} {vs : List Value} (h : Blk w b vs) (hb : Below w.heap.size w w') : Blk w' b vs := h.below hb h.1

theorem Blk.new (w : World) (vs : List Value) (t : TypeId) : Blk (w.alloc (Obj.cells vs.toArray t)) w.heap.size vs := by
  refine ⟨by simp, fun j => by simp, fun i v e => ?_⟩
  have hh : (w.alloc (Obj.cells vs.toArray t)).heap[w.heap.size]? = some (Obj.cells vs.toArray t) := blk_new rfl
  rw [Go.Joins.cell_of_block hh]
  simpa using e

theorem Blk.alloc {w : World} {b : Nat} {vs : List Value} (h : Blk w b vs) (o : Obj) : Blk (w.alloc o) b vs := h.keep (Go.Joins.below_alloc1 w o)

theorem Blk.drew {w : World} {b : Nat} {vs : List Value} (h : Blk w b vs) : Blk w.drew b vs := h

theorem Blk.other {w : World} {b g : Nat} {vs : List Value} (h : Blk w b vs) (hne : b ≠ g) (j : Nat) (v : Value) : Blk (w.setCell ⟨g, j, none⟩ v) b vs :=
  ⟨by simpa using h.1, fun i => by simp only [World.frozen?_setCell]; exact h.2.1 i, fun i u e => by
    rw [World.cell?_setCell_other _ _ _ _ (by simp <;> omega)]; exact h.2.2 i u e⟩

theorem Blk.others {w : World} {b g : Nat} {vs : List Value} (h : Blk w b vs) (hne : b ≠ g) : ∀ (us : List Value) (o : Nat), Blk (w.setCells g o us) b vs := by
  intro us
  induction us generalizing w with
  | nil => intro o; exact h
  | cons u us ih => intro o; exact ih (h.other hne o u) (o + 1)

/-- one cell set -/
theorem Blk.set {w : World} {b : Nat} {vs : List Value} (h : Blk w b vs) (j : Nat) (hj : j < vs.length) (v : Value) : Blk (w.setCell ⟨b, j, none⟩ v) b (vs.set j v) := by
  refine ⟨by simpa using h.1, fun i => by simp only [World.frozen?_setCell]; exact h.2.1 i, fun i u e => ?_⟩
  by_cases hij : j = i
  · subst hij
    rw [List.getElem?_set_self hj] at e
    rw [World.cell?_setCell_same _ _ _ (h.at j (List.getElem?_eq_getElem hj))]
    exact e
  · rw [List.getElem?_set_ne hij] at e
    rw [World.cell?_setCell_other _ _ _ _ (by simp <;> omega)]
    exact h.2.2 i u e

/-- all cells set -/
theorem Blk.sets {w : World} {b : Nat} {vs : List Value} (h : Blk w b vs) (us : List Value) (hl : us.length = vs.length) : Blk (w.setCells b 0 us) b us := by
  have hth : w.there b 0 us.length := fun j hj => ⟨by rw [Nat.zero_add, h.at j (List.getElem?_eq_getElem (by omega))]; rfl, by rw [Nat.zero_add]; exact h.2.1 j⟩
  refine ⟨by simpa [Go.Sort.size_setCells] using h.1, fun i => by rw [World.frozen?_setCells]; exact h.2.1 i, fun i u e => ?_⟩
  have := World.rangeAt_setCells_same w b 0 us hth i u e
  rw [Nat.zero_add] at this
  exact this

theorem below_sets {B : Nat} {w W : World} (h : Below B w W) (g : Nat) (hg : B ≤ g) : ∀ (vs : List Value) (o : Nat), Below B w (W.setCells g o vs) := by
  intro vs
  induction vs generalizing W with
  | nil => intro o; exact h
  | cons v r ih => intro o; exact ih (h.setCell (by exact hg) v) (o + 1)

theorem SlP.other {w : World} {a : Option Addr} {l : List Orangery.Pl} (h : SlP w a l) (g : Nat) (hg : ∀ b off, a = some ⟨b, off, none⟩ → b ≠ g) (j : Nat) (v : Value) : SlP (w.setCell ⟨g, j, none⟩ v) a l := by
  rcases h with h | ⟨b, off, ha, hlt, hp⟩
  · exact Or.inl h
  · have hne := hg b off ha
    refine Or.inr ⟨b, off, ha, by simpa using hlt, fun i hi => ?_⟩
    rw [World.cell?_setCell_other _ _ _ _ (by simp <;> omega), World.cell?_setCell_other _ _ _ _ (by simp <;> omega), World.cell?_setCell_other _ _ _ _ (by simp <;> omega)]
    exact hp i hi

theorem Blk.grown {w w' : World} {b : Nat} {vs : List Value} {row : Option Nat} (h : Blk w b vs) (hg : w.grownBy w' row) (hne : some b ≠ row) : Blk w' b vs := by
  have hb := hg.block b h.1 hne
  refine ⟨Nat.lt_of_lt_of_le h.1 hg.size, fun j => ?_, fun i v e => ?_⟩
  · rw [World.frozen?_of_block (w := w) (w' := w') (a := ⟨b, j, none⟩) hb]; exact h.2.1 j
  · rw [World.cell?_of_block (w := w) (w' := w') (a := ⟨b, i, none⟩) hb]; exact h.2.2 i v e

theorem laid1 (w : World) (v0 : List Value) (t0 : TypeId) : ∃ W, (w.alloc (Obj.cells v0.toArray t0)) = W ∧ Blk W w.heap.size v0 ∧ Below w.heap.size w W ∧ W.heap.size = w.heap.size + 1 := by
  refine ⟨_, rfl, ?_, ?_, ?_⟩
  · have h := (Blk.new w v0 t0)
    exact h
  · exact (Go.Joins.below_alloc1 w (Obj.cells v0.toArray t0))
  · simp only [World.size_alloc]

theorem laid2 (w : World) (v0 : List Value) (t0 : TypeId) (v1 : List Value) (t1 : TypeId) : ∃ W, ((w.alloc (Obj.cells v0.toArray t0)).alloc (Obj.cells v1.toArray t1)) = W ∧ Blk W w.heap.size v0 ∧ Blk W (w.heap.size + 1) v1 ∧ Below w.heap.size w W ∧ W.heap.size = w.heap.size + 2 := by
  refine ⟨_, rfl, ?_, ?_, ?_, ?_⟩
  · have h := ((Blk.new w v0 t0).alloc (Obj.cells v1.toArray t1))
    exact h
  · have h := (Blk.new (w.alloc (Obj.cells v0.toArray t0)) v1 t1)
    simpa only [World.size_alloc] using h
  · exact (Below.alloc (Go.Joins.below_alloc1 w (Obj.cells v0.toArray t0)) (by simp only [World.size_alloc]; omega) (Obj.cells v1.toArray t1))
  · simp only [World.size_alloc]

theorem laid3 (w : World) (v0 : List Value) (t0 : TypeId) (v1 : List Value) (t1 : TypeId) (v2 : List Value) (t2 : TypeId) : ∃ W, (((w.alloc (Obj.cells v0.toArray t0)).alloc (Obj.cells v1.toArray t1)).alloc (Obj.cells v2.toArray t2)) = W ∧ Blk W w.heap.size v0 ∧ Blk W (w.heap.size + 1) v1 ∧ Blk W (w.heap.size + 1 + 1) v2 ∧ Below w.heap.size w W ∧ W.heap.size = w.heap.size + 3 := by
  refine ⟨_, rfl, ?_, ?_, ?_, ?_, ?_⟩
  · have h := (((Blk.new w v0 t0).alloc (Obj.cells v1.toArray t1)).alloc (Obj.cells v2.toArray t2))
    exact h
  · have h := ((Blk.new (w.alloc (Obj.cells v0.toArray t0)) v1 t1).alloc (Obj.cells v2.toArray t2))
    simpa only [World.size_alloc] using h
  · have h := (Blk.new ((w.alloc (Obj.cells v0.toArray t0)).alloc (Obj.cells v1.toArray t1)) v2 t2)
    simpa only [World.size_alloc] using h
  · exact (Below.alloc (Below.alloc (Go.Joins.below_alloc1 w (Obj.cells v0.toArray t0)) (by simp only [World.size_alloc]; omega) (Obj.cells v1.toArray t1)) (by simp only [World.size_alloc]; omega) (Obj.cells v2.toArray t2))
  · simp only [World.size_alloc]

theorem laid4 (w : World) (v0 : List Value) (t0 : TypeId) (v1 : List Value) (t1 : TypeId) (v2 : List Value) (t2 : TypeId) (v3 : List Value) (t3 : TypeId) : ∃ W, ((((w.alloc (Obj.cells v0.toArray t0)).alloc (Obj.cells v1.toArray t1)).alloc (Obj.cells v2.toArray t2)).alloc (Obj.cells v3.toArray t3)) = W ∧ Blk W w.heap.size v0 ∧ Blk W (w.heap.size + 1) v1 ∧ Blk W (w.heap.size + 1 + 1) v2 ∧ Blk W (w.heap.size + 1 + 1 + 1) v3 ∧ Below w.heap.size w W ∧ W.heap.size = w.heap.size + 4 := by
  refine ⟨_, rfl, ?_, ?_, ?_, ?_, ?_, ?_⟩
  · have h := ((((Blk.new w v0 t0).alloc (Obj.cells v1.toArray t1)).alloc (Obj.cells v2.toArray t2)).alloc (Obj.cells v3.toArray t3))
    exact h
  · have h := (((Blk.new (w.alloc (Obj.cells v0.toArray t0)) v1 t1).alloc (Obj.cells v2.toArray t2)).alloc (Obj.cells v3.toArray t3))
    simpa only [World.size_alloc] using h
  · have h := ((Blk.new ((w.alloc (Obj.cells v0.toArray t0)).alloc (Obj.cells v1.toArray t1)) v2 t2).alloc (Obj.cells v3.toArray t3))
    simpa only [World.size_alloc] using h
  · have h := (Blk.new (((w.alloc (Obj.cells v0.toArray t0)).alloc (Obj.cells v1.toArray t1)).alloc (Obj.cells v2.toArray t2)) v3 t3)
    simpa only [World.size_alloc] using h
  · exact (Below.alloc (Below.alloc (Below.alloc (Go.Joins.below_alloc1 w (Obj.cells v0.toArray t0)) (by simp only [World.size_alloc]; omega) (Obj.cells v1.toArray t1)) (by simp only [World.size_alloc]; omega) (Obj.cells v2.toArray t2)) (by simp only [World.size_alloc]; omega) (Obj.cells v3.toArray t3))
  · simp only [World.size_alloc]

theorem laid5 (w : World) (v0 : List Value) (t0 : TypeId) (v1 : List Value) (t1 : TypeId) (v2 : List Value) (t2 : TypeId) (v3 : List Value) (t3 : TypeId) (v4 : List Value) (t4 : TypeId) : ∃ W, (((((w.alloc (Obj.cells v0.toArray t0)).alloc (Obj.cells v1.toArray t1)).alloc (Obj.cells v2.toArray t2)).alloc (Obj.cells v3.toArray t3)).alloc (Obj.cells v4.toArray t4)) = W ∧ Blk W w.heap.size v0 ∧ Blk W (w.heap.size + 1) v1 ∧ Blk W (w.heap.size + 1 + 1) v2 ∧ Blk W (w.heap.size + 1 + 1 + 1) v3 ∧ Blk W (w.heap.size + 1 + 1 + 1 + 1) v4 ∧ Below w.heap.size w W ∧ W.heap.size = w.heap.size + 5 := by
  refine ⟨_, rfl, ?_, ?_, ?_, ?_, ?_, ?_, ?_⟩
  · have h := (((((Blk.new w v0 t0).alloc (Obj.cells v1.toArray t1)).alloc (Obj.cells v2.toArray t2)).alloc (Obj.cells v3.toArray t3)).alloc (Obj.cells v4.toArray t4))
    exact h
  · have h := ((((Blk.new (w.alloc (Obj.cells v0.toArray t0)) v1 t1).alloc (Obj.cells v2.toArray t2)).alloc (Obj.cells v3.toArray t3)).alloc (Obj.cells v4.toArray t4))
    simpa only [World.size_alloc] using h
  · have h := (((Blk.new ((w.alloc (Obj.cells v0.toArray t0)).alloc (Obj.cells v1.toArray t1)) v2 t2).alloc (Obj.cells v3.toArray t3)).alloc (Obj.cells v4.toArray t4))
    simpa only [World.size_alloc] using h
  · have h := ((Blk.new (((w.alloc (Obj.cells v0.toArray t0)).alloc (Obj.cells v1.toArray t1)).alloc (Obj.cells v2.toArray t2)) v3 t3).alloc (Obj.cells v4.toArray t4))
    simpa only [World.size_alloc] using h
  · have h := (Blk.new ((((w.alloc (Obj.cells v0.toArray t0)).alloc (Obj.cells v1.toArray t1)).alloc (Obj.cells v2.toArray t2)).alloc (Obj.cells v3.toArray t3)) v4 t4)
    simpa only [World.size_alloc] using h
  · exact (Below.alloc (Below.alloc (Below.alloc (Below.alloc (Go.Joins.below_alloc1 w (Obj.cells v0.toArray t0)) (by simp only [World.size_alloc]; omega) (Obj.cells v1.toArray t1)) (by simp only [World.size_alloc]; omega) (Obj.cells v2.toArray t2)) (by simp only [World.size_alloc]; omega) (Obj.cells v3.toArray t3)) (by simp only [World.size_alloc]; omega) (Obj.cells v4.toArray t4))
  · simp only [World.size_alloc]

theorem laid6 (w : World) (v0 : List Value) (t0 : TypeId) (v1 : List Value) (t1 : TypeId) (v2 : List Value) (t2 : TypeId) (v3 : List Value) (t3 : TypeId) (v4 : List Value) (t4 : TypeId) (v5 : List Value) (t5 : TypeId) : ∃ W, ((((((w.alloc (Obj.cells v0.toArray t0)).alloc (Obj.cells v1.toArray t1)).alloc (Obj.cells v2.toArray t2)).alloc (Obj.cells v3.toArray t3)).alloc (Obj.cells v4.toArray t4)).alloc (Obj.cells v5.toArray t5)) = W ∧ Blk W w.heap.size v0 ∧ Blk W (w.heap.size + 1) v1 ∧ Blk W (w.heap.size + 1 + 1) v2 ∧ Blk W (w.heap.size + 1 + 1 + 1) v3 ∧ Blk W (w.heap.size + 1 + 1 + 1 + 1) v4 ∧ Blk W (w.heap.size + 1 + 1 + 1 + 1 + 1) v5 ∧ Below w.heap.size w W ∧ W.heap.size = w.heap.size + 6 := by
  refine ⟨_, rfl, ?_, ?_, ?_, ?_, ?_, ?_, ?_, ?_⟩
  · have h := ((((((Blk.new w v0 t0).alloc (Obj.cells v1.toArray t1)).alloc (Obj.cells v2.toArray t2)).alloc (Obj.cells v3.toArray t3)).alloc (Obj.cells v4.toArray t4)).alloc (Obj.cells v5.toArray t5))
    exact h
  · have h := (((((Blk.new (w.alloc (Obj.cells v0.toArray t0)) v1 t1).alloc (Obj.cells v2.toArray t2)).alloc (Obj.cells v3.toArray t3)).alloc (Obj.cells v4.toArray t4)).alloc (Obj.cells v5.toArray t5))
    simpa only [World.size_alloc] using h
  · have h := ((((Blk.new ((w.alloc (Obj.cells v0.toArray t0)).alloc (Obj.cells v1.toArray t1)) v2 t2).alloc (Obj.cells v3.toArray t3)).alloc (Obj.cells v4.toArray t4)).alloc (Obj.cells v5.toArray t5))
    simpa only [World.size_alloc] using h
  · have h := (((Blk.new (((w.alloc (Obj.cells v0.toArray t0)).alloc (Obj.cells v1.toArray t1)).alloc (Obj.cells v2.toArray t2)) v3 t3).alloc (Obj.cells v4.toArray t4)).alloc (Obj.cells v5.toArray t5))
    simpa only [World.size_alloc] using h
  · have h := ((Blk.new ((((w.alloc (Obj.cells v0.toArray t0)).alloc (Obj.cells v1.toArray t1)).alloc (Obj.cells v2.toArray t2)).alloc (Obj.cells v3.toArray t3)) v4 t4).alloc (Obj.cells v5.toArray t5))
    simpa only [World.size_alloc] using h
  · have h := (Blk.new (((((w.alloc (Obj.cells v0.toArray t0)).alloc (Obj.cells v1.toArray t1)).alloc (Obj.cells v2.toArray t2)).alloc (Obj.cells v3.toArray t3)).alloc (Obj.cells v4.toArray t4)) v5 t5)
    simpa only [World.size_alloc] using h
  · exact (Below.alloc (Below.alloc (Below.alloc (Below.alloc (Below.alloc (Go.Joins.below_alloc1 w (Obj.cells v0.toArray t0)) (by simp only [World.size_alloc]; omega) (Obj.cells v1.toArray t1)) (by simp only [World.size_alloc]; omega) (Obj.cells v2.toArray t2)) (by simp only [World.size_alloc]; omega) (Obj.cells v3.toArray t3)) (by simp only [World.size_alloc]; omega) (Obj.cells v4.toArray t4)) (by simp only [World.size_alloc]; omega) (Obj.cells v5.toArray t5))
  · simp only [World.size_alloc]
end Go.Proofs.YtljbchkmoekpmadGreat

/- tree.Find: the first place of a node, or the zero place. -/
namespace Go.Proofs.YtljbchkmoekpmadGreat
open Go.ChangeShapes Go.WideShapes Go.ChangeAt Go.RowKit
open Orangery (Pl find)

set_option maxHeartbeats 400000 in
theorem find_any (w : World) (a : Option Addr) (c : Nat) (l : List Pl) (n : Int) (hl : l.length ≤ maxLen) (h : SlP w a l) :
    Calls Tryz.prog 110 #[.agg #[.slice a l.length c], .int .i64 n] w
      fun e w' => e = .returned (plV (find l n)) ∧ Below w.heap.size w w' := by
  unfold maxLen at hl
  go_enter Tryz.func110, Tryz.ntmps110
  go_wp2
  generalize hW : (w.alloc (Obj.cells #[Value.slice a l.length c] 25)).alloc (Obj.cells #[Value.int IntKind.i64 0, Value.int IntKind.i64 0, Value.int IntKind.i64 0] 64) = W0
  have hB : Below w.heap.size w W0 := by subst hW; exact Go.Joins.below_alloc2 w _ _
  have hS : W0.heap.size = w.heap.size + 2 := by subst hW; simp
  have hfr : ∀ j, W0.frozen? ⟨w.heap.size + 1, j, none⟩ = false := by intro j; subst hW; simp
  have hc : W0.cell? ⟨w.heap.size + 1, 0, none⟩ = some (.int .i64 0) ∧ W0.cell? ⟨w.heap.size + 1, 1, none⟩ = some (.int .i64 0) ∧ W0.cell? ⟨w.heap.size + 1, 2, none⟩ = some (.int .i64 0) := by subst hW; simp
  have hP := h.below hB
  clear h
  have HW : Hid (_ = W0) := hW
  clear hW
  go_loopw [10] (fun i W => ∃ k : Nat, k ≤ l.length ∧ i = .int .i64 k ∧ find (l.drop k) n = find l n ∧ Below W0.heap.size W0 W) (fun i _ => l.length - (intOf i).toNat)
  case atStart => exact ⟨0, Nat.zero_le _, rfl, rfl, Below.refl _ _⟩
  case round =>
    obtain ⟨k, hk, rfl, hf, hb⟩ := hrel
    have hz : w.heap.size + 1 < wr.heap.size := by have := hb.size; omega
    have hf0 : ∀ j, wr.frozen? ⟨w.heap.size + 1, j, none⟩ = false := by intro j; rw [hb.frozen (by show w.heap.size + 1 < _; omega)]; exact hfr j
    obtain ⟨c0, c1, c2⟩ := hc
    rw [← hb.cell (by show w.heap.size + 1 < _; omega)] at c0 c1 c2
    clear hfr
    by_cases hlt : k < l.length
    · obtain ⟨e1, e2⟩ := Orangery.find_drop l n k hlt hf
      rcases hP with hP | ⟨b, off, rfl, hbl, hp⟩
      · exact absurd hlt (by simp [hP])
      have g := hp k hlt
      rw [← hb.cell hbl, ← hb.cell hbl, ← hb.cell hbl] at g
      obtain ⟨g0, g1, g2⟩ := g
      by_cases hq : l[k].1 = n
      · have e := e1 hq
        have hq' : (l[k].1 == n) = true := by simpa using hq
        have HQ : Hid (l[k].1 = n) := hq
        clear hq e1 e2 hf
        have HE : Hid (find l n = l[k]) := e
        clear e
        go_wp2
        obtain ⟨d0, d1, d2⟩ := cells3 (.int .i64 l[k].1) (.int .i64 l[k].2.1) (.int .i64 l[k].2.2) c0 c1 c2
        refine bodyPost_ret (v := plV l[k]) (by simp [results, Tryz.results110, go_sem, hz, d0, d1, d2]) rfl ⟨by rw [HE.out], ?_⟩
        have hb' : Below w.heap.size w wr := hB.trans (hb.mono (by omega))
        exact (((hb'.setCell (by simp) _).setCell (by simp) _).setCell (by simp) _).alloc (by simp; omega) _
      · have hq' : (l[k].1 == n) = false := by simpa using hq
        go_wp2
        go_roundw
        case rel => exact ⟨k + 1, hlt, by go_num, e2 hq, hb.alloc hb.size _⟩
        case measure => simp [intOf]; omega
    · have hk : k = l.length := by omega
      have e : find l n = (0, 0, 0) := by rw [← hf, hk, List.drop_length]; rfl
      have HE : Hid (find l n = (0, 0, 0)) := e
      clear e hf
      go_wp2
      obtain ⟨d0, d1, d2⟩ := cells3 (.int .i64 0) (.int .i64 0) (.int .i64 0) c0 c1 c2
      refine bodyPost_ret (v := plV (0, 0, 0)) (by simp [results, Tryz.results110, go_sem, d0, d1, d2]) rfl ⟨by rw [HE.out], ?_⟩
      have hb' : Below w.heap.size w wr := hB.trans (hb.mono (by omega))
      exact (((hb'.setCell (by simp) _).setCell (by simp) _).setCell (by simp) _)
end Go.Proofs.YtljbchkmoekpmadGreat

/- tree's small functions: inRange, isNode, and the closures that Check and Under hand to meets. -/
namespace Go.Proofs.YtljbchkmoekpmadGreat
open Go.ChangeShapes Go.WideShapes Go.ChangeAt Go.RowKit
open Orangery (Pl find isNodeB inRangeB meetsN)

set_option maxHeartbeats 400000 in
theorem isNode_any (w : World) (n : Int) :
    Calls Tryz.prog 70 #[.int .i64 n] w fun e w' => e = .returned (.bool (isNodeB n)) ∧ w' = w := by
  by_cases h1 : 0 ≤ n
  all_goals by_cases h2 : n ≤ 16
  all_goals
    go_enter Tryz.func70, Tryz.ntmps70
    go_wp2
    go_ret
    exact ⟨ret_bool (by simp [isNodeB]; try omega), rfl⟩

set_option maxHeartbeats 400000 in
theorem inRange_any (w : World) (p : Pl) :
    Calls Tryz.prog 108 #[plV p] w fun e w' => e = .returned (.bool (inRangeB p)) ∧ Below w.heap.size w w' := by
  obtain ⟨a, b, c⟩ := p
  go_enter Tryz.func108, Tryz.ntmps108
  go_wp2
  all_goals
    go_ret
    exact ⟨ret_bool (by simp [inRangeB]; first | omega | simp [*]), Go.Joins.below_alloc1 w _⟩

theorem check1_any (w : World) (n m : Int) (b : Nat) (hc : w.cell? ⟨b, 0, none⟩ = some (.int .i64 m)) :
    Calls Tryz.prog 109 #[.int .i64 n, .pointer (some ⟨b, 0, none⟩)] w fun e w' => e = .returned (.bool (n == m)) ∧ w' = w := by
  go_enter Tryz.func109, Tryz.ntmps109
  go_wp2
  go_ret
  exact ⟨rfl, rfl⟩

theorem under1_any (w : World) (n m : Int) (b : Nat) (hc : w.cell? ⟨b, 0, none⟩ = some (.int .i64 m)) :
    Calls Tryz.prog 72 #[.int .i64 n, .pointer (some ⟨b, 0, none⟩)] w fun e w' => e = .returned (.bool (n == m)) ∧ w' = w := by
  go_enter Tryz.func72, Tryz.ntmps72
  go_wp2
  go_ret
  exact ⟨rfl, rfl⟩
end Go.Proofs.YtljbchkmoekpmadGreat

/- tree.meets: from one parent to the next one, until one is what is sought. -/
namespace Go.Proofs.YtljbchkmoekpmadGreat
open Go.ChangeShapes Go.WideShapes Go.ChangeAt Go.RowKit
open Orangery (Pl find isNodeB inRangeB meetsN)

set_option maxHeartbeats 1000000 in
theorem meets_any (w : World) (a : Option Addr) (c : Nat) (l : List Pl) (n : Int) (g : Nat) (v : Value) (f : Int → Bool) (hl : l.length ≤ maxLen) (h : SlP w a l)
    (eg : ∀ args w, (callFunc g args).run Tryz.prog w = .ok (.enter g args) w)
    (hg : ∀ W m, Below w.heap.size w W → Calls Tryz.prog g #[.int .i64 m, v] W fun e w' => e = .returned (.bool (f m)) ∧ w' = W) :
    Calls Tryz.prog 71 #[.agg #[.slice a l.length c], .int .i64 n, .func (.func g) #[] #[v]] w
      fun e w' => e = .returned (.bool (meetsN l f l.length n)) ∧ Below w.heap.size w w' := by
  have hl' : l.length ≤ 9223372036854775807 := hl
  go_enter Tryz.func71, Tryz.ntmps71
  go_wp2
  have hB := Go.Joins.below_alloc1 w (Obj.cells #[Value.slice a l.length c] 25)
  generalize hW : w.alloc (Obj.cells #[Value.slice a l.length c] 25) = W0 at hB
  have hS : W0.heap.size = w.heap.size + 1 := by subst hW; simp
  have hc : W0.cell? ⟨w.heap.size, 0, none⟩ = some (.slice a l.length c) := by subst hW; simp
  clear hW
  have hP := h.below hB
  clear h
  go_loopw [1, 11] (fun x i W => ∃ (k : Nat) (m : Int), k ≤ l.length ∧ x = .int .i64 m ∧ i = .int .i64 k ∧ meetsN l f (l.length - k) m = meetsN l f l.length n ∧ Below W0.heap.size W0 W) (fun _ i _ => l.length - (intOf i).toNat)
  case atStart => exact ⟨0, n, Nat.zero_le _, rfl, rfl, rfl, Below.refl _ _⟩
  case round =>
    obtain ⟨k, m, hk, rfl, rfl, hf, hb⟩ := hrel
    have hcr := hc
    rw [← hb.cell (by show w.heap.size < _; omega)] at hcr
    by_cases hlt : k < l.length
    · obtain ⟨s1, s2, s3⟩ := Orangery.meetsN_step l f k m hlt
      have hf' : Hid (meetsN l f (l.length - k) m = meetsN l f l.length n) := hf
      clear hf
      have H1 : Hid ((find l m).1 = 0 → meetsN l f (l.length - k) m = false) := s1
      have H2 : Hid ((find l m).1 ≠ 0 → f (find l m).2.1 = true → meetsN l f (l.length - k) m = true) := s2
      have H3 : Hid ((find l m).1 ≠ 0 → f (find l m).2.1 = false → meetsN l f (l.length - k) m = meetsN l f (l.length - (k + 1)) (find l m).2.1) := s3
      clear s1 s2 s3
      go_wp2_with fail
      refine (find_any wr a c l m hl (hP.below hb)).mono ?_
      rintro e w1 ⟨rfl, hb1⟩
      generalize hq : find l m = q at *
      obtain ⟨q0, q1, q2⟩ := q
      have HQ : Hid (find l m = (q0, q1, q2)) := hq
      clear hq
      simp only at H1 H2 H3 ⊢
      by_cases hz : q0 = 0
      · have e := H1.out hz
        have hz' : (q0 == 0) = true := by simpa using hz
        have HE : Hid (meetsN l f (l.length - k) m = false) := e
        clear hz e
        go_wp2
        go_ret
        exact ⟨ret_bool (by rw [← hf'.out, HE.out]), (hB.trans ((hb.trans (hb1.mono hb.size)).mono (by omega))).alloc (by have := hb.size; have := hb1.size; omega) _⟩
      · have hz' : (q0 == 0) = false := by simpa using hz
        have HZ : Hid (q0 ≠ 0) := hz
        clear hz
        have hbb : Below w.heap.size w w1 := hB.trans ((hb.trans (hb1.mono hb.size)).mono (by omega))
        have hb2 : Below w.heap.size w (w1.alloc (Obj.cells #[Value.int IntKind.i64 q0, Value.int IntKind.i64 q1, Value.int IntKind.i64 q2] 64)) := hbb.alloc (by have := hb.size; have := hb1.size; omega) _
        go_wp2_with fail
        refine (hg _ q1 hb2).mono ?_
        rintro e w2 ⟨rfl, rfl⟩
        cases hfq : f q1
        · have e := H3.out HZ.out hfq
          have HE : Hid (meetsN l f (l.length - k) m = meetsN l f (l.length - (k + 1)) q1) := e
          clear e
          go_wp2
          go_roundw
          case rel => exact ⟨k + 1, q1, hlt, rfl, by go_num, by rw [← HE.out, hf'.out], (hb.trans (hb1.mono hb.size)).alloc (by have := hb.size; have := hb1.size; omega) _⟩
          case measure => simp [intOf]; omega
        · have e := H2.out HZ.out hfq
          have HE : Hid (meetsN l f (l.length - k) m = true) := e
          clear e
          go_wp2
          go_ret
          exact ⟨ret_bool (by rw [← hf'.out, HE.out]), hb2⟩
    · have hk' : l.length - k = 0 := by omega
      rw [hk'] at hf
      have HF : Hid (meetsN l f 0 m = meetsN l f l.length n) := hf
      clear hf hk'
      go_wp2
      go_ret
      exact ⟨ret_bool (by rw [← HF.out]; rfl), hB.trans (hb.mono (by omega))⟩
end Go.Proofs.YtljbchkmoekpmadGreat

/- tree.Check: the first thing that keeps places from being a tree. -/
namespace Go.Proofs.YtljbchkmoekpmadGreat
open Go.ChangeShapes Go.WideShapes Go.ChangeAt Go.RowKit
open Orangery (Pl find isNodeB inRangeB meetsN scan ringAt check)

set_option maxHeartbeats 2000000 in
theorem check_any (w : World) (a : Option Addr) (c : Nat) (l : List Pl) (hl : l.length ≤ maxLen) (h : SlP w a l) :
    Calls Tryz.prog 69 #[.agg #[.slice a l.length c]] w
      fun e w' => e = .returned (.int .i64 (check l)) ∧ Below w.heap.size w w' := by
  have hl' : l.length ≤ 9223372036854775807 := hl
  go_enter Tryz.func69, Tryz.ntmps69
  go_wp2
  have hB := Go.Joins.below_alloc1 w (Obj.cells #[Value.slice a l.length c] 25)
  generalize hW : w.alloc (Obj.cells #[Value.slice a l.length c] 25) = W0 at hB
  have hS : W0.heap.size = w.heap.size + 1 := by subst hW; simp
  have hc : W0.cell? ⟨w.heap.size, 0, none⟩ = some (.slice a l.length c) := by subst hW; simp
  clear hW
  have hP := h.below hB
  clear h
  go_loopw [3, 11] (fun x i W => ∃ (k : Nat) (m : Int), k ≤ l.length ∧ x = .int .i64 m ∧ i = .int .i64 k ∧ scan m (l.drop k) = scan 0 l ∧ Below W0.heap.size W0 W) (fun _ i _ => l.length - (intOf i).toNat)
  case atStart => exact ⟨0, 0, Nat.zero_le _, rfl, rfl, rfl, Below.refl _ _⟩
  case round =>
    obtain ⟨k, m, hk, rfl, rfl, hf, hb⟩ := hrel
    by_cases hlt : k < l.length
    · obtain ⟨s1, s2, s3⟩ := Orangery.scan_step l k m hlt hf
      have H1 : Hid (inRangeB l[k] = false → scan 0 l = 3) := s1
      have H2 : Hid (inRangeB l[k] = true → l[k].1 ≤ m → scan 0 l = 6) := s2
      have H3 : Hid (inRangeB l[k] = true → ¬ l[k].1 ≤ m → scan l[k].1 (l.drop (k + 1)) = scan 0 l) := s3
      clear s1 s2 s3 hf
      rcases hP with hP | ⟨b, off, rfl, hbl, hp⟩
      · exact absurd hlt (by simp [hP])
      have g := hp k hlt
      rw [← hb.cell hbl, ← hb.cell hbl, ← hb.cell hbl] at g
      obtain ⟨g0, g1, g2⟩ := g
      generalize hq : l[k] = q at *
      obtain ⟨q0, q1, q2⟩ := q
      have HQ : Hid (l[k] = (q0, q1, q2)) := hq
      clear hq
      simp only at H1 H2 H3 g0 g1 g2
      go_wp2_with fail
      refine (inRange_any _ (q0, q1, q2)).mono ?_
      rintro e w1 ⟨rfl, hb1⟩
      have hz1 := hb1.size
      have hb2 : Below W0.heap.size W0 w1 := (hb.alloc hb.size _).trans (hb1.mono (by simp; exact Nat.le_succ_of_le hb.size))
      have x0 : w1.cell? ⟨wr.heap.size, 0, none⟩ = some (.int .i64 q0) := by rw [hb1.cell (by simp)]; simp
      clear hb1
      cases hr : inRangeB (q0, q1, q2)
      · have e := H1.out hr
        go_wp2
        go_ret
        exact ⟨ret_int (by rw [Orangery.check_of_scan _ (by rw [e]; decide), e]), hB.trans (hb2.mono (by omega))⟩
      · by_cases hle : q0 ≤ m
        · have e := H2.out hr hle
          have HE : Hid (scan 0 l = 6) := e
          clear e
          go_wp2
          go_ret
          exact ⟨ret_int (by rw [Orangery.check_of_scan _ (by rw [HE.out]; decide), HE.out]), hB.trans (hb2.mono (by omega))⟩
        · have e := H3.out hr (by omega)
          have HE : Hid (scan q0 (l.drop (k + 1)) = scan 0 l) := e
          clear e
          go_wp2
          go_roundw
          case rel => exact ⟨k + 1, q0, hlt, rfl, by go_num, HE.out, hb2⟩
          case measure => simp [intOf]; omega
    · have hk' : l.drop k = [] := by simp; omega
      rw [hk'] at hf
      have HF : Hid (scan 0 l = 0) := hf.symm
      clear hf hk'
      have hcr := hc
      rw [← hb.cell (by show w.heap.size < _; omega)] at hcr
      have hP2 := hP.below hb
      have hB2 : Below w.heap.size w wr := hB.trans (hb.mono (by omega))
      have hS2 : w.heap.size < wr.heap.size := by have := hb.size; omega
      clear hP hB hc
      rename World => W1
      go_wp2
      go_loopw [28] (fun i W => ∃ k : Nat, k ≤ l.length ∧ i = .int .i64 k ∧ (∀ j, (hj : j < l.length) → j < k → ringAt l l[j] = false) ∧ Below W1.heap.size W1 W) (fun i _ => l.length - (intOf i).toNat)
      case atStart => exact ⟨0, Nat.zero_le _, rfl, fun j _ hj => absurd hj (Nat.not_lt_zero _), Below.refl _ _⟩
      case round =>
        obtain ⟨k2, hk2, rfl, hno, hb⟩ := hrel
        have HNO : Hid (∀ j, (hj : j < l.length) → j < k2 → ringAt l l[j] = false) := hno
        clear hno
        have hcr2 := hcr
        rw [← hb.cell (by exact hS2)] at hcr2
        have hS3 : w.heap.size < wr.heap.size := Nat.lt_of_lt_of_le hS2 hb.size
        by_cases hlt2 : k2 < l.length
        · have hP3 := hP2.below hb
          rcases hP2 with hP2 | ⟨b, off, rfl, hbl, hp⟩
          · exact absurd hlt2 (by simp [hP2])
          have g := hp k2 hlt2
          rw [← hb.cell hbl, ← hb.cell hbl, ← hb.cell hbl] at g
          obtain ⟨g0, g1, g2⟩ := g
          have HR : Hid (ringAt l l[k2] = meetsN l (fun m => m == l[k2].1) l.length l[k2].1) := rfl
          generalize hq : l[k2] = q at *
          obtain ⟨q0, q1, q2⟩ := q
          have HQ : Hid (l[k2] = (q0, q1, q2)) := hq
          clear hq
          simp only at HR g0 g1 g2
          go_wp2_with fail
          have hb1 := Go.Joins.below_alloc1 wr (Obj.cells #[Value.int IntKind.i64 q0, Value.int IntKind.i64 q1, Value.int IntKind.i64 q2] 64)
          have x0 : (wr.alloc (Obj.cells #[Value.int IntKind.i64 q0, Value.int IntKind.i64 q1, Value.int IntKind.i64 q2] 64)).cell? ⟨wr.heap.size, 0, none⟩ = some (.int .i64 q0) := by simp
          have x1 : wr.heap.size < (wr.alloc (Obj.cells #[Value.int IntKind.i64 q0, Value.int IntKind.i64 q1, Value.int IntKind.i64 q2] 64)).heap.size := by simp
          refine (meets_any _ _ c l q0 109 (.pointer (some ⟨wr.heap.size, 0, none⟩)) (fun m => m == q0) hl (hP3.below hb1) (Go.Proofs.enters_of Tryz.func109 (by kernel_rfl) rfl) ?_).mono ?_
          · intro W m hbW
            exact check1_any W m q0 wr.heap.size (by rw [hbW.cell x1, x0])
          rintro e w1 ⟨rfl, hbm⟩
          have hb4 : Below W1.heap.size W1 w1 := (hb.trans (hb1.mono hb.size)).trans (hbm.mono (by simp; exact Nat.le_succ_of_le hb.size))
          rw [← HR.out]
          clear hb1 x0 x1 hbm g0 g1 g2 hcr hcr2
          cases hr : ringAt l (q0, q1, q2)
          · go_wp2
            go_roundw
            case rel =>
              refine ⟨k2 + 1, hlt2, by go_num, fun j hj hjk => ?_, hb4⟩
              by_cases hjk' : j < k2
              · exact HNO.out j hj hjk'
              · have : j = k2 := by omega
                subst this
                rw [HQ.out]
                exact hr
            case measure => simp [intOf]; omega
          · go_wp2
            go_ret
            exact ⟨ret_int (by rw [Orangery.check_of_ring l HF.out k2 hlt2 (by rw [HQ.out]; exact hr)]), hB2.trans (hb4.mono (by omega))⟩
        · go_wp2
          go_ret
          exact ⟨ret_int (by rw [Orangery.check_of_none l HF.out (fun i hi => HNO.out i hi (by omega))]), hB2.trans (hb.mono (by omega))⟩
end Go.Proofs.YtljbchkmoekpmadGreat

/- slices.IndexFunc at places; orangeryref.FindIn; slices.Contains at ints; orangeryref.CheckPlace. -/
namespace Go.Proofs.YtljbchkmoekpmadGreat
open Go.ChangeShapes Go.WideShapes Go.ChangeAt Go.RowKit
open Orangery (Pl find isNodeB inRangeB meetsN scan ringAt check idxF)

set_option maxHeartbeats 1000000 in
theorem indexFunc_any (w : World) (a : Option Addr) (c : Nat) (l : List Pl) (g : Nat) (v : Value) (f : Pl → Bool) (hl : l.length ≤ maxLen) (h : SlP w a l)
    (eg : ∀ args w, (callFunc g args).run Tryz.prog w = .ok (.enter g args) w)
    (hg : ∀ W p, Below w.heap.size w W → Calls Tryz.prog g #[plV p, v] W fun e w' => e = .returned (.bool (f p)) ∧ Below W.heap.size W w') :
    Calls Tryz.prog 128 #[.slice a l.length c, .func (.func g) #[] #[v]] w
      fun e w' => e = .returned (.int .i64 (idxF f 0 l)) ∧ Below w.heap.size w w' := by
  have hl' : l.length ≤ 9223372036854775807 := hl
  go_enter Tryz.func128, Tryz.ntmps128
  go_wp2
  go_loopw [8] (fun i W => ∃ k : Nat, k ≤ l.length ∧ i = .int .i64 k ∧ idxF f k (l.drop k) = idxF f 0 l ∧ Below w.heap.size w W) (fun i _ => l.length - (intOf i).toNat)
  case atStart => exact ⟨0, Nat.zero_le _, rfl, rfl, Below.refl _ _⟩
  case round =>
    obtain ⟨k, hk, rfl, hf, hb⟩ := hrel
    by_cases hlt : k < l.length
    · obtain ⟨s1, s2⟩ := Orangery.idxF_step f l k hlt hf
      have H1 : Hid (f l[k] = true → idxF f 0 l = k) := s1
      have H2 : Hid (f l[k] = false → idxF f (k + 1) (l.drop (k + 1)) = idxF f 0 l) := s2
      clear s1 s2 hf
      rcases h with h | ⟨b, off, rfl, hbl, hp⟩
      · exact absurd hlt (by simp [h])
      have g := hp k hlt
      rw [← hb.cell hbl, ← hb.cell hbl, ← hb.cell hbl] at g
      obtain ⟨g0, g1, g2⟩ := g
      go_wp2_with fail
      refine (hg wr l[k] hb).mono ?_
      rintro e w1 ⟨rfl, hb1⟩
      have hb2 : Below w.heap.size w w1 := hb.trans (hb1.mono hb.size)
      cases hr : f l[k]
      · have e := H2.out hr
        have HE : Hid (idxF f (k + 1) (l.drop (k + 1)) = idxF f 0 l) := e
        clear e
        go_wp2
        go_roundw
        case rel => exact ⟨k + 1, hlt, by go_num, HE.out, hb2⟩
        case measure => simp [intOf]; omega
      · have e := H1.out hr
        have HE : Hid (idxF f 0 l = k) := e
        clear e
        go_wp2
        go_ret
        exact ⟨ret_int (by rw [HE.out]), hb2⟩
    · have hk' : l.drop k = [] := by simp; omega
      rw [hk'] at hf
      have HF : Hid (idxF f 0 l = -1) := hf.symm
      clear hf hk'
      go_wp2
      go_ret
      exact ⟨ret_int (by rw [HF.out]), hb⟩

theorem findIn1_any (w : World) (p : Pl) (n : Int) (b : Nat) (hb : b < w.heap.size) (hc : w.cell? ⟨b, 0, none⟩ = some (.int .i64 n)) :
    Calls Tryz.prog 129 #[plV p, .pointer (some ⟨b, 0, none⟩)] w fun e w' => e = .returned (.bool (p.1 == n)) ∧ Below w.heap.size w w' := by
  go_enter Tryz.func129, Tryz.ntmps129
  go_wp2
  go_ret
  exact ⟨rfl, Go.Joins.below_alloc1 w _⟩

set_option maxHeartbeats 1000000 in
theorem findIn_any (w : World) (a : Option Addr) (c : Nat) (l : List Pl) (n : Int) (hl : l.length ≤ maxLen) (h : SlP w a l) :
    Calls Tryz.prog 99 #[.slice a l.length c, .int .i64 n] w
      fun e w' => e = .returned (plV (find l n)) ∧ Below w.heap.size w w' := by
  have hl' : l.length ≤ 9223372036854775807 := hl
  go_enter Tryz.func99, Tryz.ntmps99
  go_wp2_with fail
  have hB := Go.Joins.below_alloc2 w (Obj.cells #[Value.int IntKind.i64 n] 3) (Obj.cells #[Value.int IntKind.i64 0, Value.int IntKind.i64 0, Value.int IntKind.i64 0] 64)
  generalize hW : (w.alloc (Obj.cells #[Value.int IntKind.i64 n] 3)).alloc (Obj.cells #[Value.int IntKind.i64 0, Value.int IntKind.i64 0, Value.int IntKind.i64 0] 64) = W0 at hB
  have hS : W0.heap.size = w.heap.size + 2 := by subst hW; simp
  have hn : W0.cell? ⟨w.heap.size, 0, none⟩ = some (.int .i64 n) := by subst hW; rw [(Go.Joins.below_alloc1 _ _).cell (by simp)]; simp
  have hfr : ∀ j, W0.frozen? ⟨w.heap.size + 1, j, none⟩ = false := by intro j; subst hW; simp
  have hc : W0.cell? ⟨w.heap.size + 1, 0, none⟩ = some (.int .i64 0) ∧ W0.cell? ⟨w.heap.size + 1, 1, none⟩ = some (.int .i64 0) ∧ W0.cell? ⟨w.heap.size + 1, 2, none⟩ = some (.int .i64 0) := by subst hW; simp
  have hP := h.below hB
  clear hW h
  refine (indexFunc_any W0 a c l 129 (.pointer (some ⟨w.heap.size, 0, none⟩)) (fun p => p.1 == n) hl hP (Go.Proofs.enters_of Tryz.func129 (by kernel_rfl) rfl) ?_).mono ?_
  · intro W p hb
    exact findIn1_any W p n w.heap.size (by have := hb.size; omega) (by rw [hb.cell (by show w.heap.size < _; omega), hn])
  rintro e w1 ⟨rfl, hb⟩
  have hf0 : ∀ j, w1.frozen? ⟨w.heap.size + 1, j, none⟩ = false := by intro j; rw [hb.frozen (by show w.heap.size + 1 < _; omega)]; exact hfr j
  obtain ⟨c0, c1, c2⟩ := hc
  rw [← hb.cell (by show w.heap.size + 1 < _; omega)] at c0 c1 c2
  have hbw : Below w.heap.size w w1 := hB.trans (hb.mono (by omega))
  have hP2 := hP.below hb
  clear hfr hB hb hn hP
  rcases Orangery.idxF_spec n l 0 with ⟨h1, h2⟩ | ⟨i, hi, h1, h2⟩
  · rw [h1]
    have HE : Hid (find l n = (0, 0, 0)) := h2
    clear h1 h2
    go_wp2
    obtain ⟨d0, d1, d2⟩ := cells3 (.int .i64 0) (.int .i64 0) (.int .i64 0) c0 c1 c2
    refine bodyPost_ret (v := plV (0, 0, 0)) (by simp [results, Tryz.results99, go_sem, d0, d1, d2]) rfl ⟨by rw [HE.out], ?_⟩
    exact (((hbw.setCell (by simp) _).setCell (by simp) _).setCell (by simp) _)
  · rw [h1, Nat.zero_add]
    have HE : Hid (find l n = l[i]) := h2
    clear h1 h2
    rcases hP2 with hP2 | ⟨b, off, rfl, hbl, hp⟩
    · exact absurd hi (by simp [hP2])
    obtain ⟨g0, g1, g2⟩ := hp i hi
    go_wp2
    obtain ⟨d0, d1, d2⟩ := cells3 (.int .i64 l[i].1) (.int .i64 l[i].2.1) (.int .i64 l[i].2.2) c0 c1 c2
    refine bodyPost_ret (v := plV l[i]) (by simp [results, Tryz.results99, go_sem, d0, d1, d2]) rfl ⟨by rw [HE.out], ?_⟩
    exact (((hbw.setCell (by simp) _).setCell (by simp) _).setCell (by simp) _)

def cpE (p : Pl) : Int := if inRangeB p = true then 0 else 3

set_option maxHeartbeats 400000 in
theorem checkPlace_any (w : World) (p : Pl) :
    Calls Tryz.prog 98 #[plV p] w fun e w' => e = .returned (.int .i64 (cpE p)) ∧ Below w.heap.size w w' := by
  obtain ⟨a, b, c⟩ := p
  cases hr : inRangeB (a, b, c)
  · have e : cpE (a, b, c) = 3 := by simp [cpE, hr]
    have hn : ¬ (1 ≤ a ∧ a < 16 ∧ 0 ≤ b ∧ b ≤ 16 ∧ 0 ≤ c ∧ c ≤ 99) := by simpa [inRangeB] using hr
    have HE : Hid (cpE (a, b, c) = 3) := e
    clear e hr
    by_cases h1 : 1 ≤ a ∧ a ≤ 15
    · obtain ⟨h1, h2⟩ := h1
      by_cases h3 : 0 ≤ b ∧ b ≤ 16
      · obtain ⟨h3, h4⟩ := h3
        by_cases h5 : 0 ≤ c
        · have h6 : ¬ c ≤ 99 := by omega
          go_enter Tryz.func98, Tryz.ntmps98
          go_wp2
          go_ret
          exact ⟨ret_int (by rw [HE.out]), Go.Joins.below_alloc1 w _⟩
        · go_enter Tryz.func98, Tryz.ntmps98
          go_wp2
          go_ret
          exact ⟨ret_int (by rw [HE.out]), Go.Joins.below_alloc1 w _⟩
      · by_cases h5 : 0 ≤ b
        · have h6 : ¬ b ≤ 16 := by omega
          go_enter Tryz.func98, Tryz.ntmps98
          go_wp2
          go_ret
          exact ⟨ret_int (by rw [HE.out]), Go.Joins.below_alloc1 w _⟩
        · go_enter Tryz.func98, Tryz.ntmps98
          go_wp2
          go_ret
          exact ⟨ret_int (by rw [HE.out]), Go.Joins.below_alloc1 w _⟩
    · by_cases h5 : 1 ≤ a
      · have h6 : ¬ a ≤ 15 := by omega
        go_enter Tryz.func98, Tryz.ntmps98
        go_wp2
        go_ret
        exact ⟨ret_int (by rw [HE.out]), Go.Joins.below_alloc1 w _⟩
      · go_enter Tryz.func98, Tryz.ntmps98
        go_wp2
        go_ret
        exact ⟨ret_int (by rw [HE.out]), Go.Joins.below_alloc1 w _⟩
  · have e : cpE (a, b, c) = 0 := by simp [cpE, hr]
    have hn : 1 ≤ a ∧ a < 16 ∧ 0 ≤ b ∧ b ≤ 16 ∧ 0 ≤ c ∧ c ≤ 99 := by simpa [inRangeB] using hr
    obtain ⟨h1, h2, h3, h4, h5, h6⟩ := hn
    have HE : Hid (cpE (a, b, c) = 0) := e
    clear e hr
    go_enter Tryz.func98, Tryz.ntmps98
    go_wp2
    go_ret
    exact ⟨ret_int (by rw [HE.out]), Go.Joins.below_alloc1 w _⟩
end Go.Proofs.YtljbchkmoekpmadGreat

