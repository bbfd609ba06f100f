/- 6 texts of the proof: A tree that came in as an argument: which places it holds. Operations and steps that came in as arguments. Slices of operations and histories that came in as arguments, and what they weigh. Ints, places with the room behind them, and views that came in as arguments. Mail that came in as an argument: its lists, and what they weigh. Clients that came in as arguments: their lists, and what they weigh -/
import Derived.Deep.Slices
import Derived.Deep.Strs
import Derived.ChangeOld
import Derived.SizedLaws
import Derived.Test.YtijjiccgpobjmaeGreatP04
import Derived.Test.YtijjiccgpobjmaeGreatP05
import Derived.Test.YtijjiccgpobjmaeGreatP06
import Derived.Test.YtijjiccgpobjmaeGreatP10
import Derived.Test.YtijjiccgpobjmaeGreatP17
/- A tree that came in as an argument: which places it holds. -/
namespace Go.Proofs.YtijjiccgpobjmaeGreat
open Go.ChangeShapes Go.WideShapes Go.ChangeAt Go.RowKit
open Orangery (Pl)

theorem cells3_of {w : World} {base : Nat} {a : Addr} {cs : List Value} (h : w.cells? base a 3 = some cs) :
    ∃ x y z, cs = [x, y, z] ∧ w.cell? (a.add 0) = some x ∧ w.cell? (a.add 1) = some y ∧ w.cell? (a.add 2) = some z := by
  unfold World.cells? at h
  split at h
  · simp only [show List.range 3 = [0, 1, 2] from rfl, List.mapM_cons, List.mapM_nil] at h
    cases h0 : w.cell? (a.add 0) with
    | none => simp [h0] at h
    | some x =>
      cases h1 : w.cell? (a.add 1) with
      | none => simp [h0, h1] at h
      | some y =>
        cases h2 : w.cell? (a.add 2) with
        | none => simp [h0, h1, h2] at h
        | some z =>
          simp [h0, h1, h2] at h
          exact ⟨x, y, z, h.symm, rfl, rfl, rfl⟩
  · simp at h

theorem add_at (b off i : Nat) : (⟨b, off, none⟩ : Addr).add i = ⟨b, off + i, none⟩ := by
  unfold Addr.add
  by_cases hz : i = 0 <;> simp [hz]

/-- a slice of places that is read -/
theorem open_places {H : Type} {enc : TypeId × Value → H} {w : World} {base fuel : Nat} {spare : Nat → Bool} {held : Bool} {v : Value} {x : DataW H × List MemPlace}
    (h : DataW.trod enc Tryz.prog w base spare held fuel 24 [v] = some x) : ∃ a c, ∃ l : List Pl, v = .slice a l.length c ∧ l.length ≤ maxLen ∧ SlP w a l := by
  rcases Go.Deep.open_slice Tryz.underlying24 h with ⟨hcs, _⟩ | ⟨a, len, cap, m, n, D, Pq, hcs, _, hle, hm, hmm, _, hel⟩
  · simp at hcs
    subst hcs
    exact ⟨none, 0, [], rfl, by simp, Or.inl rfl⟩
  · simp at hcs
    subst hcs
    have hlm : len ≤ m := by rw [hmm]; split <;> omega
    have hC : Tryz.prog.cellsOf 47 = 3 := by kernel_rfl
    have hI : Tryz.prog.cellsOf 3 = 1 := by kernel_rfl
    have key : ∀ i, i < len → ∃ q : Pl, w.cell? ((a.add (i * 3)).add 0) = some (.int .i64 q.1) ∧ w.cell? ((a.add (i * 3)).add 1) = some (.int .i64 q.2.1) ∧ w.cell? ((a.add (i * 3)).add 2) = some (.int .i64 q.2.2) := by
      intro i hi
      obtain ⟨cs', h1, h2⟩ := hel i (by omega)
      rw [hC] at h1
      obtain ⟨x, y, z, rfl, c0, c1, c2⟩ := cells3_of h1
      obtain ⟨y0, y1, y2, n', _, _, t0, t1, t2⟩ := Go.Deep.trod_struct3 Tryz.underlying47 h2
      simp [hI] at t0 t1 t2
      obtain ⟨q0, e0, _, _⟩ := DataW.trod_int Tryz.underlying3 t0
      obtain ⟨q1, e1, _, _⟩ := DataW.trod_int Tryz.underlying3 t1
      obtain ⟨q2, e2, _, _⟩ := DataW.trod_int Tryz.underlying3 t2
      simp at e0 e1 e2
      subst e0 e1 e2
      exact ⟨(q0, q1, q2), c0, c1, c2⟩
    obtain ⟨f, hf⟩ := Go.Deep.choose_lt key
    refine ⟨some a, cap, (List.range len).map f, by simp, by simp; omega, ?_⟩
    by_cases hz : len = 0
    · exact Or.inl (by simp [hz])
    · right
      have h0 := (hf 0 (by omega)).1
      obtain ⟨b, off, spot⟩ := a
      have hspot : spot = none := by simpa [Addr.add] using World.cell?_spot h0
      subst hspot
      have hb : b < w.heap.size := by
        have := World.block_lt_of_cell? w _ h0
        rw [add_at, add_at] at this
        exact this
      refine ⟨b, off, rfl, hb, fun i hi => ?_⟩
      have hi' : i < len := by simpa using hi
      have := hf i hi'
      rw [add_at, add_at, add_at, add_at] at this
      simpa using this

set_option maxRecDepth 100000 in
/-- a tree that came in -/
theorem open_tree {H : Type} {enc : TypeId × Value → H} {w : World} {r : Reach} {b0 base : Nat} {spare : Nat → Bool} {held : Bool} {v : Value} {d : DataW H} {p : List MemPlace}
    (hv : Value.okWide Tryz.prog w r b0 37 v) (h : DataW.Trod enc Tryz.prog w base spare held 37 v d p) : ∃ a c, ∃ l : List Pl, v = .agg #[.slice a l.length c] ∧ l.length ≤ maxLen ∧ SlP w a l := by
  obtain ⟨cs, rfl, hsz⟩ := okWide_struct Tryz.underlying37 hv
  have hC : Tryz.prog.cellsOf 37 = 1 := by kernel_rfl
  have hD : Tryz.prog.cellsOf 24 = 1 := by kernel_rfl
  rw [hC] at hsz
  obtain ⟨c0, rfl⟩ : ∃ c0, cs = #[c0] := by
    have h1 : cs.toList.length = 1 := by simpa using hsz
    obtain ⟨x, hx⟩ := List.length_eq_one_iff.1 h1
    exact ⟨x, by cases cs; simp_all⟩
  obtain ⟨fuel, hf⟩ := h
  obtain ⟨y0, n, _, _, h0⟩ := trod_struct1 Tryz.underlying37 hf
  simp [Value.cells, hD] at h0
  obtain ⟨a, c, l, rfl, h1, h2⟩ := open_places h0
  exact ⟨a, c, l, rfl, h1, h2⟩
end Go.Proofs.YtijjiccgpobjmaeGreat

/- Operations and steps that came in as arguments. -/
namespace Go.Proofs.YtijjiccgpobjmaeGreat
open Go.ChangeShapes Go.WideShapes Go.ChangeAt Go.RowKit
open Orangery (Pl Mv Stp)

theorem list7 {cs : List Value} (h : cs.length = 7) : ∃ a b c d e f g, cs = [a, b, c, d, e, f, g] := by
  match cs, h with
  | [a, b, c, d, e, f, g], _ => exact ⟨a, b, c, d, e, f, g, rfl⟩
theorem list11 {cs : List Value} (h : cs.length = 11) : ∃ a b c d e f g i j k l, cs = [a, b, c, d, e, f, g, i, j, k, l] := by
  match cs, h with
  | [a, b, c, d, e, f, g, i, j, k, l], _ => exact ⟨a, b, c, d, e, f, g, i, j, k, l, rfl⟩

set_option maxRecDepth 100000 in
theorem open_opC {H : Type} {enc : TypeId × Value → H} {w : World} {base fuel : Nat} {spare : Nat → Bool} {held : Bool} {cs : List Value} {x : DataW H × List MemPlace}
    (h : DataW.trod enc Tryz.prog w base spare held fuel 32 cs = some x) : ∃ o : Mv, cs = opC o := by
  obtain ⟨xs, n, _, _, hl, hlen, hf⟩ := DataW.trod_struct Tryz.underlying32 h
  have hC : Tryz.prog.cellsOf 32 = 7 := by kernel_rfl
  have hI : Tryz.prog.cellsOf 3 = 1 := by kernel_rfl
  have hT : Tryz.prog.cellsOf 30 = 2 := by kernel_rfl
  rw [hC] at hl
  obtain ⟨c0, c1, c2, c3, c4, c5, c6, rfl⟩ := list7 hl
  have hx : xs.length = 6 := hlen
  have g0 := hf 0 _ rfl
  have g1 := hf 1 _ rfl
  have g2 := hf 2 _ rfl
  have g3 := hf 3 _ rfl
  have g4 := hf 4 _ rfl
  have g5 := hf 5 _ rfl
  simp [hI, hT] at g0 g1 g2 g3 g4 g5
  rw [List.getElem?_eq_getElem (by omega)] at g0 g1 g2 g3 g4 g5
  obtain ⟨o3, e3, _, _⟩ := DataW.trod_int Tryz.underlying3 g1
  obtain ⟨o4, e4, _, _⟩ := DataW.trod_int Tryz.underlying3 g2
  obtain ⟨o5, e5, _, _⟩ := DataW.trod_int Tryz.underlying3 g3
  obtain ⟨o6, e6, _, _⟩ := DataW.trod_int Tryz.underlying3 g4
  obtain ⟨o7, e7, _, _⟩ := DataW.trod_int Tryz.underlying3 g5
  obtain ⟨y0, y1, n', _, _, t0, t1⟩ := trod_struct2 Tryz.underlying30 g0
  simp [hI] at t0 t1
  obtain ⟨o1, e1, _, _⟩ := DataW.trod_int Tryz.underlying3 t0
  obtain ⟨o2, e2, _, _⟩ := DataW.trod_int Tryz.underlying3 t1
  simp at e1 e2 e3 e4 e5 e6 e7
  subst e1 e2 e3 e4 e5 e6 e7
  exact ⟨(o1, o2, (o3, o4, o5), o6, o7), rfl⟩

set_option maxRecDepth 100000 in
/-- an operation that came in -/
theorem open_op {H : Type} {enc : TypeId × Value → H} {w : World} {r : Reach} {b0 base : Nat} {spare : Nat → Bool} {held : Bool} {v : Value} {d : DataW H} {p : List MemPlace}
    (hv : Value.okWide Tryz.prog w r b0 32 v) (h : DataW.Trod enc Tryz.prog w base spare held 32 v d p) : ∃ o : Mv, v = opV o := by
  obtain ⟨cs, rfl, hsz⟩ := okWide_struct Tryz.underlying32 hv
  obtain ⟨fuel, hf⟩ := h
  obtain ⟨o, ho⟩ := open_opC hf
  refine ⟨o, ?_⟩
  have : cs = (opC o).toArray := by rw [← ho]; simp [Value.cells]
  rw [this]
  rfl

set_option maxRecDepth 100000 in
theorem open_stC {H : Type} {enc : TypeId × Value → H} {w : World} {base fuel : Nat} {spare : Nat → Bool} {held : Bool} {cs : List Value} {x : DataW H × List MemPlace}
    (h : DataW.trod enc Tryz.prog w base spare held fuel 68 cs = some x) : ∃ s : Stp, cs = stC s := by
  obtain ⟨y0, y1, y2, n, _, hl, t0, t1, t2⟩ := Go.Deep.trod_struct3 Tryz.underlying68 h
  have hC : Tryz.prog.cellsOf 68 = 11 := by kernel_rfl
  have hO : Tryz.prog.cellsOf 32 = 7 := by kernel_rfl
  have hB : Tryz.prog.cellsOf 4 = 1 := by kernel_rfl
  have hP : Tryz.prog.cellsOf 47 = 3 := by kernel_rfl
  have hI : Tryz.prog.cellsOf 3 = 1 := by kernel_rfl
  rw [hC] at hl
  obtain ⟨c0, c1, c2, c3, c4, c5, c6, c7, c8, c9, c10, rfl⟩ := list11 hl
  simp [hO, hB, hP] at t0 t1 t2
  obtain ⟨o, ho⟩ := open_opC t0
  obtain ⟨b, hb, _⟩ := DataW.trod_bool Tryz.underlying4 t1
  obtain ⟨z0, z1, z2, n', _, _, q0, q1, q2⟩ := Go.Deep.trod_struct3 Tryz.underlying47 t2
  simp [hI] at q0 q1 q2
  obtain ⟨p1, e1, _, _⟩ := DataW.trod_int Tryz.underlying3 q0
  obtain ⟨p2, e2, _, _⟩ := DataW.trod_int Tryz.underlying3 q1
  obtain ⟨p3, e3, _, _⟩ := DataW.trod_int Tryz.underlying3 q2
  simp at e1 e2 e3 hb
  subst e1 e2 e3 hb
  simp [opC] at ho
  obtain ⟨rfl, rfl, rfl, rfl, rfl, rfl, rfl⟩ := ho
  exact ⟨(o, b, (p1, p2, p3)), rfl⟩

set_option maxRecDepth 100000 in
/-- a step that came in -/
theorem open_step {H : Type} {enc : TypeId × Value → H} {w : World} {r : Reach} {b0 base : Nat} {spare : Nat → Bool} {held : Bool} {v : Value} {d : DataW H} {p : List MemPlace}
    (hv : Value.okWide Tryz.prog w r b0 68 v) (h : DataW.Trod enc Tryz.prog w base spare held 68 v d p) : ∃ s : Stp, v = stV s := by
  obtain ⟨cs, rfl, hsz⟩ := okWide_struct Tryz.underlying68 hv
  obtain ⟨fuel, hf⟩ := h
  obtain ⟨o, ho⟩ := open_stC hf
  refine ⟨o, ?_⟩
  have : cs = (stC o).toArray := by rw [← ho]; simp [Value.cells]
  rw [this]
  rfl
end Go.Proofs.YtijjiccgpobjmaeGreat

/- Slices of operations and histories that came in as arguments, and what they weigh. -/
namespace Go.Proofs.YtijjiccgpobjmaeGreat
open Go.ChangeShapes Go.WideShapes Go.ChangeAt Go.RowKit
open Orangery (Pl Mv Stp)

/-- a slice of such elements that came in, with what it weighs -/
theorem open_slW {α : Type} [Inhabited α] {enc : α → List Value} {k : Nat} {H : Type} {en : TypeId × Value → H} {w : World} {base fuel : Nat} {spare : Nat → Bool} {held : Bool} {v : Value} {x : DataW H × List MemPlace} {t e : TypeId}
    (hk : ∀ x, (enc x).length = k) (hpos : 0 < k) (ht : Tryz.prog.underlying t = some (.slice e)) (hC : Tryz.prog.cellsOf e = k)
    (hel : ∀ (n : Nat) (cs : List Value) (y : DataW H × List MemPlace), DataW.trod en Tryz.prog w base spare held n e cs = some y → ∃ z : α, cs = enc z)
    (h : DataW.trod en Tryz.prog w base spare held fuel t [v] = some x) : ∃ a c, ∃ l : List α, v = .slice a l.length c ∧ l.length ≤ maxLen ∧ l.length ≤ c ∧ (c ≤ maxLen ∧ (a = none → c = 0)) ∧ SlE enc w a l ∧ (l = [] ∨ ∃ m, l.length ≤ m ∧ m * Tryz.prog.bytesOf e ∈ x.1.weights Tryz.prog t) := by
  rcases Go.Deep.open_slice ht h with ⟨hcs, _⟩ | ⟨a, len, cap, m, n, D, Pq, hcs, _, hle, hm, hmm, hxx, hx⟩
  · simp at hcs
    subst hcs
    exact ⟨none, 0, [], rfl, by simp, by simp, ⟨by simp, fun _ => rfl⟩, Or.inl rfl, Or.inl rfl⟩
  · simp at hcs
    subst hcs
    have hlm : len ≤ m := by rw [hmm]; split <;> omega
    have key : ∀ i, i < len → ∃ z : α, ∀ (j : Nat) (v : Value), (enc z)[j]? = some v → w.cell? ((a.add (i * k)).add j) = some v := by
      intro i hi
      obtain ⟨cs', h1, h2⟩ := hx i (by omega)
      rw [hC] at h1
      obtain ⟨z, rfl⟩ := hel _ _ _ h2
      exact ⟨z, (cells_range h1).2⟩
    obtain ⟨f, hf⟩ := Go.Deep.choose_lt key
    refine ⟨some a, cap, (List.range len).map f, by simp, by simp; omega, by simp; omega, ⟨hm, fun e => by simp at e⟩, ?_, Or.inr ⟨m, by simpa using hlm, ?_⟩⟩
    · by_cases hz : len = 0
      · exact Or.inl (by simp [hz])
      · right
        obtain ⟨u, hu⟩ : ∃ u, (enc (f 0))[0]? = some u := ⟨_, List.getElem?_eq_getElem (by rw [hk]; exact hpos)⟩
        have h0 := hf 0 (by omega) 0 u hu
        obtain ⟨b, off, spot⟩ := a
        have hspot : spot = none := by simpa [Addr.add] using World.cell?_spot h0
        subst hspot
        have hb : b < w.heap.size := by
          have := World.block_lt_of_cell? w _ h0
          rw [Addr.add_mid, Addr.add_mid] at this
          exact this
        refine ⟨b, off, rfl, hb, fun j v hv => ?_⟩
        have hj : j < len * k := by
          have := (List.getElem?_eq_some_iff.1 hv).1
          rw [flatE_len hk] at this
          simpa using this
        have hi : j / k < len := (Nat.div_lt_iff_lt_mul hpos).2 hj
        have hc : j % k < k := Nat.mod_lt _ hpos
        have e1 : j / k * k + j % k = j := by rw [Nat.mul_comm]; exact Nat.div_add_mod j k
        have e2 := flatE_get hk ((List.range len).map f) (j / k) (by simpa using hi) (j % k) hc
        rw [e1, hv] at e2
        have e3 := hf (j / k) hi (j % k) v (by simpa using e2.symm)
        rw [Addr.add_mid, Addr.add_mid] at e3
        rw [show off + j = off + j / k * k + j % k by omega]
        exact e3
    · subst hxx
      simp only [DataW.weights, ht]
      have e : ((List.range len).map D).length + ((List.range (m - len)).map fun j => D (len + j)).length = m := by simp; omega
      rw [e]
      exact List.mem_cons_self

set_option maxRecDepth 100000 in
/-- operations that came in -/
theorem open_ops {H : Type} {enc : TypeId × Value → H} {w : World} {r : Reach} {b0 base : Nat} {spare : Nat → Bool} {held : Bool} {v : Value} {d : DataW H} {p : List MemPlace}
    (hv : Value.okWide Tryz.prog w r b0 22 v) (h : DataW.Trod enc Tryz.prog w base spare held 22 v d p) : ∃ a c, ∃ l : List Mv, v = .slice a l.length c ∧ l.length ≤ maxLen ∧ l.length ≤ c ∧ SlE opC w a l := by
  obtain ⟨a', n', c', rfl⟩ := okWide_slice Tryz.underlying22 hv
  obtain ⟨fuel, hf⟩ := h
  obtain ⟨a, c, l, e, h1, h2, _, h3, _⟩ := open_slW opC_len (by omega) Tryz.underlying22 (by kernel_rfl) (fun n cs y hy => open_opC hy) hf
  exact ⟨a, c, l, e, h1, h2, h3⟩

set_option maxRecDepth 100000 in
/-- operations that came in, and the room behind them -/
theorem open_opsN {H : Type} {enc : TypeId × Value → H} {w : World} {r : Reach} {b0 base : Nat} {spare : Nat → Bool} {held : Bool} {v : Value} {d : DataW H} {p : List MemPlace}
    (hv : Value.okWide Tryz.prog w r b0 22 v) (h : DataW.Trod enc Tryz.prog w base spare held 22 v d p) : ∃ a c, ∃ l : List Mv, v = .slice a l.length c ∧ l.length ≤ maxLen ∧ l.length ≤ c ∧ c ≤ maxLen ∧ (a = none → c = 0) ∧ SlE opC w a l := by
  obtain ⟨a', n', c', rfl⟩ := okWide_slice Tryz.underlying22 hv
  obtain ⟨fuel, hf⟩ := h
  obtain ⟨a, c, l, e, h1, h2, ⟨h4, h5⟩, h3, _⟩ := open_slW opC_len (by omega) Tryz.underlying22 (by kernel_rfl) (fun n cs y hy => open_opC hy) hf
  exact ⟨a, c, l, e, h1, h2, h4, h5, h3⟩

end Go.Proofs.YtijjiccgpobjmaeGreat

/- Ints, places with the room behind them, and views that came in as arguments. -/
namespace Go.Proofs.YtijjiccgpobjmaeGreat
open Go.ChangeShapes Go.WideShapes Go.ChangeAt Go.RowKit
open Orangery (Pl)

def intC (x : Int) : List Value := [.int .i64 x]
theorem intC_len (x : Int) : (intC x).length = 1 := rfl

theorem sli_of {w : World} {a : Option Addr} {l : List Int} (h : SlE intC w a l) : SlI w a l := by
  rcases h with h | ⟨b, off, ha, hlt, hp⟩
  · exact Or.inl h
  · refine Or.inr ⟨b, off, ha, hlt, fun i hi => ?_⟩
    have := elemE intC_len hp i hi 0 (.int .i64 l[i]) rfl
    rw [Nat.mul_one, Nat.add_zero] at this
    exact this
theorem slp_of {w : World} {a : Option Addr} {l : List Pl} (h : SlE encPl w a l) : SlP w a l := by
  rcases h with h | ⟨b, off, ha, hlt, hp⟩
  · exact Or.inl h
  · refine Or.inr ⟨b, off, ha, hlt, fun i hi => ?_⟩
    have hr := elemE encPl_len hp i hi
    exact ⟨hr 0 _ rfl, hr 1 _ rfl, hr 2 _ rfl⟩

theorem open_intC {H : Type} {enc : TypeId × Value → H} {w : World} {base fuel : Nat} {spare : Nat → Bool} {held : Bool} {cs : List Value} {x : DataW H × List MemPlace}
    (h : DataW.trod enc Tryz.prog w base spare held fuel 3 cs = some x) : ∃ z : Int, cs = intC z := by
  obtain ⟨q, e, _, _⟩ := DataW.trod_int Tryz.underlying3 h
  exact ⟨q, e⟩
set_option maxRecDepth 100000 in
theorem open_plC {H : Type} {enc : TypeId × Value → H} {w : World} {base fuel : Nat} {spare : Nat → Bool} {held : Bool} {cs : List Value} {x : DataW H × List MemPlace}
    (h : DataW.trod enc Tryz.prog w base spare held fuel 47 cs = some x) : ∃ z : Pl, cs = encPl z := by
  obtain ⟨y0, y1, y2, n', _, hl, t0, t1, t2⟩ := Go.Deep.trod_struct3 Tryz.underlying47 h
  have hC : Tryz.prog.cellsOf 47 = 3 := by kernel_rfl
  have hI : Tryz.prog.cellsOf 3 = 1 := by kernel_rfl
  rw [hC] at hl
  obtain ⟨c0, c1, c2, rfl⟩ : ∃ c0 c1 c2, cs = [c0, c1, c2] := by
    match cs, hl with
    | [x, y, z], _ => exact ⟨x, y, z, rfl⟩
  simp [hI] at t0 t1 t2
  obtain ⟨q0, e0, _, _⟩ := DataW.trod_int Tryz.underlying3 t0
  obtain ⟨q1, e1, _, _⟩ := DataW.trod_int Tryz.underlying3 t1
  obtain ⟨q2, e2, _, _⟩ := DataW.trod_int Tryz.underlying3 t2
  simp at e0 e1 e2
  subst e0 e1 e2
  exact ⟨(q0, q1, q2), rfl⟩

set_option maxRecDepth 100000 in
/-- ints that came in -/
theorem open_ints {H : Type} {enc : TypeId × Value → H} {w : World} {r : Reach} {b0 base : Nat} {spare : Nat → Bool} {held : Bool} {v : Value} {d : DataW H} {p : List MemPlace}
    (hv : Value.okWide Tryz.prog w r b0 23 v) (h : DataW.Trod enc Tryz.prog w base spare held 23 v d p) : ∃ a c, ∃ l : List Int, v = .slice a l.length c ∧ l.length ≤ maxLen ∧ (l.length ≤ c ∧ c ≤ maxLen) ∧ SlI w a l := by
  obtain ⟨a', n', c', rfl⟩ := okWide_slice Tryz.underlying23 hv
  obtain ⟨fuel, hf⟩ := h
  obtain ⟨a, c, l, e, h1, h2, ⟨h4, _⟩, h3, _⟩ := open_slW intC_len (by omega) Tryz.underlying23 (by kernel_rfl) (fun n cs y hy => open_intC hy) hf
  exact ⟨a, c, l, e, h1, ⟨h2, h4⟩, sli_of h3⟩

set_option maxRecDepth 100000 in
theorem open_view {H : Type} {enc : TypeId × Value → H} {w : World} {r : Reach} {b0 base : Nat} {spare : Nat → Bool} {held : Bool} {v : Value} {d : DataW H} {p : List MemPlace}
    (hv : Value.okWide Tryz.prog w r b0 26 v) (h : DataW.Trod enc Tryz.prog w base spare held 26 v d p) :
    ∃ aR aK aW cR cK cW, ∃ (R : List Int) (K W : List Pl), v = .agg #[.slice aR R.length cR, .slice aK K.length cK, .slice aW W.length cW] ∧ (R.length ≤ maxLen ∧ K.length ≤ maxLen ∧ W.length ≤ maxLen) ∧ ((aK = none → cK = 0) ∧ (aW = none → cW = 0)) ∧ SlI w aR R ∧ SlP w aK K ∧ SlP w aW W := by
  obtain ⟨cs, rfl, hsz⟩ := okWide_struct Tryz.underlying26 hv
  have hC : Tryz.prog.cellsOf 26 = 3 := by kernel_rfl
  have hD : Tryz.prog.cellsOf 23 = 1 := by kernel_rfl
  have hF : Tryz.prog.cellsOf 24 = 1 := by kernel_rfl
  rw [hC] at hsz
  obtain ⟨c0, c1, c2, rfl⟩ : ∃ c0 c1 c2, cs = #[c0, c1, c2] := by
    have h1 : cs.toList.length = 3 := by simpa using hsz
    cases cs with
    | mk l =>
      match l, h1 with
      | [x, y, z], _ => exact ⟨x, y, z, rfl⟩
  obtain ⟨fuel, hf⟩ := h
  obtain ⟨y0, y1, y2, n, _, _, h0, h1, h2⟩ := Go.Deep.trod_struct3 Tryz.underlying26 hf
  simp [Value.cells, hD, hF] at h0 h1 h2
  obtain ⟨aR, cR, R, rfl, m0, _, _, hR, _⟩ := open_slW intC_len (by omega) Tryz.underlying23 (by kernel_rfl) (fun n cs y hy => open_intC hy) h0
  obtain ⟨aK, cK, K, rfl, m1, _, ⟨_, n1⟩, hK, _⟩ := open_slW encPl_len (by omega) Tryz.underlying24 (by kernel_rfl) (fun n cs y hy => open_plC hy) h1
  obtain ⟨aW, cW, W, rfl, m2, _, ⟨_, n2⟩, hW, _⟩ := open_slW encPl_len (by omega) Tryz.underlying24 (by kernel_rfl) (fun n cs y hy => open_plC hy) h2
  exact ⟨aR, aK, aW, cR, cK, cW, R, K, W, rfl, ⟨m0, m1, m2⟩, ⟨n1, n2⟩, sli_of hR, slp_of hK, slp_of hW⟩
end Go.Proofs.YtijjiccgpobjmaeGreat

/- Mail that came in as an argument: its lists, and what they weigh. -/
namespace Go.Proofs.YtijjiccgpobjmaeGreat
open Go.ChangeShapes Go.WideShapes Go.ChangeAt Go.RowKit
open Orangery (Pl Mv Vw Dl Ml noVw noDl noMl)

theorem weights_mem_all {H : Type} {P : Program} {e : TypeId} {d : DataW H} {n : Nat} (hn : n ∈ d.weights P e) : ∀ {l : List (DataW H)}, d ∈ l → n ∈ DataW.weightsAll P e l
  | [], h => by simp at h
  | x :: l, h => by
    simp only [DataW.weightsAll, List.mem_append]
    rcases List.mem_cons.1 h with rfl | h
    · exact Or.inl hn
    · exact Or.inr (weights_mem_all hn h)
/-- a slice of such elements that came in, where each weighs no more than the reach -/
theorem open_slZ {α : Type} [Inhabited α] {enc : α → List Value} {k : Nat} {H : Type} {en : TypeId × Value → H} {w : World} {base fuel : Nat} {spare : Nat → Bool} {held : Bool} {v : Value} {x : DataW H × List MemPlace} {t e : TypeId}
    (hk : ∀ x, (enc x).length = k) (hpos : 0 < k) (ht : Tryz.prog.underlying t = some (.slice e)) (hC : Tryz.prog.cellsOf e = k)
    (hel : ∀ (n : Nat) (cs : List Value) (y : DataW H × List MemPlace), DataW.trod en Tryz.prog w base spare held n e cs = some y → (y.1.weights Tryz.prog e).all (· ≤ reachBytes) = true → ∃ z : α, cs = enc z)
    (h : DataW.trod en Tryz.prog w base spare held fuel t [v] = some x) (hz : (x.1.weights Tryz.prog t).all (· ≤ reachBytes) = true) : ∃ a c, ∃ l : List α, v = .slice a l.length c ∧ l.length ≤ maxLen ∧ l.length ≤ c ∧ c ≤ maxLen ∧ SlE enc w a l := by
  rcases Go.Deep.open_slice ht h with ⟨hcs, _⟩ | ⟨a, len, cap, m, n, D, Pq, hcs, _, hle, hm, hmm, hxx, hx⟩
  · simp at hcs
    subst hcs
    exact ⟨none, 0, [], rfl, by simp, by simp, by simp, Or.inl rfl⟩
  · simp at hcs
    subst hcs
    have hlm : len ≤ m := by rw [hmm]; split <;> omega
    have key : ∀ i, i < len → ∃ z : α, ∀ (j : Nat) (v : Value), (enc z)[j]? = some v → w.cell? ((a.add (i * k)).add j) = some v := by
      intro i hi
      obtain ⟨cs', h1, h2⟩ := hx i (by omega)
      rw [hC] at h1
      obtain ⟨z, rfl⟩ := hel _ _ _ h2 (List.all_eq_true.2 fun q hq => List.all_eq_true.1 hz q (by
        subst hxx
        simp only [DataW.weights, ht]
        refine List.mem_cons_of_mem _ (List.mem_append.2 (Or.inl ?_))
        exact weights_mem_all hq (List.mem_map.2 ⟨i, List.mem_range.2 hi, rfl⟩)))
      exact ⟨z, (cells_range h1).2⟩
    obtain ⟨f, hf⟩ := Go.Deep.choose_lt key
    refine ⟨some a, cap, (List.range len).map f, by simp, by simp; omega, by simp; omega, hm, ?_⟩
    by_cases hz : len = 0
    · exact Or.inl (by simp [hz])
    · right
      obtain ⟨u, hu⟩ : ∃ u, (enc (f 0))[0]? = some u := ⟨_, List.getElem?_eq_getElem (by rw [hk]; exact hpos)⟩
      have h0 := hf 0 (by omega) 0 u hu
      obtain ⟨b, off, spot⟩ := a
      have hspot : spot = none := by simpa [Addr.add] using World.cell?_spot h0
      subst hspot
      have hb : b < w.heap.size := by
        have := World.block_lt_of_cell? w _ h0
        rw [Addr.add_mid, Addr.add_mid] at this
        exact this
      refine ⟨b, off, rfl, hb, fun j v hv => ?_⟩
      have hj : j < len * k := by
        have := (List.getElem?_eq_some_iff.1 hv).1
        rw [flatE_len hk] at this
        simpa using this
      have hi : j / k < len := (Nat.div_lt_iff_lt_mul hpos).2 hj
      have hc : j % k < k := Nat.mod_lt _ hpos
      have e1 : j / k * k + j % k = j := by rw [Nat.mul_comm]; exact Nat.div_add_mod j k
      have e2 := flatE_get hk ((List.range len).map f) (j / k) (by simpa using hi) (j % k) hc
      rw [e1, hv] at e2
      have e3 := hf (j / k) hi (j % k) v (by simpa using e2.symm)
      rw [Addr.add_mid, Addr.add_mid] at e3
      rw [show off + j = off + j / k * k + j % k by omega]
      exact e3
theorem list21 {cs : List Value} (h : cs.length = 21) : ∃ a0 a1 a2 a3 a4 a5 a6 a7 a8 a9 b0 b1 b2 b3 b4 b5 b6 b7 b8 b9 c0, cs = [a0, a1, a2, a3, a4, a5, a6, a7, a8, a9, b0, b1, b2, b3, b4, b5, b6, b7, b8, b9, c0] := by
  match cs, h with
  | [a0, a1, a2, a3, a4, a5, a6, a7, a8, a9, b0, b1, b2, b3, b4, b5, b6, b7, b8, b9, c0], _ => exact ⟨a0, a1, a2, a3, a4, a5, a6, a7, a8, a9, b0, b1, b2, b3, b4, b5, b6, b7, b8, b9, c0, rfl⟩
theorem few_of {n k : Nat} {l : List Nat} (hk : 8 ≤ k) (hz : l.all (· ≤ reachBytes) = true) {m : Nat} (hm : n ≤ m) (hw : m * k ∈ l) : n ≤ 17592186043904 := by
  have h := List.all_eq_true.1 hz _ hw
  have h2 : m * k ≤ reachBytes := by simpa using h
  have h3 : m * 8 ≤ m * k := Nat.mul_le_mul_left m hk
  unfold reachBytes at h2
  omega

set_option maxHeartbeats 2000000 in
set_option maxRecDepth 100000 in
theorem open_mlC {H : Type} {enc : TypeId × Value → H} {w : World} {base fuel : Nat} {spare : Nat → Bool} {held : Bool} {cs : List Value} {x : DataW H × List MemPlace}
    (h : DataW.trod enc Tryz.prog w base spare held fuel 52 cs = some x) (hz : (x.1.weights Tryz.prog 52).all (· ≤ reachBytes) = true) : ∃ z : Mm, cs = mlC z ∧ MlIn w z ∧ (z.2.2.2.1.1 = none → z.2.2.2.1.2 = 0) ∧ (z.2.2.2.2.2.1 = none → z.2.2.2.2.2.2 = 0) := by
  obtain ⟨xs, n, _, hd, hl, hlen, hg⟩ := DataW.trod_struct Tryz.underlying52 h
  have hC : Tryz.prog.cellsOf 52 = 21 := by kernel_rfl
  have hI : Tryz.prog.cellsOf 3 = 1 := by kernel_rfl
  have hD : Tryz.prog.cellsOf 23 = 1 := by kernel_rfl
  have hF : Tryz.prog.cellsOf 24 = 1 := by kernel_rfl
  have hO : Tryz.prog.cellsOf 32 = 7 := by kernel_rfl
  have hV : Tryz.prog.cellsOf 26 = 3 := by kernel_rfl
  have hE : Tryz.prog.cellsOf 50 = 4 := by kernel_rfl
  have hbI : Tryz.prog.bytesOf 3 = 8 := by kernel_rfl
  have hbP : Tryz.prog.bytesOf 47 = 24 := by kernel_rfl
  rw [hC] at hl
  obtain ⟨a0, a1, a2, a3, a4, a5, a6, a7, a8, a9, b0, b1, b2, b3, b4, b5, b6, b7, b8, b9, c0, rfl⟩ := list21 hl
  have hx : xs.length = 10 := hlen
  have g0 := hg 0 _ rfl
  have g1 := hg 1 _ rfl
  have g2 := hg 2 _ rfl
  have g3 := hg 3 _ rfl
  have g4 := hg 4 _ rfl
  have g5 := hg 5 _ rfl
  have g6 := hg 6 _ rfl
  have g7 := hg 7 _ rfl
  have g8 := hg 8 _ rfl
  have g9 := hg 9 _ rfl
  clear hg h
  simp [hI, hO, hV, hE] at g0 g1 g2 g3 g4 g5 g6 g7 g8 g9
  rw [List.getElem?_eq_getElem (by omega)] at g0 g1 g2 g3 g4 g5 g6 g7 g8 g9
  obtain ⟨k, e0, _, _⟩ := DataW.trod_int Tryz.underlying3 g0
  obtain ⟨u, e1, _, _⟩ := DataW.trod_int Tryz.underlying3 g1
  obtain ⟨f, e2, _, _⟩ := DataW.trod_int Tryz.underlying3 g2
  obtain ⟨s, e3, _, _⟩ := DataW.trod_int Tryz.underlying3 g3
  obtain ⟨t, e4, _, _⟩ := DataW.trod_int Tryz.underlying3 g4
  obtain ⟨nn, e5, _, _⟩ := DataW.trod_int Tryz.underlying3 g5
  obtain ⟨p, e6, _, _⟩ := DataW.trod_int Tryz.underlying3 g6
  simp at e0 e1 e2 e3 e4 e5 e6
  subst e0 e1 e2 e3 e4 e5 e6
  obtain ⟨o, ho⟩ := open_opC g7
  simp [opC] at ho
  obtain ⟨rfl, rfl, rfl, rfl, rfl, rfl, rfl⟩ := ho
  obtain ⟨ys, n8, _, hd8, _, hlen8, hg8⟩ := DataW.trod_struct Tryz.underlying26 g8
  obtain ⟨zs, n9, _, hd9, _, hlen9, hg9⟩ := DataW.trod_struct Tryz.underlying50 g9
  have hy : ys.length = 3 := hlen8
  have hzl : zs.length = 4 := hlen9
  have h0 := hg8 0 _ rfl
  have h1 := hg8 1 _ rfl
  have h2 := hg8 2 _ rfl
  have h3 := hg9 0 _ rfl
  have h4 := hg9 1 _ rfl
  have h5 := hg9 2 _ rfl
  have h6 := hg9 3 _ rfl
  clear hg8 hg9
  simp [hD, hF] at h0 h1 h2 h3 h4 h5 h6
  rw [List.getElem?_eq_getElem (by omega)] at h0 h1 h2 h3 h4 h5 h6
  have e : x.1 = .agg (xs.map (·.1)) := congrArg Prod.fst hd
  have e8' : (xs[8]'(by omega)).1 = .agg (ys.map (·.1)) := congrArg Prod.fst hd8
  have e9' : (xs[9]'(by omega)).1 = .agg (zs.map (·.1)) := congrArg Prod.fst hd9
  have mR : ∀ q ∈ (ys[0]'(by omega)).1.weights Tryz.prog 23, q ∈ x.1.weights Tryz.prog 52 := by
    intro q hq
    rw [e]
    simp only [DataW.weights, Tryz.underlying52]
    refine DataW.weights_mem_each (j := 8) (d := (xs[8]'(by omega)).1) rfl (by rw [List.getElem?_map, List.getElem?_eq_getElem (by omega)]; rfl) _ ?_
    rw [e8']
    simp only [DataW.weights, Tryz.underlying26]
    exact DataW.weights_mem_each (j := 0) (d := (ys[0]'(by omega)).1) rfl (by rw [List.getElem?_map, List.getElem?_eq_getElem (by omega)]; rfl) _ hq
  have mK : ∀ q ∈ (ys[1]'(by omega)).1.weights Tryz.prog 24, q ∈ x.1.weights Tryz.prog 52 := by
    intro q hq
    rw [e]
    simp only [DataW.weights, Tryz.underlying52]
    refine DataW.weights_mem_each (j := 8) (d := (xs[8]'(by omega)).1) rfl (by rw [List.getElem?_map, List.getElem?_eq_getElem (by omega)]; rfl) _ ?_
    rw [e8']
    simp only [DataW.weights, Tryz.underlying26]
    exact DataW.weights_mem_each (j := 1) (d := (ys[1]'(by omega)).1) rfl (by rw [List.getElem?_map, List.getElem?_eq_getElem (by omega)]; rfl) _ hq
  have mV : ∀ q ∈ (ys[2]'(by omega)).1.weights Tryz.prog 24, q ∈ x.1.weights Tryz.prog 52 := by
    intro q hq
    rw [e]
    simp only [DataW.weights, Tryz.underlying52]
    refine DataW.weights_mem_each (j := 8) (d := (xs[8]'(by omega)).1) rfl (by rw [List.getElem?_map, List.getElem?_eq_getElem (by omega)]; rfl) _ ?_
    rw [e8']
    simp only [DataW.weights, Tryz.underlying26]
    exact DataW.weights_mem_each (j := 2) (d := (ys[2]'(by omega)).1) rfl (by rw [List.getElem?_map, List.getElem?_eq_getElem (by omega)]; rfl) _ hq
  have mG : ∀ q ∈ (zs[0]'(by omega)).1.weights Tryz.prog 23, q ∈ x.1.weights Tryz.prog 52 := by
    intro q hq
    rw [e]
    simp only [DataW.weights, Tryz.underlying52]
    refine DataW.weights_mem_each (j := 9) (d := (xs[9]'(by omega)).1) rfl (by rw [List.getElem?_map, List.getElem?_eq_getElem (by omega)]; rfl) _ ?_
    rw [e9']
    simp only [DataW.weights, Tryz.underlying50]
    exact DataW.weights_mem_each (j := 0) (d := (zs[0]'(by omega)).1) rfl (by rw [List.getElem?_map, List.getElem?_eq_getElem (by omega)]; rfl) _ hq
  have mHh : ∀ q ∈ (zs[1]'(by omega)).1.weights Tryz.prog 24, q ∈ x.1.weights Tryz.prog 52 := by
    intro q hq
    rw [e]
    simp only [DataW.weights, Tryz.underlying52]
    refine DataW.weights_mem_each (j := 9) (d := (xs[9]'(by omega)).1) rfl (by rw [List.getElem?_map, List.getElem?_eq_getElem (by omega)]; rfl) _ ?_
    rw [e9']
    simp only [DataW.weights, Tryz.underlying50]
    exact DataW.weights_mem_each (j := 1) (d := (zs[1]'(by omega)).1) rfl (by rw [List.getElem?_map, List.getElem?_eq_getElem (by omega)]; rfl) _ hq
  have mX : ∀ q ∈ (zs[2]'(by omega)).1.weights Tryz.prog 23, q ∈ x.1.weights Tryz.prog 52 := by
    intro q hq
    rw [e]
    simp only [DataW.weights, Tryz.underlying52]
    refine DataW.weights_mem_each (j := 9) (d := (xs[9]'(by omega)).1) rfl (by rw [List.getElem?_map, List.getElem?_eq_getElem (by omega)]; rfl) _ ?_
    rw [e9']
    simp only [DataW.weights, Tryz.underlying50]
    exact DataW.weights_mem_each (j := 2) (d := (zs[2]'(by omega)).1) rfl (by rw [List.getElem?_map, List.getElem?_eq_getElem (by omega)]; rfl) _ hq
  have mY : ∀ q ∈ (zs[3]'(by omega)).1.weights Tryz.prog 24, q ∈ x.1.weights Tryz.prog 52 := by
    intro q hq
    rw [e]
    simp only [DataW.weights, Tryz.underlying52]
    refine DataW.weights_mem_each (j := 9) (d := (xs[9]'(by omega)).1) rfl (by rw [List.getElem?_map, List.getElem?_eq_getElem (by omega)]; rfl) _ ?_
    rw [e9']
    simp only [DataW.weights, Tryz.underlying50]
    exact DataW.weights_mem_each (j := 3) (d := (zs[3]'(by omega)).1) rfl (by rw [List.getElem?_map, List.getElem?_eq_getElem (by omega)]; rfl) _ hq
  obtain ⟨qR, cR, R, rfl, _, _, ⟨_, nR⟩, lR, wR⟩ := open_slW intC_len (by omega) Tryz.underlying23 (by kernel_rfl) (fun n cs y hy => open_intC hy) h0
  obtain ⟨qK, cK, K, rfl, _, _, ⟨_, nK⟩, lK, wK⟩ := open_slW encPl_len (by omega) Tryz.underlying24 (by kernel_rfl) (fun n cs y hy => open_plC hy) h1
  obtain ⟨qV, cV, V, rfl, _, _, ⟨_, nV⟩, lV, wV⟩ := open_slW encPl_len (by omega) Tryz.underlying24 (by kernel_rfl) (fun n cs y hy => open_plC hy) h2
  obtain ⟨qG, cG, G, rfl, _, _, ⟨_, nG⟩, lG, wG⟩ := open_slW intC_len (by omega) Tryz.underlying23 (by kernel_rfl) (fun n cs y hy => open_intC hy) h3
  obtain ⟨qHh, cHh, Hh, rfl, _, _, ⟨_, nHh⟩, lHh, wHh⟩ := open_slW encPl_len (by omega) Tryz.underlying24 (by kernel_rfl) (fun n cs y hy => open_plC hy) h4
  obtain ⟨qX, cX, X, rfl, _, _, ⟨_, nX⟩, lX, wX⟩ := open_slW intC_len (by omega) Tryz.underlying23 (by kernel_rfl) (fun n cs y hy => open_intC hy) h5
  obtain ⟨qY, cY, Y, rfl, _, _, ⟨_, nY⟩, lY, wY⟩ := open_slW encPl_len (by omega) Tryz.underlying24 (by kernel_rfl) (fun n cs y hy => open_plC hy) h6
  have fR : R.length ≤ 17592186043904 := by
    rcases wR with rfl | ⟨m, hm, hw⟩
    · simp
    · rw [hbI] at hw
      exact few_of (by omega) hz hm (mR _ hw)
  have fK : K.length ≤ 17592186043904 := by
    rcases wK with rfl | ⟨m, hm, hw⟩
    · simp
    · rw [hbP] at hw
      exact few_of (by omega) hz hm (mK _ hw)
  have fV : V.length ≤ 17592186043904 := by
    rcases wV with rfl | ⟨m, hm, hw⟩
    · simp
    · rw [hbP] at hw
      exact few_of (by omega) hz hm (mV _ hw)
  have fG : G.length ≤ 17592186043904 := by
    rcases wG with rfl | ⟨m, hm, hw⟩
    · simp
    · rw [hbI] at hw
      exact few_of (by omega) hz hm (mG _ hw)
  have fHh : Hh.length ≤ 17592186043904 := by
    rcases wHh with rfl | ⟨m, hm, hw⟩
    · simp
    · rw [hbP] at hw
      exact few_of (by omega) hz hm (mHh _ hw)
  have fX : X.length ≤ 17592186043904 := by
    rcases wX with rfl | ⟨m, hm, hw⟩
    · simp
    · rw [hbI] at hw
      exact few_of (by omega) hz hm (mX _ hw)
  have fY : Y.length ≤ 17592186043904 := by
    rcases wY with rfl | ⟨m, hm, hw⟩
    · simp
    · rw [hbP] at hw
      exact few_of (by omega) hz hm (mY _ hw)
  exact ⟨(((k, u, f, s, t, nn, p), (_, _, (_, _, _), _, _), (R, K, V), (G, Hh, X, Y)), ((qR, cR), (qK, cK), (qV, cV)), (qG, cG), (qHh, cHh), (qX, cX), (qY, cY)), rfl,
    ⟨sli_of lR, slp_of lK, slp_of lV, sli_of lG, slp_of lHh, sli_of lX, slp_of lY, ⟨fR, fK, fV, fG, fHh, fX, fY⟩, ⟨nK, nV⟩⟩, nHh, nY⟩

set_option maxRecDepth 100000 in
/-- one mail that came in -/
theorem open_mail {H : Type} {enc : TypeId × Value → H} {w : World} {r : Reach} {b0 base : Nat} {spare : Nat → Bool} {held : Bool} {v : Value} {d : DataW H} {p : List MemPlace}
    (hv : Value.okWide Tryz.prog w r b0 52 v) (h : DataW.Trod enc Tryz.prog w base spare held 52 v d p) (hz : (d.weights Tryz.prog 52).all (· ≤ reachBytes) = true) : ∃ x : Mm, v = x.val ∧ MlIn w x := by
  obtain ⟨cs, rfl, hsz⟩ := okWide_struct Tryz.underlying52 hv
  obtain ⟨fuel, hf⟩ := h
  obtain ⟨x, e, hx, _, _⟩ := open_mlC hf hz
  refine ⟨x, ?_, hx⟩
  have e' : cs.toList = mlC x := e
  have : cs = (mlC x).toArray := by rw [← e']
  rw [this]
set_option maxRecDepth 100000 in
/-- a list of mail that came in -/
theorem open_mails {H : Type} {enc : TypeId × Value → H} {w : World} {r : Reach} {b0 base : Nat} {spare : Nat → Bool} {held : Bool} {v : Value} {d : DataW H} {p : List MemPlace}
    (hv : Value.okWide Tryz.prog w r b0 80 v) (h : DataW.Trod enc Tryz.prog w base spare held 80 v d p) (hz : (d.weights Tryz.prog 80).all (· ≤ reachBytes) = true) :
    ∃ a c, ∃ X : List Mm, v = .slice a X.length c ∧ X.length ≤ maxLen ∧ X.length ≤ c ∧ c ≤ maxLen ∧ SlM w a X := by
  obtain ⟨a', n', c', rfl⟩ := okWide_slice Tryz.underlying80 hv
  obtain ⟨fuel, hf⟩ := h
  haveI : Inhabited {z : Mm // MlIn w z} := ⟨⟨((((0, 0, 0, 0, 0, 0, 0), Orangery.noOp, noVw, noDl), ((none, 0), (none, 0), (none, 0)), ((none, 0), (none, 0), (none, 0), (none, 0))) : Mm), ⟨Or.inl rfl, Or.inl rfl, Or.inl rfl, Or.inl rfl, Or.inl rfl, Or.inl rfl, Or.inl rfl, by simp [noVw, noDl], ⟨fun _ => rfl, fun _ => rfl⟩⟩⟩⟩
  obtain ⟨a, c, l, ev, m0, r0, k0, hS⟩ := open_slZ (enc := fun z : {z : Mm // MlIn w z} => mlC z.1) (fun z => mlC_len z.1) (by omega) Tryz.underlying80 (by kernel_rfl) (fun n cs y hy hz => by
    obtain ⟨z, e, hz, _, _⟩ := open_mlC hy hz
    exact ⟨⟨z, hz⟩, e⟩) hf hz
  refine ⟨a, c, l.map (·.1), by rw [ev]; simp, by simpa using m0, by simpa using r0, k0, ?_, ?_⟩
  · rcases hS with rfl | ⟨b, off, e, hb, hr⟩
    · exact Or.inl rfl
    · refine Or.inr ⟨b, off, e, hb, ?_⟩
      rw [List.flatMap_map]
      exact hr
  · intro x hx
    obtain ⟨z, _, rfl⟩ := List.mem_map.1 hx
    exact z.2
theorem sized_at {H : Type} {ts : List TypeId} {ds : List (DataW H)} (h : (DataW.weightsEach Tryz.prog ts ds).all (· ≤ reachBytes) = true) {j : Nat} {ty : TypeId} {d : DataW H} (ht : ts[j]? = some ty) (hd : ds[j]? = some d) : (d.weights Tryz.prog ty).all (· ≤ reachBytes) = true :=
  List.all_eq_true.2 fun x hx => List.all_eq_true.1 h x (DataW.weights_mem_each ht hd _ hx)
end Go.Proofs.YtijjiccgpobjmaeGreat

/- Clients that came in as arguments: their lists, and what they weigh. -/
namespace Go.Proofs.YtijjiccgpobjmaeGreat
open Go.ChangeShapes Go.WideShapes Go.ChangeAt Go.RowKit
open Orangery (Pl Mv Vw Ml Cl)

set_option maxRecDepth 100000 in
/-- one mail that came in: no room behind nil, in its delta either -/
theorem open_mailN {H : Type} {enc : TypeId × Value → H} {w : World} {r : Reach} {b0 base : Nat} {spare : Nat → Bool} {held : Bool} {v : Value} {d : DataW H} {p : List MemPlace}
    (hv : Value.okWide Tryz.prog w r b0 52 v) (h : DataW.Trod enc Tryz.prog w base spare held 52 v d p) (hz : (d.weights Tryz.prog 52).all (· ≤ reachBytes) = true) : ∃ x : Mm, v = x.val ∧ MlIn w x ∧ MlNil x := by
  obtain ⟨cs, rfl, hsz⟩ := okWide_struct Tryz.underlying52 hv
  obtain ⟨fuel, hf⟩ := h
  obtain ⟨x, e, hx, h1, h2⟩ := open_mlC hf hz
  refine ⟨x, ?_, hx, h1, h2⟩
  have e' : cs.toList = mlC x := e
  have : cs = (mlC x).toArray := by rw [← e']
  rw [this]
theorem list8 {cs : List Value} (h : cs.length = 8) : ∃ a0 a1 a2 a3 a4 a5 a6 a7, cs = [a0, a1, a2, a3, a4, a5, a6, a7] := by
  match cs, h with
  | [a0, a1, a2, a3, a4, a5, a6, a7], _ => exact ⟨a0, a1, a2, a3, a4, a5, a6, a7, rfl⟩

set_option maxHeartbeats 2000000 in
set_option maxRecDepth 100000 in
theorem open_clC {H : Type} {enc : TypeId × Value → H} {w : World} {base fuel : Nat} {spare : Nat → Bool} {held : Bool} {cs : List Value} {x : DataW H × List MemPlace}
    (h : DataW.trod enc Tryz.prog w base spare held fuel 28 cs = some x) (hz : (x.1.weights Tryz.prog 28).all (· ≤ reachBytes) = true) : ∃ z : Cm, cs = clC z ∧ ClIn w z ∧ (z.2.1.1 = none → z.2.1.2 = 0) ∧ z.1.2.1.length ≤ z.2.1.2 := by
  obtain ⟨xs, n, _, hd, hl, hlen, hg⟩ := DataW.trod_struct Tryz.underlying28 h
  have hC : Tryz.prog.cellsOf 28 = 8 := by kernel_rfl
  have hI : Tryz.prog.cellsOf 3 = 1 := by kernel_rfl
  have hD : Tryz.prog.cellsOf 23 = 1 := by kernel_rfl
  have hF : Tryz.prog.cellsOf 24 = 1 := by kernel_rfl
  have hO : Tryz.prog.cellsOf 22 = 1 := by kernel_rfl
  have hV : Tryz.prog.cellsOf 26 = 3 := by kernel_rfl
  have hbI : Tryz.prog.bytesOf 3 = 8 := by kernel_rfl
  have hbP : Tryz.prog.bytesOf 47 = 24 := by kernel_rfl
  have hbO : Tryz.prog.bytesOf 32 = 56 := by kernel_rfl
  rw [hC] at hl
  obtain ⟨a0, a1, a2, a3, a4, a5, a6, a7, rfl⟩ := list8 hl
  have hx : xs.length = 6 := hlen
  have g0 := hg 0 _ rfl
  have g1 := hg 1 _ rfl
  have g2 := hg 2 _ rfl
  have g3 := hg 3 _ rfl
  have g4 := hg 4 _ rfl
  have g5 := hg 5 _ rfl
  clear hg h
  simp [hI, hO, hV] at g0 g1 g2 g3 g4 g5
  rw [List.getElem?_eq_getElem (by omega)] at g0 g1 g2 g3 g4 g5
  obtain ⟨f, e0, _, _⟩ := DataW.trod_int Tryz.underlying3 g0
  obtain ⟨t, e1, _, _⟩ := DataW.trod_int Tryz.underlying3 g1
  obtain ⟨s, e2, _, _⟩ := DataW.trod_int Tryz.underlying3 g2
  obtain ⟨v, e4, _, _⟩ := DataW.trod_int Tryz.underlying3 g4
  simp at e0 e1 e2 e4
  subst e0 e1 e2 e4
  obtain ⟨ys, n8, _, hd8, _, hlen8, hg8⟩ := DataW.trod_struct Tryz.underlying26 g5
  have hy : ys.length = 3 := hlen8
  have h0 := hg8 0 _ rfl
  have h1 := hg8 1 _ rfl
  have h2 := hg8 2 _ rfl
  clear hg8
  simp [hD, hF] at h0 h1 h2
  rw [List.getElem?_eq_getElem (by omega)] at h0 h1 h2
  have e : x.1 = .agg (xs.map (·.1)) := congrArg Prod.fst hd
  have e8' : (xs[5]'(by omega)).1 = .agg (ys.map (·.1)) := congrArg Prod.fst hd8
  have mP : ∀ q ∈ (xs[3]'(by omega)).1.weights Tryz.prog 22, q ∈ x.1.weights Tryz.prog 28 := by
    intro q hq
    rw [e]
    simp only [DataW.weights, Tryz.underlying28]
    exact DataW.weights_mem_each (j := 3) (d := (xs[3]'(by omega)).1) rfl (by rw [List.getElem?_map, List.getElem?_eq_getElem (by omega)]; rfl) _ hq
  have mR : ∀ q ∈ (ys[0]'(by omega)).1.weights Tryz.prog 23, q ∈ x.1.weights Tryz.prog 28 := by
    intro q hq
    rw [e]
    simp only [DataW.weights, Tryz.underlying28]
    refine DataW.weights_mem_each (j := 5) (d := (xs[5]'(by omega)).1) rfl (by rw [List.getElem?_map, List.getElem?_eq_getElem (by omega)]; rfl) _ ?_
    rw [e8']
    simp only [DataW.weights, Tryz.underlying26]
    exact DataW.weights_mem_each (j := 0) (d := (ys[0]'(by omega)).1) rfl (by rw [List.getElem?_map, List.getElem?_eq_getElem (by omega)]; rfl) _ hq
  have mK : ∀ q ∈ (ys[1]'(by omega)).1.weights Tryz.prog 24, q ∈ x.1.weights Tryz.prog 28 := by
    intro q hq
    rw [e]
    simp only [DataW.weights, Tryz.underlying28]
    refine DataW.weights_mem_each (j := 5) (d := (xs[5]'(by omega)).1) rfl (by rw [List.getElem?_map, List.getElem?_eq_getElem (by omega)]; rfl) _ ?_
    rw [e8']
    simp only [DataW.weights, Tryz.underlying26]
    exact DataW.weights_mem_each (j := 1) (d := (ys[1]'(by omega)).1) rfl (by rw [List.getElem?_map, List.getElem?_eq_getElem (by omega)]; rfl) _ hq
  have mV : ∀ q ∈ (ys[2]'(by omega)).1.weights Tryz.prog 24, q ∈ x.1.weights Tryz.prog 28 := by
    intro q hq
    rw [e]
    simp only [DataW.weights, Tryz.underlying28]
    refine DataW.weights_mem_each (j := 5) (d := (xs[5]'(by omega)).1) rfl (by rw [List.getElem?_map, List.getElem?_eq_getElem (by omega)]; rfl) _ ?_
    rw [e8']
    simp only [DataW.weights, Tryz.underlying26]
    exact DataW.weights_mem_each (j := 2) (d := (ys[2]'(by omega)).1) rfl (by rw [List.getElem?_map, List.getElem?_eq_getElem (by omega)]; rfl) _ hq
  obtain ⟨qP, cP, P, rfl, _, capP, ⟨_, nP⟩, lP, wP⟩ := open_slW opC_len (by omega) Tryz.underlying22 (by kernel_rfl) (fun n cs y hy => open_opC hy) g3
  obtain ⟨qR, cR, R, rfl, _, _, ⟨_, nR⟩, lR, wR⟩ := open_slW intC_len (by omega) Tryz.underlying23 (by kernel_rfl) (fun n cs y hy => open_intC hy) h0
  obtain ⟨qK, cK, K, rfl, _, _, ⟨_, nK⟩, lK, wK⟩ := open_slW encPl_len (by omega) Tryz.underlying24 (by kernel_rfl) (fun n cs y hy => open_plC hy) h1
  obtain ⟨qV, cV, V, rfl, _, _, ⟨_, nV⟩, lV, wV⟩ := open_slW encPl_len (by omega) Tryz.underlying24 (by kernel_rfl) (fun n cs y hy => open_plC hy) h2
  have fP : P.length ≤ 17592186043904 := by
    rcases wP with rfl | ⟨m, hm, hw⟩
    · simp
    · rw [hbO] at hw
      exact few_of (by omega) hz hm (mP _ hw)
  have fR : R.length ≤ 17592186043904 := by
    rcases wR with rfl | ⟨m, hm, hw⟩
    · simp
    · rw [hbI] at hw
      exact few_of (by omega) hz hm (mR _ hw)
  have fK : K.length ≤ 17592186043904 := by
    rcases wK with rfl | ⟨m, hm, hw⟩
    · simp
    · rw [hbP] at hw
      exact few_of (by omega) hz hm (mK _ hw)
  have fV : V.length ≤ 17592186043904 := by
    rcases wV with rfl | ⟨m, hm, hw⟩
    · simp
    · rw [hbP] at hw
      exact few_of (by omega) hz hm (mV _ hw)
  exact ⟨(((f, t, s, v), P, (R, K, V)), (qP, cP), (qR, cR), (qK, cK), (qV, cV)), rfl, ⟨lP, sli_of lR, slp_of lK, slp_of lV, ⟨fP, fR, fK, fV⟩, ⟨nK, nV⟩⟩, nP, capP⟩

set_option maxRecDepth 100000 in
/-- one client that came in -/
theorem open_client {H : Type} {enc : TypeId × Value → H} {w : World} {r : Reach} {b0 base : Nat} {spare : Nat → Bool} {held : Bool} {v : Value} {d : DataW H} {p : List MemPlace}
    (hv : Value.okWide Tryz.prog w r b0 28 v) (h : DataW.Trod enc Tryz.prog w base spare held 28 v d p) (hz : (d.weights Tryz.prog 28).all (· ≤ reachBytes) = true) : ∃ x : Cm, v = x.val ∧ ClIn w x ∧ (x.2.1.1 = none → x.2.1.2 = 0) ∧ x.1.2.1.length ≤ x.2.1.2 := by
  obtain ⟨cs, rfl, hsz⟩ := okWide_struct Tryz.underlying28 hv
  obtain ⟨fuel, hf⟩ := h
  obtain ⟨x, e, hx, h1, h2⟩ := open_clC hf hz
  refine ⟨x, ?_, hx, h1, h2⟩
  have e' : cs.toList = clC x := e
  have : cs = (clC x).toArray := by rw [← e']
  rw [this]
end Go.Proofs.YtijjiccgpobjmaeGreat

