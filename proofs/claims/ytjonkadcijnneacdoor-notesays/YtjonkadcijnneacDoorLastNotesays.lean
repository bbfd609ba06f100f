/- For every two records and every text orangerylaw.NoteSays answers true: any record is checked, printed, held against another one, any text read as one, as the document says, errors too. The card: the library's variables that are read are tied to the program's text. No condition. -/
import Derived.SizedLaws
import Derived.Lib.AppendZerosOnto
import Derived.Laws.AppendOwnNone
import Derived.Lib.LaidTab
import Derived.Stop.LaidErr
import Derived.Shelf.Vars
import Derived.Test.YtjonkadcijnneacDoorCards
import Derived.Test.YtjonkadcijnneacDoorTie
import Derived.Deep.DeepHandedRow
import Derived.Lay
import Derived.SevenTiedAt
import Derived.ChangeMaps5
import Derived.Test.YtjonkadcijnneacDoorP09
import Derived.Test.YtjonkadcijnneacDoorP04
import Derived.Test.YtjonkadcijnneacDoorP05
/- Slices of operations and histories that came in as arguments, and what they weigh. -/
namespace Go.Proofs.YtjonkadcijnneacDoor
open Go.ChangeShapes Go.WideShapes Go.ChangeAt Go.RowKit
open Orangery (Pl Mv Stp)

/-- a slice of such elements that came in, with what it weighs -/
theorem open_slW {α : Type} [Inhabited α] {enc : α → List Value} {k : Nat} {H : Type} {en : TypeId × Value → H} {w : World} {base fuel : Nat} {spare : Nat → Bool} {held : Bool} {v : Value} {x : DataW H × List MemPlace} {t e : TypeId}
    (hk : ∀ x, (enc x).length = k) (hpos : 0 < k) (ht : Tryd.prog.underlying t = some (.slice e)) (hC : Tryd.prog.cellsOf e = k)
    (hel : ∀ (n : Nat) (cs : List Value) (y : DataW H × List MemPlace), DataW.trod en Tryd.prog w base spare held n e cs = some y → ∃ z : α, cs = enc z)
    (h : DataW.trod en Tryd.prog w base spare held fuel t [v] = some x) : ∃ a c, ∃ l : List α, v = .slice a l.length c ∧ l.length ≤ maxLen ∧ l.length ≤ c ∧ (c ≤ maxLen ∧ (a = none → c = 0)) ∧ SlE enc w a l ∧ (l = [] ∨ ∃ m, l.length ≤ m ∧ m * Tryd.prog.bytesOf e ∈ x.1.weights Tryd.prog t) := by
  rcases Go.Deep.open_slice ht h with ⟨hcs, _⟩ | ⟨a, len, cap, m, n, D, Pq, hcs, _, hle, hm, hmm, hxx, hx⟩
  · simp at hcs
    subst hcs
    exact ⟨none, 0, [], rfl, by simp, by simp, ⟨by simp, fun _ => rfl⟩, Or.inl rfl, Or.inl rfl⟩
  · simp at hcs
    subst hcs
    have hlm : len ≤ m := by rw [hmm]; split <;> omega
    have key : ∀ i, i < len → ∃ z : α, ∀ (j : Nat) (v : Value), (enc z)[j]? = some v → w.cell? ((a.add (i * k)).add j) = some v := by
      intro i hi
      obtain ⟨cs', h1, h2⟩ := hx i (by omega)
      rw [hC] at h1
      obtain ⟨z, rfl⟩ := hel _ _ _ h2
      exact ⟨z, (cells_range h1).2⟩
    obtain ⟨f, hf⟩ := Go.Deep.choose_lt key
    refine ⟨some a, cap, (List.range len).map f, by simp, by simp; omega, by simp; omega, ⟨hm, fun e => by simp at e⟩, ?_, Or.inr ⟨m, by simpa using hlm, ?_⟩⟩
    · by_cases hz : len = 0
      · exact Or.inl (by simp [hz])
      · right
        obtain ⟨u, hu⟩ : ∃ u, (enc (f 0))[0]? = some u := ⟨_, List.getElem?_eq_getElem (by rw [hk]; exact hpos)⟩
        have h0 := hf 0 (by omega) 0 u hu
        obtain ⟨b, off, spot⟩ := a
        have hspot : spot = none := by simpa [Addr.add] using World.cell?_spot h0
        subst hspot
        have hb : b < w.heap.size := by
          have := World.block_lt_of_cell? w _ h0
          rw [Addr.add_mid, Addr.add_mid] at this
          exact this
        refine ⟨b, off, rfl, hb, fun j v hv => ?_⟩
        have hj : j < len * k := by
          have := (List.getElem?_eq_some_iff.1 hv).1
          rw [flatE_len hk] at this
          simpa using this
        have hi : j / k < len := (Nat.div_lt_iff_lt_mul hpos).2 hj
        have hc : j % k < k := Nat.mod_lt _ hpos
        have e1 : j / k * k + j % k = j := by rw [Nat.mul_comm]; exact Nat.div_add_mod j k
        have e2 := flatE_get hk ((List.range len).map f) (j / k) (by simpa using hi) (j % k) hc
        rw [e1, hv] at e2
        have e3 := hf (j / k) hi (j % k) v (by simpa using e2.symm)
        rw [Addr.add_mid, Addr.add_mid] at e3
        rw [show off + j = off + j / k * k + j % k by omega]
        exact e3
    · subst hxx
      simp only [DataW.weights, ht]
      have e : ((List.range len).map D).length + ((List.range (m - len)).map fun j => D (len + j)).length = m := by simp; omega
      rw [e]
      exact List.mem_cons_self

end Go.Proofs.YtjonkadcijnneacDoor

/- slices.Grow of nothing, slices.Concat at places. -/
namespace Go.Proofs.YtjonkadcijnneacDoor
open Go.ChangeShapes Go.WideShapes Go.ChangeAt Go.RowKit
open Orangery (Pl)

theorem encPl_one (p : Pl) : ∀ v ∈ encPl p, v.oneCell' = true := by
  intro v hv
  simp [encPl] at hv
  rcases hv with rfl | rfl | rfl <;> rfl
theorem encPl_len (x : Pl) : (encPl x).length = 3 := rfl
/-- one slice behind another one of the call's own -/
theorem SlP.news {w : World} {ad : Addr} {l : List Pl} (h : SlP w (some ad) l) : ∀ j u, (l.flatMap encPl)[j]? = some u → w.cell? (ad.add j) = some u := by
  intro j u hj
  rcases h with rfl | ⟨b, off, ha, _, hp⟩
  · simp at hj
  · simp at ha
    subst ha
    exact pls_flat hp j u hj
theorem SlP.none_nil {w : World} {l : List Pl} (h : SlP w none l) : l = [] := by
  rcases h with rfl | ⟨b, off, h, _⟩
  · rfl
  · simp at h

end Go.Proofs.YtjonkadcijnneacDoor

/- Ints, places with the room behind them, and views that came in as arguments. -/
namespace Go.Proofs.YtjonkadcijnneacDoor
open Go.ChangeShapes Go.WideShapes Go.ChangeAt Go.RowKit
open Orangery (Pl)

def intC (x : Int) : List Value := [.int .i64 x]
theorem intC_len (x : Int) : (intC x).length = 1 := rfl

theorem sli_of {w : World} {a : Option Addr} {l : List Int} (h : SlE intC w a l) : SlI w a l := by
  rcases h with h | ⟨b, off, ha, hlt, hp⟩
  · exact Or.inl h
  · refine Or.inr ⟨b, off, ha, hlt, fun i hi => ?_⟩
    have := elemE intC_len hp i hi 0 (.int .i64 l[i]) rfl
    rw [Nat.mul_one, Nat.add_zero] at this
    exact this
theorem slp_of {w : World} {a : Option Addr} {l : List Pl} (h : SlE encPl w a l) : SlP w a l := by
  rcases h with h | ⟨b, off, ha, hlt, hp⟩
  · exact Or.inl h
  · refine Or.inr ⟨b, off, ha, hlt, fun i hi => ?_⟩
    have hr := elemE encPl_len hp i hi
    exact ⟨hr 0 _ rfl, hr 1 _ rfl, hr 2 _ rfl⟩

theorem open_intC {H : Type} {enc : TypeId × Value → H} {w : World} {base fuel : Nat} {spare : Nat → Bool} {held : Bool} {cs : List Value} {x : DataW H × List MemPlace}
    (h : DataW.trod enc Tryd.prog w base spare held fuel 3 cs = some x) : ∃ z : Int, cs = intC z := by
  obtain ⟨q, e, _, _⟩ := DataW.trod_int Tryd.underlying3 h
  exact ⟨q, e⟩
set_option maxRecDepth 100000 in
theorem open_plC {H : Type} {enc : TypeId × Value → H} {w : World} {base fuel : Nat} {spare : Nat → Bool} {held : Bool} {cs : List Value} {x : DataW H × List MemPlace}
    (h : DataW.trod enc Tryd.prog w base spare held fuel 78 cs = some x) : ∃ z : Pl, cs = encPl z := by
  obtain ⟨y0, y1, y2, n', _, hl, t0, t1, t2⟩ := Go.Deep.trod_struct3 Tryd.underlying78 h
  have hC : Tryd.prog.cellsOf 78 = 3 := by kernel_rfl
  have hI : Tryd.prog.cellsOf 3 = 1 := by kernel_rfl
  rw [hC] at hl
  obtain ⟨c0, c1, c2, rfl⟩ : ∃ c0 c1 c2, cs = [c0, c1, c2] := by
    match cs, hl with
    | [x, y, z], _ => exact ⟨x, y, z, rfl⟩
  simp [hI] at t0 t1 t2
  obtain ⟨q0, e0, _, _⟩ := DataW.trod_int Tryd.underlying3 t0
  obtain ⟨q1, e1, _, _⟩ := DataW.trod_int Tryd.underlying3 t1
  obtain ⟨q2, e2, _, _⟩ := DataW.trod_int Tryd.underlying3 t2
  simp at e0 e1 e2
  subst e0 e1 e2
  exact ⟨(q0, q1, q2), rfl⟩

set_option maxRecDepth 100000 in
/-- ints that came in -/
theorem open_ints {H : Type} {enc : TypeId × Value → H} {w : World} {r : Reach} {b0 base : Nat} {spare : Nat → Bool} {held : Bool} {v : Value} {d : DataW H} {p : List MemPlace}
    (hv : Value.okWide Tryd.prog w r b0 22 v) (h : DataW.Trod enc Tryd.prog w base spare held 22 v d p) : ∃ a c, ∃ l : List Int, v = .slice a l.length c ∧ l.length ≤ maxLen ∧ (l.length ≤ c ∧ c ≤ maxLen) ∧ SlI w a l := by
  obtain ⟨a', n', c', rfl⟩ := okWide_slice Tryd.underlying22 hv
  obtain ⟨fuel, hf⟩ := h
  obtain ⟨a, c, l, e, h1, h2, ⟨h4, _⟩, h3, _⟩ := open_slW intC_len (by omega) Tryd.underlying22 (by kernel_rfl) (fun n cs y hy => open_intC hy) hf
  exact ⟨a, c, l, e, h1, ⟨h2, h4⟩, sli_of h3⟩

end Go.Proofs.YtjonkadcijnneacDoor

/- Records and texts that came in as arguments; what the library's variables hold at the start. -/
namespace Go.Proofs.YtjonkadcijnneacDoor
open Go.ChangeShapes Go.WideShapes Go.ChangeAt Go.RowKit
open Orangery (Mv)

set_option maxRecDepth 100000 in
theorem open_rec {H : Type} {enc : TypeId × Value → H} {w : World} {r : Reach} {b0 base : Nat} {spare : Nat → Bool} {held : Bool} {v : Value} {d : DataW H} {p : List MemPlace}
    (hv : Value.okWide Tryd.prog w r b0 28 v) (h : DataW.Trod enc Tryd.prog w base spare held 28 v d p) :
    ∃ k u f a c R o, v = rcV k u f (.slice a R.length c) o ∧ R.length ≤ maxLen ∧ (a = none → c = 0) ∧ SlI w a R := by
  obtain ⟨cs, rfl, hsz⟩ := okWide_struct Tryd.underlying28 hv
  obtain ⟨fuel, hf⟩ := h
  obtain ⟨xs, n, _, _, hl, hlen, hg⟩ := DataW.trod_struct Tryd.underlying28 hf
  have hC : Tryd.prog.cellsOf 28 = 11 := by kernel_rfl
  have hI : Tryd.prog.cellsOf 3 = 1 := by kernel_rfl
  have hD : Tryd.prog.cellsOf 22 = 1 := by kernel_rfl
  have hO : Tryd.prog.cellsOf 26 = 7 := by kernel_rfl
  rw [hC] at hl
  obtain ⟨l⟩ := cs
  simp only [Value.cells] at hl hg
  obtain ⟨c0, c1, c2, c3, c4, c5, c6, c7, c8, c9, c10, rfl⟩ := list11 hl
  have hx : xs.length = 5 := hlen
  have g0 := hg 0 _ rfl
  have g1 := hg 1 _ rfl
  have g2 := hg 2 _ rfl
  have g3 := hg 3 _ rfl
  have g4 := hg 4 _ rfl
  simp [hI, hD, hO] at g0 g1 g2 g3 g4
  rw [List.getElem?_eq_getElem (by omega)] at g0 g1 g2 g3 g4
  obtain ⟨k, e0, _, _⟩ := DataW.trod_int Tryd.underlying3 g0
  obtain ⟨u, e1, _, _⟩ := DataW.trod_int Tryd.underlying3 g1
  obtain ⟨f, e2, _, _⟩ := DataW.trod_int Tryd.underlying3 g2
  obtain ⟨a, c, R, e3, m0, _, ⟨_, n1⟩, hR, _⟩ := open_slW intC_len (by omega) Tryd.underlying22 (by kernel_rfl) (fun n cs y hy => open_intC hy) g3
  obtain ⟨o, ho⟩ := open_opC g4
  simp at e0 e1 e2
  simp [opC] at ho
  subst e0 e1 e2 e3
  obtain ⟨rfl, rfl, rfl, rfl, rfl, rfl, rfl⟩ := ho
  exact ⟨k, u, f, a, c, R, o, rfl, m0, n1, sli_of hR⟩

theorem gPow : Tryd.prog.globalNamed "internal/strconv.uint64pow10" = some 3 := by kernel_rfl
theorem gPowT : (Tryd.prog.globals[3]?).map (·.type) = some 105 := by kernel_rfl
theorem gSyn : Tryd.prog.globalNamed "strconv.ErrSyntax" = some 1 := by kernel_rfl
theorem gSynT : (Tryd.prog.globals[1]?).map (·.type) = some 45 := by kernel_rfl
theorem gRan : Tryd.prog.globalNamed "strconv.ErrRange" = some 2 := by kernel_rfl
theorem gRanT : (Tryd.prog.globals[2]?).map (·.type) = some 45 := by kernel_rfl
theorem gB64 : Tryd.prog.globalNamed "math/bits.deBruijn64tab" = some 7 := by kernel_rfl
theorem star : ("*errors.errorString" : String) = "*" ++ "errors.errorString" := by decide
set_option maxRecDepth 100000 in
theorem errRow (u : TypeId) (h : Tryd.prog.typeName? 3 u = some "*errors.errorString") : u = 112 :=
  typeName_ptr_named (nm := "errors.errorString") (by rw [← star]; kernel_rfl) (by kernel_rfl) (by decide) u (by rw [← star]; exact h)

/-- the library's variables, out of what the row lists -/
theorem vars_of {W : World} {d0 d1 d3 : DataW Unit} {x y : List UInt8} {rest : List (String × DataW Unit)}
    (h : laidMet Tryd.prog (("math/bits.deBruijn32tab", d0) :: ("math/bits.deBruijn64tab", d1) :: ("internal/strconv.uint64pow10", Lib.tabData .u64 Lib.pow10Tab) :: ("unicode/utf8.acceptRanges", d3) :: ("strconv.ErrRange", .iface "*errors.errorString" (.ptr (.agg [.lit (.string x)]))) :: ("strconv.ErrSyntax", .iface "*errors.errorString" (.ptr (.agg [.lit (.string y)]))) :: rest) W)
    (hs : W.ShapedOpen Tryd.prog) : Vars W := by
  have h1 := h.tail
  have h2 := h1.tail
  have h4 := h2.tail.tail
  have h5 := h4.tail
  have c80 : Tryd.prog.cellsOf 80 = 1 := by kernel_rfl
  have c105 : Tryd.prog.cellsOf 105 = 20 := by kernel_rfl
  have c114 : Tryd.prog.cellsOf 114 = 1 := by kernel_rfl
  have c9 : Tryd.prog.cellsOf 9 = 1 := by kernel_rfl
  refine ⟨?_, ?_, ?_, ?_, ?_⟩
  · obtain ⟨ps, ⟨g', t', cs, fuel, p, q, hg', ht', hvar, hd, _, _⟩, _⟩ := h1
    obtain rfl := Option.some.inj (gB64.symm.trans hg')
    unfold World.var? at hvar
    rw [gB64] at hvar
    simp only [Option.bind_some] at hvar
    rcases Nat.lt_or_ge 7 W.heap.size with hlt | hge
    · omega
    · rw [Array.getElem?_eq_none hge] at hvar
      simp at hvar
  · exact Lib.tabIs_of_head gPow gPowT Tryd.underlying105 Tryd.underlying80 c80 c105 h2
  · obtain ⟨a0, s0, hv0, -, -, -⟩ := laid_sentinel h5 gSyn gSynT Tryd.underlying45 errRow Tryd.underlying112 Tryd.underlying114 rfl rfl Tryd.underlying9 c114 c9
    exact ⟨_, _, hv0⟩
  · obtain ⟨a0, s0, hv0, -, -, -⟩ := laid_sentinel h4 gRan gRanT Tryd.underlying45 errRow Tryd.underlying112 Tryd.underlying114 rfl rfl Tryd.underlying9 c114 c9
    exact ⟨_, _, hv0⟩
  · exact cell_of_shapedOpen_int (zero := #[.int .i64 0]) hs (by decide +kernel) (by kernel_rfl) rfl (by kernel_rfl) (by kernel_rfl) Tryd.underlying3
end Go.Proofs.YtjonkadcijnneacDoor

/- For every two records and every text orangerylaw.NoteSays answers true: any record is checked, printed, held against another one, any text read as one, as the document says, errors too. The card: the library's variables that are read are tied to the program's text. No condition. -/
namespace Go.Proofs.YtjonkadcijnneacDoor.noteSays
open Go.ChangeShapes Go.WideShapes Go.ChangeAt Go.RowKit
set_option linter.unusedVariables false

theorem own : ownKnob Tryd.prog.godebug = none := by kernel_rfl
theorem laidOut : laidOutB Tryd.prog = true := by kernel_rfl

set_option maxRecDepth 100000 in
/-- what the walk gives, for every argument and every world that holds the variables -/
theorem contract (H : Type) (enc : TypeId × Value → H) (W : World) (base : Nat) (args : Array Value) (ds gs : List (DataW H)) (before : List MemPlace)
    (hval : ∀ (j : Nat) t v, Tryd.f3.params[j]? = some t → args[j]? = some v → Value.okWide Tryd.prog W .any base t v)
    (hW : DataW.Whole enc Tryd.prog Tryd.f3.params.toList Rows.noteSaysSpec.vars false W args.toList ds gs before) (hL : laidMetH Tryd.prog Rows.noteSaysRow.laid W) (hsh : W.ShapedOpen Tryd.prog) :
    Calls Tryd.prog 3 args W fun e W' => ∃ v, e = .returned v ∧ Rows.noteSaysSpec.post enc Tryd.prog Tryd.f3 false true false false W args v W' := by
  have hW' := hW
  obtain ⟨p, q, hA0, hV, rfl, hfz, hnd⟩ := hW
  have hA : DataW.TrodAll enc Tryd.prog W 0 (fun _ => true) true Tryd.f3.params.toList args.toList ds p := hA0
  rw [Tryd.params3] at hA hval
  obtain ⟨v0, vs0, d0, ds0, p0, q0, hargs, rfl, rfl, h0, r0⟩ := trodAll_cons hA
  obtain ⟨v1, vs1, d1, ds1, p1, q1, rfl, rfl, rfl, h1, r1⟩ := trodAll_cons r0
  obtain ⟨v2, vs2, d2, ds2, p2, q2, rfl, rfl, rfl, h2, r2⟩ := trodAll_cons r1
  obtain ⟨rfl, rfl, rfl⟩ := trodAll_nil r2
  obtain rfl : args = #[v0, v1, v2] := by cases args; simp_all
  obtain ⟨rfl, rfl⟩ := trodVars_none hV
  have k0 := h0
  have lt0 : ∀ x ∈ p0, x.block < W.heap.size := by obtain ⟨m, hm⟩ := k0; exact DataW.trod_lt m _ _ _ hm
  obtain ⟨k, u, f, a, c, R, o, rfl, m0, n0, P0⟩ := open_rec (hval 0 28 v0 rfl rfl) h0
  have k1 := h1
  have lt1 : ∀ x ∈ p1, x.block < W.heap.size := by obtain ⟨m, hm⟩ := k1; exact DataW.trod_lt m _ _ _ hm
  obtain ⟨k', u', f', a', c', R', o', rfl, m1, n1, P1⟩ := open_rec (hval 1 28 v1 rfl rfl) h1
  have k2 := h2
  have lt2 : ∀ x ∈ p2, x.block < W.heap.size := by obtain ⟨m, hm⟩ := k2; exact DataW.trod_lt m _ _ _ hm
  obtain ⟨s, rfl, rfl, rfl, ws⟩ := Go.ChangeMaps.open_string Tryd.underlying9 (hval 2 9 v2 rfl rfl) h2
  clear hA0
  rw [MakeChecks.laidMetH_plain _ _ _ (by kernel_rfl)] at hL
  have hvars : Vars W := vars_of hL hsh
  have hwalk := noteSays_any W k u f a c R o k' u' f' a' c' R' o' s.data.toList m0 n0 P0 m1 n1 P1 (by rw [← Lib.size_eq]; exact ws) hvars
  rw [show txV s.data.toList = Value.string s from congrArg Value.string (Orangery.bytes_eq s)] at hwalk
  refine hwalk.mono fun e W' ⟨he, bel⟩ => ?_
  subst he
  exact ⟨_, rfl, _, _, _, [], _, [], hW', trodAll_mk1 (shut_bool Tryd.underlying4 _), (trodAll_cons_mk (Below.trod laidOut (by kernel_rfl) (of_decide_eq_true (by kernel_rfl)) k0 bel lt0) (trodAll_cons_mk (Below.trod laidOut (by kernel_rfl) (of_decide_eq_true (by kernel_rfl)) k1 bel lt1) (trodAll_cons_mk (Below.trod laidOut (by kernel_rfl) (of_decide_eq_true (by kernel_rfl)) k2 bel lt2) trodAll_mk0))), rfl, bel.frame _, fun h => by cases h⟩

/-- the arguments of the witness: two empty records, no text -/
def noArgs : Array Value := #[.agg #[.int .i64 0, .int .i64 0, .int .i64 0, .slice none 0 0, .int .i64 0, .int .i64 0, .int .i64 0, .int .i64 0, .int .i64 0, .int .i64 0, .int .i64 0], .agg #[.int .i64 0, .int .i64 0, .int .i64 0, .slice none 0 0, .int .i64 0, .int .i64 0, .int .i64 0, .int .i64 0, .int .i64 0, .int .i64 0, .int .i64 0], .string ⟨#[]⟩]
theorem laid_met (os : Os) : laidMetH Tryd.prog Rows.noteSaysRow.laid ((World.laidAll Tryd.prog os Rows.noteSaysRow.laid).forCall (fun _ _ => 0) ⟨#[], noArgs, []⟩).memory := by
  rw [MakeChecks.laidMetH_plain _ _ _ (by kernel_rfl)]
  exact laidMet_laidAll _ (by kernel_rfl) (by kernel_rfl)
def noRec {H : Type} : DataW H := .agg [.lit (.int .i64 0), .lit (.int .i64 0), .lit (.int .i64 0), .nil, .agg [.agg [.lit (.int .i64 0), .lit (.int .i64 0)], .lit (.int .i64 0), .lit (.int .i64 0), .lit (.int .i64 0), .lit (.int .i64 0), .lit (.int .i64 0)]]
theorem reads (os : Os) {H : Type} (enc : TypeId × Value → H) : ∃ ds places, DataW.whole enc Tryd.prog ((World.laidAll Tryd.prog os Rows.noteSaysRow.laid).forCall (fun _ _ => 0) ⟨#[], noArgs, []⟩).memory Tryd.f3.params.toList Rows.noteSaysSpec.vars false noArgs.toList 8 = some (ds, [], places) :=
  ⟨[noRec, noRec, .lit (.string [])], [], by kernel_rfl⟩

set_option maxRecDepth 100000 in
theorem lifted (os : Os) (started : os.Started) (H : Type) (enc : TypeId × Value → H) (F : Stop.Interp) :
    ReturnsInHanded {} Tryd.checked os 3 .any ((OpenSpec.ofChange Rows.noteSaysSpec).preRow enc Tryd.prog Tryd.f3 Rows.noteSaysRow.domain false Rows.noteSaysRow.laid) (((OpenSpec.ofChange Rows.noteSaysSpec).at F).post enc Tryd.prog Tryd.f3 false true false false) := by
  obtain ⟨ds, places, hx⟩ := reads os enc
  have hok : Input.okWideB Tryd.prog ((World.laidAll Tryd.prog os Rows.noteSaysRow.laid).forCall (fun _ _ => 0) ⟨#[], noArgs, []⟩) 3 ⟨#[], noArgs, []⟩ = true := by kernel_rfl
  refine returnsInHanded_of_row (C := Tryd.checked) (s := OpenSpec.ofChange Rows.noteSaysSpec) own started (by kernel_rfl) Tryd.func3
    ⟨World.laidAll Tryd.prog os Rows.noteSaysRow.laid, fun _ _ => 0, ⟨#[], noArgs, []⟩, World.laidAll_os _ _ _, World.shaped_of_ZipB (by kernel_rfl) (by kernel_rfl), (Input.okWide_of_okWideB (base := 0) hok).1, (Input.okWide_of_okWideB hok).2,
      OpenSpec.preRow_of_cond 8 hx (by kernel_rfl) (fun k hk => by cases hk) (by kernel_rfl) (laid_met os), by
        simp only [Assume.holds]
        exact ⟨by simp, by simp, fun _ => Modest.zero, by simp, by simp⟩⟩ ?_
  intro W base args ds gs before hval hW _ _ _ hL hsh _
  exact contract H enc W base args ds gs before hval hW hL hsh

theorem said : Rows.NoteSaysSaid :=
  OpenClaim.holds_of_cond 3 Tryd.f3 rfl rfl rfl rfl rfl rfl rfl ⟨rfl, rfl, rfl, rfl, rfl⟩ rfl rfl rfl rfl rfl (by kernel_rfl) Tryd.func3 (by kernel_rfl)
    (of_decide_eq_true (by kernel_rfl)) (by unfold Func.isWrapper; first | (rw [if_pos (by decide +kernel)]; kernel_rfl) | (rw [if_neg (by decide +kernel)]; exact ⟨rfl, rfl⟩))
    (fun os started H enc _ F => by rw [OpenClaim.pre_eq_preRow]; exact lifted os started H enc F)

theorem plain (f : FuncId) (fn : Func) (hf : Tryd.pinned.checked.prog.funcNamed "orangery/orangerylaw.NoteSays" = some f) (hfn : Tryd.pinned.checked.prog.funcs[f]? = some fn) :
    true = Tryd.pinned.checked.prog.looks [] ∧ ∀ (j : Nat) t, fn.params[j]? = some t → Tryd.pinned.checked.prog.wantsStandIn t = false := by
  obtain rfl : f = 3 := Option.some.inj ((show Tryd.prog.funcNamed "orangery/orangerylaw.NoteSays" = some 3 by kernel_rfl).symm.trans hf) |>.symm
  obtain rfl : fn = Tryd.f3 := (Option.some.inj (Tryd.func3.symm.trans hfn)).symm
  refine ⟨by kernel_rfl, fun j t ht => ?_⟩
  rw [Tryd.params3] at ht
  have hm : t ∈ [28, 28, 9] := by simpa using Array.mem_of_getElem? ht
  have hall : ([28, 28, 9].all fun u => !Tryd.prog.wantsStandIn u) = true := by kernel_rfl
  exact (show Tryd.prog.wantsStandIn t = false by simpa using List.all_eq_true.1 hall t hm)

/-- The statement. -/
theorem proved : Rows.NoteSaysCardSaid :=
  Claim7.holds_tied_plain_at .later [] _ _ _ _ said (fun _ h => by cases h) (by kernel_rfl) (fun _ h => by cases h) noteSays_row_tie rfl ⟨rfl, rfl⟩ (by kernel_rfl) rfl plain (by kernel_rfl)
#print axioms proved
end Go.Proofs.YtjonkadcijnneacDoor.noteSays

