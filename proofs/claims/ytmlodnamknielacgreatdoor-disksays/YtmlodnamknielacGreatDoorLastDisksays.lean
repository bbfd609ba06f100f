/- For every disk, every record, every number and every other disk orangerylaw.DiskSays answers true: the disk is checked, has the record put, is synced, crashes and recovers as the document says, errors too. The card: the library's variables that are read are tied to the program's text. No condition. -/
import Derived.Lib.AppendZerosOnto
import Derived.Laws.AppendOwnNone
import Derived.Lib.LaidTab
import Derived.Stop.LaidErr
import Derived.Shelf.Vars
import Derived.Test.YtmlodnamknielacGreatDoorCards
import Derived.Test.YtmlodnamknielacGreatDoorTie
import Derived.Deep.DeepHandedRow
import Derived.Lay
import Derived.SevenTiedAt
import Derived.ChangeMaps5
import Derived.Test.YtmlodnamknielacGreatDoorP04
import Derived.Test.YtmlodnamknielacGreatDoorP14
import Derived.Test.YtmlodnamknielacGreatDoorP05
import Derived.Test.YtmlodnamknielacGreatDoorP07
/- slices.Grow of nothing, slices.Concat at places. -/
namespace Go.Proofs.YtmlodnamknielacGreatDoor
open Go.ChangeShapes Go.WideShapes Go.ChangeAt Go.RowKit
open Orangery (Pl)

theorem encPl_one (p : Pl) : ∀ v ∈ encPl p, v.oneCell' = true := by
  intro v hv
  simp [encPl] at hv
  rcases hv with rfl | rfl | rfl <;> rfl
theorem encPl_len (x : Pl) : (encPl x).length = 3 := rfl
/-- one slice behind another one of the call's own -/
theorem SlP.news {w : World} {ad : Addr} {l : List Pl} (h : SlP w (some ad) l) : ∀ j u, (l.flatMap encPl)[j]? = some u → w.cell? (ad.add j) = some u := by
  intro j u hj
  rcases h with rfl | ⟨b, off, ha, _, hp⟩
  · simp at hj
  · simp at ha
    subst ha
    exact pls_flat hp j u hj
theorem SlP.none_nil {w : World} {l : List Pl} (h : SlP w none l) : l = [] := by
  rcases h with rfl | ⟨b, off, h, _⟩
  · rfl
  · simp at h

end Go.Proofs.YtmlodnamknielacGreatDoor

/- Ints, places with the room behind them, and views that came in as arguments. -/
namespace Go.Proofs.YtmlodnamknielacGreatDoor
open Go.ChangeShapes Go.WideShapes Go.ChangeAt Go.RowKit
open Orangery (Pl)

def intC (x : Int) : List Value := [.int .i64 x]
theorem intC_len (x : Int) : (intC x).length = 1 := rfl

theorem sli_of {w : World} {a : Option Addr} {l : List Int} (h : SlE intC w a l) : SlI w a l := by
  rcases h with h | ⟨b, off, ha, hlt, hp⟩
  · exact Or.inl h
  · refine Or.inr ⟨b, off, ha, hlt, fun i hi => ?_⟩
    have := elemE intC_len hp i hi 0 (.int .i64 l[i]) rfl
    rw [Nat.mul_one, Nat.add_zero] at this
    exact this
theorem slp_of {w : World} {a : Option Addr} {l : List Pl} (h : SlE encPl w a l) : SlP w a l := by
  rcases h with h | ⟨b, off, ha, hlt, hp⟩
  · exact Or.inl h
  · refine Or.inr ⟨b, off, ha, hlt, fun i hi => ?_⟩
    have hr := elemE encPl_len hp i hi
    exact ⟨hr 0 _ rfl, hr 1 _ rfl, hr 2 _ rfl⟩

theorem open_intC {H : Type} {enc : TypeId × Value → H} {w : World} {base fuel : Nat} {spare : Nat → Bool} {held : Bool} {cs : List Value} {x : DataW H × List MemPlace}
    (h : DataW.trod enc Tryz.prog w base spare held fuel 3 cs = some x) : ∃ z : Int, cs = intC z := by
  obtain ⟨q, e, _, _⟩ := DataW.trod_int Tryz.underlying3 h
  exact ⟨q, e⟩
set_option maxRecDepth 100000 in
theorem open_plC {H : Type} {enc : TypeId × Value → H} {w : World} {base fuel : Nat} {spare : Nat → Bool} {held : Bool} {cs : List Value} {x : DataW H × List MemPlace}
    (h : DataW.trod enc Tryz.prog w base spare held fuel 110 cs = some x) : ∃ z : Pl, cs = encPl z := by
  obtain ⟨y0, y1, y2, n', _, hl, t0, t1, t2⟩ := Go.Deep.trod_struct3 Tryz.underlying110 h
  have hC : Tryz.prog.cellsOf 110 = 3 := by kernel_rfl
  have hI : Tryz.prog.cellsOf 3 = 1 := by kernel_rfl
  rw [hC] at hl
  obtain ⟨c0, c1, c2, rfl⟩ : ∃ c0 c1 c2, cs = [c0, c1, c2] := by
    match cs, hl with
    | [x, y, z], _ => exact ⟨x, y, z, rfl⟩
  simp [hI] at t0 t1 t2
  obtain ⟨q0, e0, _, _⟩ := DataW.trod_int Tryz.underlying3 t0
  obtain ⟨q1, e1, _, _⟩ := DataW.trod_int Tryz.underlying3 t1
  obtain ⟨q2, e2, _, _⟩ := DataW.trod_int Tryz.underlying3 t2
  simp at e0 e1 e2
  subst e0 e1 e2
  exact ⟨(q0, q1, q2), rfl⟩

set_option maxRecDepth 100000 in
/-- ints that came in -/
theorem open_ints {H : Type} {enc : TypeId × Value → H} {w : World} {r : Reach} {b0 base : Nat} {spare : Nat → Bool} {held : Bool} {v : Value} {d : DataW H} {p : List MemPlace}
    (hv : Value.okWide Tryz.prog w r b0 25 v) (h : DataW.Trod enc Tryz.prog w base spare held 25 v d p) : ∃ a c, ∃ l : List Int, v = .slice a l.length c ∧ l.length ≤ maxLen ∧ (l.length ≤ c ∧ c ≤ maxLen) ∧ SlI w a l := by
  obtain ⟨a', n', c', rfl⟩ := okWide_slice Tryz.underlying25 hv
  obtain ⟨fuel, hf⟩ := h
  obtain ⟨a, c, l, e, h1, h2, ⟨h4, _⟩, h3, _⟩ := open_slW intC_len (by omega) Tryz.underlying25 (by kernel_rfl) (fun n cs y hy => open_intC hy) hf
  exact ⟨a, c, l, e, h1, ⟨h2, h4⟩, sli_of h3⟩

end Go.Proofs.YtmlodnamknielacGreatDoor

/- Records and texts that came in as arguments; what the library's variables hold at the start. -/
namespace Go.Proofs.YtmlodnamknielacGreatDoor
open Go.ChangeShapes Go.WideShapes Go.ChangeAt Go.RowKit
open Orangery (Mv)

set_option maxRecDepth 100000 in
theorem open_rec {H : Type} {enc : TypeId × Value → H} {w : World} {r : Reach} {b0 base : Nat} {spare : Nat → Bool} {held : Bool} {v : Value} {d : DataW H} {p : List MemPlace}
    (hv : Value.okWide Tryz.prog w r b0 31 v) (h : DataW.Trod enc Tryz.prog w base spare held 31 v d p) :
    ∃ k u f a c R o, v = rcV k u f (.slice a R.length c) o ∧ R.length ≤ maxLen ∧ (a = none → c = 0) ∧ SlI w a R := by
  obtain ⟨cs, rfl, hsz⟩ := okWide_struct Tryz.underlying31 hv
  obtain ⟨fuel, hf⟩ := h
  obtain ⟨xs, n, _, _, hl, hlen, hg⟩ := DataW.trod_struct Tryz.underlying31 hf
  have hC : Tryz.prog.cellsOf 31 = 11 := by kernel_rfl
  have hI : Tryz.prog.cellsOf 3 = 1 := by kernel_rfl
  have hD : Tryz.prog.cellsOf 25 = 1 := by kernel_rfl
  have hO : Tryz.prog.cellsOf 29 = 7 := by kernel_rfl
  rw [hC] at hl
  obtain ⟨l⟩ := cs
  simp only [Value.cells] at hl hg
  obtain ⟨c0, c1, c2, c3, c4, c5, c6, c7, c8, c9, c10, rfl⟩ := list11 hl
  have hx : xs.length = 5 := hlen
  have g0 := hg 0 _ rfl
  have g1 := hg 1 _ rfl
  have g2 := hg 2 _ rfl
  have g3 := hg 3 _ rfl
  have g4 := hg 4 _ rfl
  simp [hI, hD, hO] at g0 g1 g2 g3 g4
  rw [List.getElem?_eq_getElem (by omega)] at g0 g1 g2 g3 g4
  obtain ⟨k, e0, _, _⟩ := DataW.trod_int Tryz.underlying3 g0
  obtain ⟨u, e1, _, _⟩ := DataW.trod_int Tryz.underlying3 g1
  obtain ⟨f, e2, _, _⟩ := DataW.trod_int Tryz.underlying3 g2
  obtain ⟨a, c, R, e3, m0, _, ⟨_, n1⟩, hR, _⟩ := open_slW intC_len (by omega) Tryz.underlying25 (by kernel_rfl) (fun n cs y hy => open_intC hy) g3
  obtain ⟨o, ho⟩ := open_opC g4
  simp at e0 e1 e2
  simp [opC] at ho
  subst e0 e1 e2 e3
  obtain ⟨rfl, rfl, rfl, rfl, rfl, rfl, rfl⟩ := ho
  exact ⟨k, u, f, a, c, R, o, rfl, m0, n1, sli_of hR⟩

theorem gPow : Tryz.prog.globalNamed "internal/strconv.uint64pow10" = some 1 := by kernel_rfl
theorem gPowT : (Tryz.prog.globals[1]?).map (·.type) = some 132 := by kernel_rfl
theorem gSyn : Tryz.prog.globalNamed "strconv.ErrSyntax" = some 2 := by kernel_rfl
theorem gSynT : (Tryz.prog.globals[2]?).map (·.type) = some 67 := by kernel_rfl
theorem gRan : Tryz.prog.globalNamed "strconv.ErrRange" = some 3 := by kernel_rfl
theorem gRanT : (Tryz.prog.globals[3]?).map (·.type) = some 67 := by kernel_rfl
theorem gB64 : Tryz.prog.globalNamed "math/bits.deBruijn64tab" = some 7 := by kernel_rfl
theorem star : ("*errors.errorString" : String) = "*" ++ "errors.errorString" := by decide
set_option maxRecDepth 100000 in
theorem errRow (u : TypeId) (h : Tryz.prog.typeName? 3 u = some "*errors.errorString") : u = 151 :=
  typeName_ptr_named (nm := "errors.errorString") (by rw [← star]; kernel_rfl) (by kernel_rfl) (by decide) u (by rw [← star]; exact h)

/-- the library's variables, out of what the row lists -/
theorem vars_of {W : World} {d0 d1 d3 : DataW Unit} {x y : List UInt8} {rest : List (String × DataW Unit)}
    (h : laidMet Tryz.prog (("math/bits.deBruijn32tab", d0) :: ("math/bits.deBruijn64tab", d1) :: ("internal/strconv.uint64pow10", Lib.tabData .u64 Lib.pow10Tab) :: ("unicode/utf8.acceptRanges", d3) :: ("strconv.ErrRange", .iface "*errors.errorString" (.ptr (.agg [.lit (.string x)]))) :: ("strconv.ErrSyntax", .iface "*errors.errorString" (.ptr (.agg [.lit (.string y)]))) :: rest) W)
    (hs : W.ShapedOpen Tryz.prog) : Vars W := by
  have h1 := h.tail
  have h2 := h1.tail
  have h4 := h2.tail.tail
  have h5 := h4.tail
  have c80 : Tryz.prog.cellsOf 112 = 1 := by kernel_rfl
  have c105 : Tryz.prog.cellsOf 132 = 20 := by kernel_rfl
  have c114 : Tryz.prog.cellsOf 153 = 1 := by kernel_rfl
  have c9 : Tryz.prog.cellsOf 9 = 1 := by kernel_rfl
  refine ⟨?_, ?_, ?_, ?_, ?_⟩
  · obtain ⟨ps, ⟨g', t', cs, fuel, p, q, hg', ht', hvar, hd, _, _⟩, _⟩ := h1
    obtain rfl := Option.some.inj (gB64.symm.trans hg')
    unfold World.var? at hvar
    rw [gB64] at hvar
    simp only [Option.bind_some] at hvar
    rcases Nat.lt_or_ge 7 W.heap.size with hlt | hge
    · omega
    · rw [Array.getElem?_eq_none hge] at hvar
      simp at hvar
  · exact Lib.tabIs_of_head gPow gPowT Tryz.underlying132 Tryz.underlying112 c80 c105 h2
  · obtain ⟨a0, s0, hv0, -, -, -⟩ := laid_sentinel h5 gSyn gSynT Tryz.underlying67 errRow Tryz.underlying151 Tryz.underlying153 rfl rfl Tryz.underlying9 c114 c9
    exact ⟨_, _, hv0⟩
  · obtain ⟨a0, s0, hv0, -, -, -⟩ := laid_sentinel h4 gRan gRanT Tryz.underlying67 errRow Tryz.underlying151 Tryz.underlying153 rfl rfl Tryz.underlying9 c114 c9
    exact ⟨_, _, hv0⟩
  · exact cell_of_shapedOpen_int (zero := #[.int .i64 0]) hs (by decide +kernel) (by kernel_rfl) rfl (by kernel_rfl) (by kernel_rfl) Tryz.underlying3
end Go.Proofs.YtmlodnamknielacGreatDoor

/- Disks and lists of records that came in as arguments. -/
namespace Go.Proofs.YtmlodnamknielacGreatDoor
open Go.ChangeShapes Go.WideShapes Go.ChangeAt Go.RowKit
open Orangery (Mv Rc noRec noOp)

/-- what is reached in one argument -/
theorem sized_each {H : Type} {ts : List TypeId} {ds : List (DataW H)} (h : (DataW.weightsEach Tryz.prog ts ds).all (· ≤ reachBytes) = true) {j : Nat} {t : TypeId} {d : DataW H} (ht : ts[j]? = some t) (hd : ds[j]? = some d) : (d.weights Tryz.prog t).all (· ≤ reachBytes) = true :=
  List.all_eq_true.2 fun x hx => List.all_eq_true.1 h x (DataW.weights_mem_each ht hd _ hx)
theorem open_btC {H : Type} {enc : TypeId × Value → H} {w : World} {base fuel : Nat} {spare : Nat → Bool} {held : Bool} {cs : List Value} {x : DataW H × List MemPlace}
    (h : DataW.trod enc Tryz.prog w base spare held fuel 5 cs = some x) : ∃ z : UInt8, cs = btC z := by
  obtain ⟨q, e, _, hw⟩ := DataW.trod_int Tryz.underlying5 h
  have hq0 : IntKind.u8.min ≤ q ∧ q ≤ IntKind.u8.max := by simpa [Lit.wf] using hw
  have hq : 0 ≤ q ∧ q ≤ 255 := hq0
  refine ⟨UInt8.ofNat q.toNat, ?_⟩
  rw [e]
  unfold btC
  have : ((UInt8.ofNat q.toNat).toNat : Int) = q := by
    simp
    omega
  rw [this]

set_option maxRecDepth 100000 in
theorem open_disk {H : Type} {enc : TypeId × Value → H} {w : World} {r : Reach} {b0 base : Nat} {spare : Nat → Bool} {held : Bool} {v : Value} {d : DataW H} {p : List MemPlace}
    (hv : Value.okWide Tryz.prog w r b0 24 v) (h : DataW.Trod enc Tryz.prog w base spare held 24 v d p) (hz : (d.weights Tryz.prog 24).all (· ≤ reachBytes) = true) :
    ∃ s t, DkIs w v s t := by
  obtain ⟨cs, rfl, hsz⟩ := okWide_struct Tryz.underlying24 hv
  have hC : Tryz.prog.cellsOf 24 = 2 := by kernel_rfl
  have hD : Tryz.prog.cellsOf 22 = 1 := by kernel_rfl
  have hby : Tryz.prog.bytesOf 5 = 1 := by kernel_rfl
  rw [hC] at hsz
  obtain ⟨c0, c1, rfl⟩ : ∃ c0 c1, cs = #[c0, c1] := by
    have h1 : cs.toList.length = 2 := by simpa using hsz
    cases cs with
    | mk l =>
      match l, h1 with
      | [x, y], _ => exact ⟨x, y, rfl⟩
  obtain ⟨fuel, hf⟩ := h
  obtain ⟨y0, y1, n, hd, _, h0, h1⟩ := trod_struct2 Tryz.underlying24 hf
  simp [Value.cells, hD] at h0 h1
  obtain ⟨a, c, s, rfl, m0, r0, ⟨k0, n0⟩, hS, w0⟩ := open_slW btC_len (by omega) Tryz.underlying22 (by kernel_rfl) (fun n cs y hy => open_btC hy) h0
  obtain ⟨a', c', t, rfl, m1, r1, ⟨k1, n1⟩, hT, w1⟩ := open_slW btC_len (by omega) Tryz.underlying22 (by kernel_rfl) (fun n cs y hy => open_btC hy) h1
  have e : d = .agg [y0.1, y1.1] := congrArg Prod.fst hd
  rw [hby] at w0 w1
  have z0 : s.length ≤ 140737488351232 := by
    rcases w0 with rfl | ⟨m, hm, hw⟩
    · simp
    · have := List.all_eq_true.1 hz (m * 1) (by
        rw [e]
        simp only [DataW.weights, Tryz.underlying24]
        exact DataW.weights_mem_each (j := 0) rfl rfl _ hw)
      have h2 : m * 1 ≤ reachBytes := by simpa using this
      unfold reachBytes at h2
      omega
  have z1 : t.length ≤ 140737488351232 := by
    rcases w1 with rfl | ⟨m, hm, hw⟩
    · simp
    · have := List.all_eq_true.1 hz (m * 1) (by
        rw [e]
        simp only [DataW.weights, Tryz.underlying24]
        exact DataW.weights_mem_each (j := 1) rfl rfl _ hw)
      have h2 : m * 1 ≤ reachBytes := by simpa using this
      unfold reachBytes at h2
      omega
  exact ⟨s, t, a, c, a', c', rfl, ⟨hS, n0, r0, k0, z0⟩, ⟨hT, n1, r1, k1, z1⟩⟩

set_option maxRecDepth 100000 in
theorem open_rcC {H : Type} {enc : TypeId × Value → H} {w : World} {base fuel : Nat} {spare : Nat → Bool} {held : Bool} {cs : List Value} {x : DataW H × List MemPlace}
    (h : DataW.trod enc Tryz.prog w base spare held fuel 31 cs = some x) : ∃ z : Rm, cs = rcC z ∧ RootsIn w.heap.size w z := by
  obtain ⟨xs, n, _, _, hl, hlen, hg⟩ := DataW.trod_struct Tryz.underlying31 h
  have hC : Tryz.prog.cellsOf 31 = 11 := by kernel_rfl
  have hI : Tryz.prog.cellsOf 3 = 1 := by kernel_rfl
  have hD : Tryz.prog.cellsOf 25 = 1 := by kernel_rfl
  have hO : Tryz.prog.cellsOf 29 = 7 := by kernel_rfl
  rw [hC] at hl
  obtain ⟨c0, c1, c2, c3, c4, c5, c6, c7, c8, c9, c10, rfl⟩ := list11 hl
  have hx : xs.length = 5 := hlen
  have g0 := hg 0 _ rfl
  have g1 := hg 1 _ rfl
  have g2 := hg 2 _ rfl
  have g3 := hg 3 _ rfl
  have g4 := hg 4 _ rfl
  simp [hI, hD, hO] at g0 g1 g2 g3 g4
  rw [List.getElem?_eq_getElem (by omega)] at g0 g1 g2 g3 g4
  obtain ⟨k, e0, _, _⟩ := DataW.trod_int Tryz.underlying3 g0
  obtain ⟨u, e1, _, _⟩ := DataW.trod_int Tryz.underlying3 g1
  obtain ⟨f, e2, _, _⟩ := DataW.trod_int Tryz.underlying3 g2
  obtain ⟨a, c, R, e3, m0, _, ⟨_, n1⟩, hR, _⟩ := open_slW intC_len (by omega) Tryz.underlying25 (by kernel_rfl) (fun n cs y hy => open_intC hy) g3
  obtain ⟨o, ho⟩ := open_opC g4
  simp at e0 e1 e2
  simp [opC] at ho
  subst e0 e1 e2 e3
  obtain ⟨rfl, rfl, rfl, rfl, rfl, rfl, rfl⟩ := ho
  refine ⟨((k, u, f, R, o), a, c), rfl, ?_, n1, m0⟩
  rcases sli_of hR with h0 | ⟨b, off, e, hb, hi⟩
  · exact Or.inl h0
  · exact Or.inr ⟨b, off, e, hb, hi, Or.inl hb⟩

set_option maxRecDepth 100000 in
/-- a list of records that came in -/
theorem open_recs {H : Type} {enc : TypeId × Value → H} {w : World} {r : Reach} {b0 base : Nat} {spare : Nat → Bool} {held : Bool} {v : Value} {d : DataW H} {p : List MemPlace}
    (hv : Value.okWide Tryz.prog w r b0 37 v) (h : DataW.Trod enc Tryz.prog w base spare held 37 v d p) : ∃ a c, ∃ X : List Rm, v = .slice a X.length c ∧ X.length ≤ maxLen ∧ X.length ≤ c ∧ c ≤ maxLen ∧ (a = none → c = 0) ∧ SlR w a w.heap.size X := by
  obtain ⟨a', n', c', rfl⟩ := okWide_slice Tryz.underlying37 hv
  obtain ⟨fuel, hf⟩ := h
  haveI : Inhabited {z : Rm // RootsIn w.heap.size w z} := ⟨⟨(noRec, none, 0), Or.inl rfl, fun _ => rfl, by simp [noRec]⟩⟩
  obtain ⟨a, c, l, ev, m0, r0, ⟨k0, n0⟩, hS, _⟩ := open_slW (enc := fun z : {z : Rm // RootsIn w.heap.size w z} => rcC z.1) (fun z => rcC_len z.1) (by omega) Tryz.underlying37 (by kernel_rfl) (fun n cs y hy => by
    obtain ⟨z, e, hz⟩ := open_rcC hy
    exact ⟨⟨z, hz⟩, e⟩) hf
  refine ⟨a, c, l.map (·.1), by rw [ev]; simp, by simpa using m0, by simpa using r0, k0, n0, ?_, ?_⟩
  · rcases hS with rfl | ⟨b, off, e, hb, hr⟩
    · exact Or.inl rfl
    · refine Or.inr ⟨b, off, e, hb, ?_⟩
      rw [List.flatMap_map]
      exact hr
  · intro x hx
    obtain ⟨z, _, rfl⟩ := List.mem_map.1 hx
    exact z.2
end Go.Proofs.YtmlodnamknielacGreatDoor

/- For every disk, every record, every number and every other disk orangerylaw.DiskSays answers true: the disk is checked, has the record put, is synced, crashes and recovers as the document says, errors too. The card: the library's variables that are read are tied to the program's text. No condition. -/
namespace Go.Proofs.YtmlodnamknielacGreatDoor.diskSays
open Go.ChangeShapes Go.WideShapes Go.ChangeAt Go.RowKit
set_option linter.unusedVariables false

theorem own : ownKnob Tryz.prog.godebug = none := by kernel_rfl
theorem laidOut : laidOutB Tryz.prog = true := by kernel_rfl

set_option maxRecDepth 100000 in
/-- what the walk gives, for every argument and every world that holds the variables -/
theorem contract (H : Type) (enc : TypeId × Value → H) (W : World) (base : Nat) (args : Array Value) (ds gs : List (DataW H)) (before : List MemPlace)
    (hval : ∀ (j : Nat) t v, Tryz.f3.params[j]? = some t → args[j]? = some v → Value.okWide Tryz.prog W .any base t v)
    (hW : DataW.Whole enc Tryz.prog Tryz.f3.params.toList Rows.diskSaysSpec.vars false W args.toList ds gs before) (hsz0 : (DataW.weightsEach Tryz.prog (Tryz.f3.params.toList ++ (OpenSpec.ofChange Rows.diskSaysSpec).bare.plain.varTypes Tryz.prog) (ds ++ gs)).all (· ≤ reachBytes) = true) (hL : laidMetH Tryz.prog Rows.diskSaysRow.laid W) (hsh : W.ShapedOpen Tryz.prog) :
    Calls Tryz.prog 3 args W fun e W' => ∃ v, e = .returned v ∧ Rows.diskSaysSpec.post enc Tryz.prog Tryz.f3 false true false false W args v W' := by
  have hW' := hW
  obtain ⟨p, q, hA0, hV, rfl, hfz, hnd⟩ := hW
  have hA : DataW.TrodAll enc Tryz.prog W 0 (fun _ => true) true Tryz.f3.params.toList args.toList ds p := hA0
  have hsz : (DataW.weightsEach Tryz.prog (Tryz.f3.params.toList ++ (OpenSpec.ofChange Rows.diskSaysSpec).bare.plain.varTypes Tryz.prog) (ds ++ gs)).all (· ≤ reachBytes) = true := hsz0
  rw [Tryz.params3] at hA hval hsz
  obtain ⟨v0, vs0, d0, ds0, p0, q0', hargs, rfl, rfl, h0, r0'⟩ := trodAll_cons hA
  obtain ⟨v1, vs1, d1, ds1, p1, q1', rfl, rfl, rfl, h1, r1'⟩ := trodAll_cons r0'
  obtain ⟨v2, vs2, d2, ds2, p2, q2', rfl, rfl, rfl, h2, r2'⟩ := trodAll_cons r1'
  obtain ⟨v3, vs3, d3, ds3, p3, q3', rfl, rfl, rfl, h3, r3'⟩ := trodAll_cons r2'
  obtain ⟨rfl, rfl, rfl⟩ := trodAll_nil r3'
  obtain rfl : args = #[v0, v1, v2, v3] := by cases args; simp_all
  obtain ⟨rfl, rfl⟩ := trodVars_none hV
  have y0 := h0
  have lt0 : ∀ x ∈ p0, x.block < W.heap.size := by obtain ⟨m, hm⟩ := y0; exact DataW.trod_lt m _ _ _ hm
  obtain ⟨s0, t0, P0⟩ := open_disk (hval 0 24 v0 rfl rfl) h0 (sized_each hsz (j := 0) rfl rfl)
  have y1 := h1
  have lt1 : ∀ x ∈ p1, x.block < W.heap.size := by obtain ⟨m, hm⟩ := y1; exact DataW.trod_lt m _ _ _ hm
  obtain ⟨k1, u1, f1, a1, c1, R1, o1, rfl, m1, n1, P1⟩ := open_rec (hval 1 31 v1 rfl rfl) h1
  obtain ⟨x2, rfl, rfl, rfl, g2⟩ := open_int Tryz.underlying3 (hval 2 3 v2 rfl rfl) h2
  have y3 := h3
  have lt3 : ∀ x ∈ p3, x.block < W.heap.size := by obtain ⟨m, hm⟩ := y3; exact DataW.trod_lt m _ _ _ hm
  obtain ⟨s3, t3, P3⟩ := open_disk (hval 3 24 v3 rfl rfl) h3 (sized_each hsz (j := 3) rfl rfl)
  clear hA0
  rw [MakeChecks.laidMetH_plain _ _ _ (by kernel_rfl)] at hL
  have hvars : Vars W := vars_of hL hsh
  have hwalk := diskSays_any W v0 v3 s0 t0 s3 t3 k1 u1 f1 a1 c1 R1 o1 x2 P0 P3 m1 n1 P1 hvars
  refine hwalk.mono fun e W' ⟨he, bel⟩ => ?_
  subst he
  exact ⟨_, rfl, _, _, _, [], _, [], hW', trodAll_mk1 (shut_bool Tryz.underlying4 _), (trodAll_cons_mk (Below.trod laidOut (by kernel_rfl) (of_decide_eq_true (by kernel_rfl)) y0 bel lt0) (trodAll_cons_mk (Below.trod laidOut (by kernel_rfl) (of_decide_eq_true (by kernel_rfl)) y1 bel lt1) (trodAll_cons_mk (shut_int Tryz.underlying3 g2) (trodAll_cons_mk (Below.trod laidOut (by kernel_rfl) (of_decide_eq_true (by kernel_rfl)) y3 bel lt3) trodAll_mk0)))), rfl, bel.frame _, fun h => by cases h⟩

/-- the arguments of the witness: nothing -/
def noArgs : Array Value := #[.agg #[.slice none 0 0, .slice none 0 0], .agg #[.int .i64 0, .int .i64 0, .int .i64 0, .slice none 0 0, .int .i64 0, .int .i64 0, .int .i64 0, .int .i64 0, .int .i64 0, .int .i64 0, .int .i64 0], .int .i64 0, .agg #[.slice none 0 0, .slice none 0 0]]
theorem laid_met (os : Os) : laidMetH Tryz.prog Rows.diskSaysRow.laid ((World.laidAll Tryz.prog os Rows.diskSaysRow.laid).forCall (fun _ _ => 0) ⟨#[], noArgs, []⟩).memory := by
  rw [MakeChecks.laidMetH_plain _ _ _ (by kernel_rfl)]
  exact laidMet_laidAll _ (by kernel_rfl) (by kernel_rfl)
theorem reads (os : Os) {H : Type} (enc : TypeId × Value → H) : ∃ ds places, DataW.whole enc Tryz.prog ((World.laidAll Tryz.prog os Rows.diskSaysRow.laid).forCall (fun _ _ => 0) ⟨#[], noArgs, []⟩).memory Tryz.f3.params.toList Rows.diskSaysSpec.vars false noArgs.toList 8 = some (ds, [], places) :=
  ⟨[.agg [.nil, .nil], .agg [.lit (.int .i64 0), .lit (.int .i64 0), .lit (.int .i64 0), .nil, .agg [.agg [.lit (.int .i64 0), .lit (.int .i64 0)], .lit (.int .i64 0), .lit (.int .i64 0), .lit (.int .i64 0), .lit (.int .i64 0), .lit (.int .i64 0)]], .lit (.int .i64 0), .agg [.nil, .nil]], [], by kernel_rfl⟩

set_option maxRecDepth 100000 in
theorem lifted (os : Os) (started : os.Started) (H : Type) (enc : TypeId × Value → H) (F : Stop.Interp) :
    ReturnsInHanded {} Tryz.checked os 3 .any ((OpenSpec.ofChange Rows.diskSaysSpec).preRow enc Tryz.prog Tryz.f3 Rows.diskSaysRow.domain false Rows.diskSaysRow.laid) (((OpenSpec.ofChange Rows.diskSaysSpec).at F).post enc Tryz.prog Tryz.f3 false true false false) := by
  obtain ⟨ds, places, hx⟩ := reads os enc
  have hok : Input.okWideB Tryz.prog ((World.laidAll Tryz.prog os Rows.diskSaysRow.laid).forCall (fun _ _ => 0) ⟨#[], noArgs, []⟩) 3 ⟨#[], noArgs, []⟩ = true := by kernel_rfl
  refine returnsInHanded_of_row (C := Tryz.checked) (s := OpenSpec.ofChange Rows.diskSaysSpec) own started (by kernel_rfl) Tryz.func3
    ⟨World.laidAll Tryz.prog os Rows.diskSaysRow.laid, fun _ _ => 0, ⟨#[], noArgs, []⟩, World.laidAll_os _ _ _, World.shaped_of_ZipB (by kernel_rfl) (by kernel_rfl), (Input.okWide_of_okWideB (base := 0) hok).1, (Input.okWide_of_okWideB hok).2,
      OpenSpec.preRow_of_cond 8 hx (by kernel_rfl) (fun k hk => by cases hk) (by kernel_rfl) (laid_met os), by
        simp only [Assume.holds]
        exact ⟨by simp, by simp, fun _ => Modest.zero, by simp, by simp⟩⟩ ?_
  intro W base args ds gs before hval hW _ _ hsz hL hsh _
  exact contract H enc W base args ds gs before hval hW hsz hL hsh

theorem said : Rows.DiskSaysSaid :=
  OpenClaim.holds_of_cond 3 Tryz.f3 rfl rfl rfl rfl rfl rfl rfl ⟨rfl, rfl, rfl, rfl, rfl⟩ rfl rfl rfl rfl rfl (by kernel_rfl) Tryz.func3 (by kernel_rfl)
    (of_decide_eq_true (by kernel_rfl)) (by unfold Func.isWrapper; first | (rw [if_pos (by decide +kernel)]; kernel_rfl) | (rw [if_neg (by decide +kernel)]; exact ⟨rfl, rfl⟩))
    (fun os started H enc _ F => by rw [OpenClaim.pre_eq_preRow]; exact lifted os started H enc F)

theorem plain (f : FuncId) (fn : Func) (hf : Tryz.pinned.checked.prog.funcNamed "orangery/orangerylaw.DiskSays" = some f) (hfn : Tryz.pinned.checked.prog.funcs[f]? = some fn) :
    true = Tryz.pinned.checked.prog.looks [] ∧ ∀ (j : Nat) t, fn.params[j]? = some t → Tryz.pinned.checked.prog.wantsStandIn t = false := by
  obtain rfl : f = 3 := Option.some.inj ((show Tryz.prog.funcNamed "orangery/orangerylaw.DiskSays" = some 3 by kernel_rfl).symm.trans hf) |>.symm
  obtain rfl : fn = Tryz.f3 := (Option.some.inj (Tryz.func3.symm.trans hfn)).symm
  refine ⟨by kernel_rfl, fun j t ht => ?_⟩
  rw [Tryz.params3] at ht
  have hm : t ∈ [24, 31, 3, 24] := by simpa using Array.mem_of_getElem? ht
  have hall : ([24, 31, 3, 24].all fun u => !Tryz.prog.wantsStandIn u) = true := by kernel_rfl
  exact (show Tryz.prog.wantsStandIn t = false by simpa using List.all_eq_true.1 hall t hm)

/-- The statement. -/
theorem proved : Rows.DiskSaysCardSaid :=
  Claim7.holds_tied_plain_at .later [] _ _ _ _ said (fun _ h => by cases h) (by kernel_rfl) (fun _ h => by cases h) diskSays_row_tie rfl ⟨rfl, rfl⟩ (by kernel_rfl) rfl plain (by kernel_rfl)
#print axioms proved
end Go.Proofs.YtmlodnamknielacGreatDoor.diskSays

