/- 8 texts of the proof: view.Of. slices.SortFunc at places is the library's, by its own laws. slices.SortFunc by tree.byName, on a slice of the call's own: a permutation, in order. move.with: a place put in by its node. orangerylaw.small; the fields of values that are no variables. slices.Equal at places. view.together, view.Same, orangeryref.SameView. slices.Index, slices.Contains, slices.ContainsFunc at places. -/
import Derived.Deep.RegionHeld3
import Derived.Deep.DeepCutAuto
import Derived.Shelf.SlSortCmp.NoneTotal
import Derived.Shelf.SlGeneric
import Derived.Ground.SlsfProg
import Derived.Test.YtljbchkmoekpmadGreatProg
import Derived.Shelf.SlSortCmp.WholeK
import Derived.Laws.StructEq
import Derived.Laws.AppendOwnNone
import Derived.Test.YtljbchkmoekpmadGreatP06
import Derived.Test.YtljbchkmoekpmadGreatP05
import Derived.Test.YtljbchkmoekpmadGreatP03
import Derived.Test.YtljbchkmoekpmadGreatP04
import Derived.Test.YtljbchkmoekpmadGreatP02
/- view.Of. -/
namespace Go.Proofs.YtljbchkmoekpmadGreat
open Go.ChangeShapes Go.WideShapes Go.ChangeAt Go.RowKit
open Orangery (Pl rootsOk check orI ofE ofR ofK ofW viewK viewW)

/-- a view's value -/
abbrev viV (r k v : Value) : Value := .agg #[r, k, v]

/-- an address in new memory -/
def Fresh (B : Nat) (a : Option Addr) : Prop := ∀ b off, a = some ⟨b, off, none⟩ → B ≤ b
theorem Fresh.none {B : Nat} : Fresh B none := fun _ _ e => by simp at e

/-- what a call leaves that answers a view and an error; its roots may lie where those lay that were handed in -/
def Views (w : World) (a' : Option Addr) (R : List Int) (K V : List Pl) (E : Int) (e : Ending) (w' : World) : Prop :=
  ∃ aR aK aV cR cK cV, e = .returned (.tuple #[viV (.slice aR R.length cR) (.slice aK K.length cK) (.slice aV V.length cV), .int .i64 E]) ∧ ((aK = none → cK = 0) ∧ (aV = none → cV = 0)) ∧ (Fresh w.heap.size aK ∧ Fresh w.heap.size aV ∧ (aR = a' ∨ Fresh w.heap.size aR)) ∧ SlI w' aR R ∧ SlP w' aK K ∧ SlP w' aV V ∧ Below w.heap.size w w'

theorem sizeView : (Tryz.prog.info? 42).map (·.size) = some 3 := by kernel_rfl

theorem OwnE.reads {W : World} {base : Nat} {a : Option Addr} {n c : Nat} {K : List Pl} (h : OwnE encPl 3 64 W base (.slice a n c) K) : SlP W a K ∧ (a = none → c = 0) ∧ Fresh base a := by
  have h1 := own_pls h
  rcases h1 with ⟨h2, rfl⟩ | ⟨g, cap, e, hb, hg, _, _, hp, _⟩
  · simp at h2
    obtain ⟨rfl, _, rfl⟩ := h2
    exact ⟨Or.inl rfl, fun _ => rfl, Fresh.none⟩
  · simp at e
    obtain ⟨rfl, _, _⟩ := e
    exact ⟨Or.inr ⟨g, 0, rfl, hg, hp.1⟩, fun hn => by simp at hn, fun b off e => by simp at e; omega⟩
theorem OwnI.fresh {W : World} {base : Nat} {a : Option Addr} {n c : Nat} {l : List Int} (h : OwnI W base (.slice a n c) l) : Fresh base a := by
  rcases h.2 with ⟨h2, _⟩ | ⟨g, cap, cur, e, hb, _⟩
  · simp at h2
    obtain ⟨rfl, _⟩ := h2
    exact Fresh.none
  · simp at e
    obtain ⟨rfl, _⟩ := e
    exact fun b off e => by simp at e; omega
theorem Fresh.mono {B B' : Nat} {a : Option Addr} (h : Fresh B a) (hb : B' ≤ B) : Fresh B' a := fun b off e => Nat.le_trans hb (h b off e)

set_option maxHeartbeats 2000000 in
set_option maxRecDepth 100000 in
theorem of_any (w : World) (a a' : Option Addr) (c c' : Nat) (l : List Pl) (R : List Int) (hl : l.length ≤ maxLen) (hR : R.length ≤ maxLen) (h : SlP w a l) (h' : SlI w a' R) :
    Calls Tryz.prog 42 #[.agg #[.slice a l.length c], .slice a' R.length c'] w (Views w a' (ofR l R) (ofK l R) (ofW l R) (ofE l R)) := by
  obtain ⟨W0, hW, hT, hV, hB, hS⟩ := laid2 w [Value.slice a l.length c] 25 [Value.slice none 0 0, Value.slice none 0 0, Value.slice none 0 0] 42
  have t0 := hT.at 0 rfl
  have HP : Hid (SlP w a l) := h
  have HI : Hid (SlI w a' R) := h'
  clear h h'
  go_enter Tryz.func42, Tryz.ntmps42
  go_wp2_with fail
  clear hW
  refine (check_any W0 a c l hl (HP.out.below hB)).mono ?_
  rintro e w1 ⟨rfl, hb1⟩
  go_wp2_with fail
  have hb1w : Below w.heap.size w w1 := hB.trans (hb1.mono hB.size)
  refine (vroots_any w1 a' c' R hR (HI.out.below hb1w)).mono ?_
  rintro e w1 ⟨rfl, rfl⟩
  go_wp2_with fail
  obtain ⟨W2, hW2, hN2, hB2, hS2⟩ := laid1 w1 [Value.int IntKind.i64 (check l), Value.int IntKind.i64 (rootsOk R)] 38
  rw [hW2]
  clear hW2
  refine (orE_any W2 w1.heap.size 2 (check l) (rootsOk R) (hN2.at 0 rfl) (hN2.at 1 rfl)).mono ?_
  rintro e w2 ⟨rfl, rfl⟩
  have hT2 := (hT.keep hb1).keep hB2
  have hV2 := (hV.keep hb1).keep hB2
  have HB2 : Hid (Below w.heap.size w w2) := hb1w.trans (hB2.mono hb1w.size)
  have HE : Hid (ofE l R = orI (check l) (rootsOk R)) := rfl
  clear hT hV hB hb1 hb1w hN2 hB2 t0
  by_cases hz : orI (check l) (rootsOk R) = 0
  · obtain ⟨hck, hro⟩ := Orangery.ofE_zero (l := l) (R := R) hz
    have hl2 : l.length ≤ 1000 := by have := Orangery.check_len l hck; omega
    have hR2 : R.length ≤ 1000 := by have := Orangery.rootsOk_len hro; omega
    obtain ⟨e1, e2, e3⟩ := Orangery.of_ok (l := l) (R := R) hz
    have HZ : Hid (ofE l R = 0) := hz
    have HV : Hid (ofR l R = R ∧ ofK l R = viewK l R ∧ ofW l R = viewW l R) := ⟨e1, e2, e3⟩
    rw [hz]
    clear hz hck hro HE e1 e2 e3
    have t0 := hT2.at 0 rfl
    go_wp2_with fail
    refine (split_any w2 a a' c c' l R hl2 hR2 (HP.out.below HB2.out) (HI.out.below HB2.out)).mono ?_
    rintro e w3 ⟨v, u, rfl, htwo, hb3⟩
    clear t0 hT2
    obtain ⟨a5, c5, rfl, _⟩ := htwo.1.val
    obtain ⟨a6, c6, rfl, _⟩ := htwo.2.1.val
    obtain ⟨W4, hW4, hX, hB4, hS4⟩ := laid1 w3 [Value.slice a5 (viewK l R).length c5, Value.slice a6 (viewW l R).length c6] 132
    have hV4 := (hV2.keep hb3).keep hB4
    have HT4 : Hid (Two W4 w2.heap.size (.slice a5 (viewK l R).length c5) (.slice a6 (viewW l R).length c6) (viewK l R) (viewW l R)) := htwo.keep hB4
    have HB4 : Hid (Below w.heap.size w W4) := (HB2.out.trans (hb3.mono HB2.out.size)).trans (hB4.mono (Nat.le_trans HB2.out.size hb3.size))
    have x0 := hX.at 0 rfl
    have x1 := hX.at 1 rfl
    have hlt4 : w2.heap.size ≤ w3.heap.size := hb3.size
    have hV2lt : w.heap.size + 1 < w2.heap.size := hV2.lt
    clear htwo hb3 hV2 hB4
    go_upto_region 5 with fail
    clear hW4
    have HI4 : Hid (SlI W4.drew a' R) := HI.out.below (HB4.out.drew)
    have y0 := hV4.at 0 rfl
    have y1 := hV4.at 1 rfl
    have y2 := hV4.at 2 rfl
    have yf := hV4.frz
    have ne1 : ¬ w.heap.size + 1 = w3.heap.size := by have := hV2lt; omega
    have ne2 : ¬ w3.heap.size = w.heap.size + 1 := by have := hV2lt; omega
    go_region_held3 (fun w' => w'.cell? ⟨w3.heap.size, 0, none⟩ = some (.slice a5 (viewK l R).length c5) ∧ w'.cell? ⟨w3.heap.size, 1, none⟩ = some (.slice a6 (viewW l R).length c6)) (go_keep)
      (first | (go_at_call 90; refine (cloneInts_any _ a' c' R hR2 ?_).mono ?_; exact HI4.out; rintro e w5 ⟨v5, rfl, hO5, hb5⟩; obtain ⟨a7, c7, rfl, hI7⟩ := hO5.val; have hb5' : Below W4.heap.size W4 w5 := ((Below.refl _ W4).drew).trans hb5; have hX5 := hX.keep hb5'; have x50 := hX5.at 0 rfl; have x51 := hX5.at 1 rfl; have hV5 := hV4.keep hb5'; have y50 := hV5.at 0 rfl; have y51 := hV5.at 1 rfl; have y52 := hV5.at 2 rfl; have yf5 := hV5.frz))
    go_wp2
    have HVf := hV5.sets [Value.slice a7 R.length c7, Value.slice a5 (viewK l R).length c5, Value.slice a6 (viewW l R).length c6] rfl
    have hTf := Two.others (w.heap.size + 1) hV2lt [Value.slice a7 R.length c7, Value.slice a5 (viewK l R).length c5, Value.slice a6 (viewW l R).length c6] 0 _ (HT4.out.keep hb5')
    have hOf := OwnI.others (w.heap.size + 1) (by have h1 : w3.heap.size < W4.heap.size := hX.lt; show w.heap.size + 1 < W4.heap.size; omega) [Value.slice a7 R.length c7, Value.slice a5 (viewK l R).length c5, Value.slice a6 (viewW l R).length c6] 0 _ hO5
    have hBf : Below w.heap.size w w5 := HB4.out.trans (hb5'.mono HB4.out.size)
    refine ret_cell_tmp Tryz.results42 rfl rfl (HVf.load Tryz.underlying42 rfl sizeView) ?_
    obtain ⟨e1, e2, e3⟩ := HV.out
    unfold Views
    rw [e1, e2, e3, HZ.out]
    exact ⟨a7, a5, a6, c7, c5, c6, rfl, ⟨hTf.1.reads.2.1, hTf.2.1.reads.2.1⟩, ⟨hTf.1.reads.2.2.mono HB2.out.size, hTf.2.1.reads.2.2.mono HB2.out.size, Or.inr (hOf.fresh.mono HB4.out.size)⟩, hOf.reads, hTf.1.reads.1, hTf.2.1.reads.1, below_sets hBf (w.heap.size + 1) (by omega) [Value.slice a7 R.length c7, Value.slice a5 (viewK l R).length c5, Value.slice a6 (viewW l R).length c6] 0⟩
  · have hz' : (orI (check l) (rootsOk R) != 0) = true := by simpa using hz
    obtain ⟨e1, e2, e3⟩ := Orangery.of_bad (l := l) (R := R) hz
    have HV : Hid (ofR l R = [] ∧ ofK l R = [] ∧ ofW l R = []) := ⟨e1, e2, e3⟩
    have HVf : Hid (Blk (w2.setCells (w.heap.size + 1) 0 [Value.slice none 0 0, Value.slice none 0 0, Value.slice none 0 0]) (w.heap.size + 1) [Value.slice none 0 0, Value.slice none 0 0, Value.slice none 0 0]) := hV2.sets _ rfl
    have y0 := hV2.at 0 rfl
    have y1 := hV2.at 1 rfl
    have y2 := hV2.at 2 rfl
    have yf := hV2.frz
    generalize orI (check l) (rootsOk R) = E at *
    clear hz e1 e2 e3 hT2 hV2
    go_wp2
    refine ret_cell_tmp Tryz.results42 rfl rfl (HVf.out.load Tryz.underlying42 rfl sizeView) ?_
    obtain ⟨e1, e2, e3⟩ := HV.out
    unfold Views
    rw [e1, e2, e3, HE.out]
    exact ⟨none, none, none, 0, 0, 0, rfl, ⟨fun _ => rfl, fun _ => rfl⟩, ⟨Fresh.none, Fresh.none, Or.inr Fresh.none⟩, Or.inl rfl, Or.inl rfl, Or.inl rfl, below_sets HB2.out (w.heap.size + 1) (by omega) [Value.slice none 0 0, Value.slice none 0 0, Value.slice none 0 0] 0⟩
end Go.Proofs.YtljbchkmoekpmadGreat

/- slices.SortFunc at places is the library's, by its own laws. -/
namespace Go.Proofs
open Go.Shelf
def Tryz.sortPl_ren : Go.Shelf.Ren := ⟨fun | 6 => 157 | 15 => 104 | 14 => 166 | 28 => 139 | 29 => 140 | 20 => 171 | 21 => 172 | 22 => 173 | 23 => 174 | 24 => 175 | 25 => 176 | 26 => 177 | 27 => 178 | 46 => 180 | 47 => 152 | 48 => 153 | 49 => 181 | 50 => 182 | 57 => 183 | n => n, fun | 22 => 23 | 24 => 64 | 25 => 192 | 3 => 3 | 39 => 141 | 0 => 0 | 53 => 173 | 55 => 175 | 4 => 4 | 46 => 166 | 45 => 165 | 50 => 170 | 5 => 5 | 9 => 9 | 66 => 184 | 70 => 188 | 76 => 202 | 77 => 203 | n => n, fun | n => n⟩
theorem Tryz.sortPl : Go.Proofs.SlLaysF0.n6 Tryz.prog Tryz.sortPl_ren := {
  mixed := by kernel_rfl
  f6 := ⟨Tryz.f157.name, by decide, Tryz.func157.trans (congrArg some (by kernel_rfl))⟩
  f14 := ⟨Tryz.f166.name, by decide, Tryz.func166.trans (congrArg some (by kernel_rfl))⟩
  f15 := Tryz.func104.trans (congrArg some (by kernel_rfl))
  f20 := ⟨Tryz.f171.name, by decide, Tryz.func171.trans (congrArg some (by kernel_rfl))⟩
  f21 := ⟨Tryz.f172.name, by decide, Tryz.func172.trans (congrArg some (by kernel_rfl))⟩
  f22 := ⟨Tryz.f173.name, by decide, Tryz.func173.trans (congrArg some (by kernel_rfl))⟩
  f23 := ⟨Tryz.f174.name, by decide, Tryz.func174.trans (congrArg some (by kernel_rfl))⟩
  f24 := ⟨Tryz.f175.name, by decide, Tryz.func175.trans (congrArg some (by kernel_rfl))⟩
  f25 := ⟨Tryz.f176.name, by decide, Tryz.func176.trans (congrArg some (by kernel_rfl))⟩
  f26 := ⟨Tryz.f177.name, by decide, Tryz.func177.trans (congrArg some (by kernel_rfl))⟩
  f27 := ⟨Tryz.f178.name, by decide, Tryz.func178.trans (congrArg some (by kernel_rfl))⟩
  f28 := Tryz.func139.trans (congrArg some (by kernel_rfl))
  f29 := Tryz.func140.trans (congrArg some (by kernel_rfl))
  f46 := ⟨Tryz.f180.name, by decide, Tryz.func180.trans (congrArg some (by kernel_rfl))⟩
  f47 := Tryz.func152.trans (congrArg some (by kernel_rfl))
  f48 := Tryz.func153.trans (congrArg some (by kernel_rfl))
  f49 := ⟨Tryz.f181.name, by decide, Tryz.func181.trans (congrArg some (by kernel_rfl))⟩
  f50 := ⟨Tryz.f182.name, by decide, Tryz.func182.trans (congrArg some (by kernel_rfl))⟩
  f57 := ⟨Tryz.f183.name, by decide, Tryz.func183.trans (congrArg some (by kernel_rfl))⟩
  t0 := Tryz.underlying0
  a0 := Tryz.isAgg0
  z0 := Tryz.sizeOf0
  v0 := Tryz.zeroValue0
  t3 := Tryz.underlying3
  a3 := Tryz.isAgg3
  z3 := Tryz.sizeOf3
  v3 := Tryz.zeroValue3
  t4 := Tryz.underlying4
  a4 := Tryz.isAgg4
  z4 := Tryz.sizeOf4
  v4 := Tryz.zeroValue4
  t5 := Tryz.underlying5
  a5 := Tryz.isAgg5
  z5 := Tryz.sizeOf5
  v5 := Tryz.zeroValue5
  t9 := Tryz.underlying9
  a9 := Tryz.isAgg9
  z9 := Tryz.sizeOf9
  v9 := Tryz.zeroValue9
  t22 := Tryz.underlying23
  a22 := Tryz.isAgg23
  z22 := Tryz.sizeOf23
  v22 := Tryz.zeroValue23
  t25 := Tryz.underlying192
  a25 := Tryz.isAgg192
  z25 := Tryz.sizeOf192
  v25 := Tryz.zeroValue192
  t39 := Tryz.underlying141
  a39 := Tryz.isAgg141
  z39 := Tryz.sizeOf141
  v39 := Tryz.zeroValue141
  t45 := Tryz.underlying165
  a45 := Tryz.isAgg165
  z45 := Tryz.sizeOf165
  v45 := Tryz.zeroValue165
  t46 := Tryz.underlying166
  a46 := Tryz.isAgg166
  z46 := Tryz.sizeOf166
  v46 := Tryz.zeroValue166
  t50 := Tryz.underlying170
  a50 := Tryz.isAgg170
  z50 := Tryz.sizeOf170
  v50 := Tryz.zeroValue170
  t53 := Tryz.underlying173
  a53 := Tryz.isAgg173
  z53 := Tryz.sizeOf173
  v53 := Tryz.zeroValue173
  t55 := Tryz.underlying175
  a55 := Tryz.isAgg175
  z55 := Tryz.sizeOf175
  v55 := Tryz.zeroValue175
  t66 := Tryz.underlying184
  a66 := Tryz.isAgg184
  z66 := Tryz.sizeOf184
  v66 := Tryz.zeroValue184
  t70 := Tryz.underlying188
  a70 := Tryz.isAgg188
  z70 := Tryz.sizeOf188
  v70 := Tryz.zeroValue188
  t76 := Tryz.underlying202
  a76 := Tryz.isAgg202
  z76 := Tryz.sizeOf202
  v76 := Tryz.zeroValue202
  t77 := Tryz.underlying203
  a77 := Tryz.isAgg203
  z77 := Tryz.sizeOf203
  v77 := Tryz.zeroValue203 }
end Go.Proofs

/- slices.SortFunc by tree.byName, on a slice of the call's own: a permutation, in order. -/
namespace Go.Proofs.YtljbchkmoekpmadGreat
open Go.ChangeShapes Go.WideShapes Go.ChangeAt Go.RowKit
open Orangery (Pl byN leP ltP)

theorem swo_irrefl (x : Pl) : Go.Proofs.ltOf byN x x = false := by
  have : ¬ byN x x < 0 := by rw [Orangery.byN_lt]; unfold ltP; omega
  simpa [Go.Proofs.ltOf] using this
theorem swo_trans (x y z : Pl) (h1 : Go.Proofs.ltOf byN x y = true) (h2 : Go.Proofs.ltOf byN y z = true) : Go.Proofs.ltOf byN x z = true := by
  simp only [Go.Proofs.ltOf, decide_eq_true_eq, Orangery.byN_lt] at *
  unfold ltP at *
  omega
theorem swo_ntrans (x y z : Pl) (h1 : Go.Proofs.ltOf byN x y = false) (h2 : Go.Proofs.ltOf byN y z = false) : Go.Proofs.ltOf byN x z = false := by
  simp only [Go.Proofs.ltOf, decide_eq_false_iff_not, Orangery.byN_lt] at *
  unfold ltP at *
  omega
theorem swoByN : Go.Sort.SWO (Go.Proofs.ltOf byN) := ⟨swo_irrefl, swo_trans, swo_ntrans⟩

theorem holdsK_of {w : World} {g : Nat} {l : List Pl} (h : HoldsP w g l) : Go.Sort.HoldsK encPl 3 w g 0 l.toArray := by
  intro j hj
  rw [Go.Sort.size_flatK] at hj
  have hj' : j < l.length * 3 := by simpa using hj
  have hi : j / 3 < l.length := by omega
  rw [Go.Sort.get_flatK _ _ _ _ (by simpa using hj')]
  refine ⟨?_, by have := h.2 j hj'; simpa using this⟩
  have hc := h.1 (j / 3) hi
  have e : l.toArray[j / 3]! = l[j / 3] := by simp [hi]
  rw [e]
  have hm : j % 3 = 0 ∨ j % 3 = 1 ∨ j % 3 = 2 := by omega
  rcases hm with hm | hm | hm
  · rw [hm, show 0 + j = 0 + j / 3 * 3 by omega, hc.1]; rfl
  · rw [hm, show 0 + j = 0 + j / 3 * 3 + 1 by omega, hc.2.1]; rfl
  · rw [hm, show 0 + j = 0 + j / 3 * 3 + 2 by omega, hc.2.2]; rfl

theorem holdsP_of {w : World} {g : Nat} {d : Array Pl} (h : Go.Sort.HoldsK encPl 3 w g 0 d) : HoldsP w g d.toList := by
  refine ⟨fun i hi => ?_, fun i hi => ?_⟩
  · have hi' : i < d.size := by simpa using hi
    have h0 := (h.cell (i := i) (c := 0) hi' (by omega)).1
    have h1 := (h.cell (i := i) (c := 1) hi' (by omega)).1
    have h2 := (h.cell (i := i) (c := 2) hi' (by omega)).1
    have e : d[i]! = d.toList[i] := by simp [hi']
    rw [e] at h0 h1 h2
    exact ⟨h0, h1, h2⟩
  · have := (h i (by simpa using hi)).2
    simpa using this

theorem below_sortWorldK {B : Nat} {w : World} (g off n : Nat) (d : Array Pl) (os : Array Obj) (hB : B ≤ w.heap.size) (hg : B ≤ g) : Below B w (Go.Proofs.sortWorldK encPl 3 w g off n d os) := by
  refine ⟨rfl, rfl, rfl, ?_, fun k hk => ?_⟩
  · exact Go.Proofs.size_sortWorldK_c encPl 3 w g off n d os
  · show ((w.heap.modify g _) ++ os)[k]? = _
    rw [Array.getElem?_append_left (by simp; omega), Array.getElem?_modify]
    have : ¬ g = k := by omega
    simp [this]

theorem grown_sortWorldK {w : World} (g off n : Nat) (d : Array Pl) (os : Array Obj) : w.grownBy (Go.Proofs.sortWorldK encPl 3 w g off n d os) (some g) := by
  refine ⟨rfl, rfl, rfl, Go.Proofs.size_sortWorldK_c encPl 3 w g off n d os, fun k hk hne => ?_⟩
  show ((w.heap.modify g _) ++ os)[k]? = _
  rw [Array.getElem?_append_left (by simp; omega), Array.getElem?_modify]
  have : ¬ g = k := fun e => hne (by rw [e])
  simp [this]

theorem RowAt.sorted {w : World} {r cap : Nat} (h : RowAt w r cap) (g off n : Nat) (d : Array Pl) (os : Array Obj) : RowAt (Go.Proofs.sortWorldK encPl 3 w g off n d os) r cap := by
  obtain ⟨cur, h1, h2⟩ := h
  have hr : r < w.heap.size := blk_lt h1
  have e : (Go.Proofs.sortWorldK encPl 3 w g off n d os).heap[r]? = (Go.Sort.putRow id w g off (Go.Sort.flatK encPl 3 d)).heap[r]? := by
    show ((Go.Sort.putRow id w g off (Go.Sort.flatK encPl 3 d)).heap ++ os)[r]? = _
    rw [Array.getElem?_append_left]
    show r < (w.heap.modify g _).size
    simp
    exact hr
  have e2 : (Go.Sort.putRow id w g off (Go.Sort.flatK encPl 3 d)).heap[r]? = if g = r then some (.cells (Go.Sort.putCells id off (Go.Sort.flatK encPl 3 d) cur) 64 (0, 0)) else w.heap[r]? := by
    show (w.heap.modify g _)[r]? = _
    rw [Array.getElem?_modify, h1]
    by_cases hg : g = r
    · rw [if_pos hg, if_pos hg]; rfl
    · rw [if_neg hg, if_neg hg]
  rw [e2] at e
  by_cases hg : g = r
  · rw [if_pos hg] at e
    exact ⟨_, e, by simp [Go.Sort.putCells, h2]⟩
  · rw [if_neg hg] at e
    exact ⟨cur, e.trans h1, h2⟩

theorem perm_sorted {f : Pl → Pl → Int} {l : List Pl} {d' : Array Pl} (hp : Go.Sort.PermIn 0 l.toArray.size l.toArray d') (hs : Go.Sort.SortedIn (Go.Proofs.ltOf f) 0 l.toArray.size d') :
    d'.size = l.length ∧ d'.toList.Perm l ∧ d'.toList.Pairwise fun p q => ¬ f q p < 0 := by
  obtain ⟨h1, _, h3⟩ := hp
  have e1 : d'.extract 0 l.toArray.size = d' := by rw [← h1]; exact Array.extract_size
  rw [e1, Array.extract_size] at h3
  refine ⟨by simpa using h1, by simpa using h3, ?_⟩
  rw [List.pairwise_iff_getElem]
  intro i j hi hj hij
  have hi' : i < d'.size := by simpa using hi
  have hj' : j < d'.size := by simpa using hj
  have := hs i j (Nat.zero_le _) hij (by omega)
  rw [getElem!_pos d' j hj', getElem!_pos d' i hi'] at this
  simpa [Go.Proofs.ltOf] using this

set_option maxHeartbeats 1000000 in
/-- slices.SortFunc at places, by whatever order -/
theorem sort_gen (k : Nat) (f : Pl → Pl → Int) (hf : Go.Sort.SWO (Go.Proofs.ltOf f)) (eg : ∀ args w, (callFunc k args).run Tryz.prog w = .ok (.enter k args) w)
    (hk : ∀ w p q, Calls Tryz.prog k #[plV p, plV q] w fun e w' => e = .returned (.int .i64 (f p q)) ∧ ∃ n os, w' = Go.Sort.grow (w.drewN n) os)
    (w : World) (base : Nat) (sv : Value) (l : List Pl) (hl : l.length ≤ 1000) (hbase : base ≤ w.heap.size) (h : OwnS w base sv l) :
    Calls Tryz.prog 157 #[sv, .func (.func k) #[] #[]] w
      fun e w' => e = .returned (.tuple #[]) ∧ ∃ l', l'.Perm l ∧ (l'.Pairwise fun p q => ¬ f q p < 0) ∧ OwnS w' base sv l' ∧ Below base w w' ∧ w.grownBy w' sv.ownBlock := by
  rcases h with ⟨rfl, rfl⟩ | ⟨g, cap, rfl, hgb, hgl, hcap, hcm, hH, hrow⟩
  · have hn := Go.Proofs.AnyF.slices_SortFunc_none Tryz.sortPl none 0 (.func (.func k) #[] #[]) w
    change Calls Tryz.prog 157 _ _ _ at hn
    refine hn.mono ?_
    rintro e w' ⟨rfl, rfl⟩
    exact ⟨rfl, [], List.Perm.refl _, List.Pairwise.nil, Or.inl ⟨rfl, rfl⟩, Below.refl _ _, ⟨rfl, rfl, rfl, Nat.le_refl _, fun _ _ _ => rfl⟩⟩
  · have hK := holdsK_of hH
    have hn := Go.Proofs.AnyQ.slices_SortFunc Tryz.sortPl 3 Tryz.isAgg64 Tryz.sizeOf64 encPl (fun _ => rfl) (fun x v hv => by simp [encPl] at hv; rcases hv with rfl | rfl | rfl <;> rfl) f hf k #[] g 0 cap l.toArray w eg (fun _ _ _ _ x y => hk _ x y) hK hgl (by simp; omega)
    change Calls Tryz.prog 157 _ _ _ at hn
    have hsz : l.toArray.size = l.length := by simp
    rw [hsz] at hn
    refine hn.mono ?_
    rintro e w' ⟨rfl, d', n, os, hp, hs, rfl⟩
    rw [← hsz] at hp hs
    obtain ⟨e1, e2, e3⟩ := perm_sorted hp hs
    refine ⟨rfl, d'.toList, e2, e3, ?_, below_sortWorldK g 0 n d' os hbase hgb, grown_sortWorldK g 0 n d' os⟩
    refine Or.inr ⟨g, cap, by simp [e1], hgb, Nat.lt_of_lt_of_le hgl (Go.Proofs.size_sortWorldK_c encPl 3 w g 0 n d' os), by simp [e1]; exact hcap, hcm, ?_, hrow.sorted g 0 n d' os⟩
    exact holdsP_of (Go.Proofs.holdsK_sortWorldK_c encPl 3 w g 0 l.toArray d' n os hK hgl (by simp [e1]))

end Go.Proofs.YtljbchkmoekpmadGreat

/- move.with: a place put in by its node. -/
namespace Go.Proofs.YtljbchkmoekpmadGreat
open Go.ChangeShapes Go.WideShapes Go.ChangeAt Go.RowKit
open Orangery (Pl Mv Stp outL inL cmpI byNode)

def cmpN (p q : Pl) : Int := cmpI p.1 q.1
theorem cmpN_lt (p q : Pl) : cmpN p q < 0 ↔ p.1 < q.1 := by
  unfold cmpN cmpI
  by_cases h1 : p.1 < q.1
  · simp [h1]
  · by_cases h2 : q.1 < p.1 <;> simp [h1, h2]
theorem swoNode : Go.Sort.SWO (Go.Proofs.ltOf cmpN) := by
  refine ⟨fun x => ?_, fun x y z h1 h2 => ?_, fun x y z h1 h2 => ?_⟩
  · have : ¬ cmpN x x < 0 := by rw [cmpN_lt]; omega
    simpa [Go.Proofs.ltOf] using this
  · simp only [Go.Proofs.ltOf, decide_eq_true_eq, cmpN_lt] at *
    omega
  · simp only [Go.Proofs.ltOf, decide_eq_false_iff_not, cmpN_lt] at *
    omega

theorem sort_node (w : World) (base : Nat) (sv : Value) (l : List Pl) (hl : l.length ≤ 1000) (hbase : base ≤ w.heap.size) (h : OwnS w base sv l) :
    Calls Tryz.prog 157 #[sv, .func (.func 158) #[] #[]] w
      fun e w' => e = .returned (.tuple #[]) ∧ ∃ l', l'.Perm l ∧ (l'.Pairwise fun p q => p.1 ≤ q.1) ∧ OwnS w' base sv l' ∧ Below base w w' ∧ w.grownBy w' sv.ownBlock := by
  refine (sort_gen 158 cmpN swoNode (Go.Proofs.enters_of Tryz.func158 (by kernel_rfl) rfl) (fun w p q => with1_any w p q) w base sv l hl hbase h).mono ?_
  rintro e w' ⟨he, l', h1, h2, h3, h4, h5⟩
  exact ⟨he, l', h1, h2.imp (fun {p q} hh => by rw [cmpN_lt] at hh; omega), h3, h4, h5⟩

/-- an own slice, behind the writing of a block of another type -/
theorem OwnS.apart {w : World} {base : Nat} {v : Value} {l : List Pl} (h : OwnS w base v l) {b : Nat} {cs : Array Value} {t : TypeId} {fr : Nat × Nat} (hb : w.heap[b]? = some (.cells cs t fr)) (ht : t ≠ 64) :
    some b ≠ v.ownBlock ∧ ∀ j u, OwnS (w.setCell ⟨b, j, none⟩ u) base v l := by
  rcases h with ⟨rfl, rfl⟩ | ⟨g, cap, rfl, h1, hl, h2, h3, ⟨hp, hf⟩, hr⟩
  · exact ⟨by simp [Value.ownBlock], fun j u => Or.inl ⟨rfl, rfl⟩⟩
  · have hne : ¬ b = g := by
      rintro rfl
      obtain ⟨cur, hc, _⟩ := hr
      rw [hb] at hc
      simp at hc
      exact ht hc.2.1
    refine ⟨by simp [Value.ownBlock, hne], fun j u => ?_⟩
    refine Or.inr ⟨g, cap, rfl, h1, by simpa using hl, h2, h3, ⟨fun i hi => ?_, fun i hi => ?_⟩, hr.set _ _ _⟩
    · rw [World.cell?_setCell_other _ _ _ _ (by simp <;> omega), World.cell?_setCell_other _ _ _ _ (by simp <;> omega), World.cell?_setCell_other _ _ _ _ (by simp <;> omega)]
      exact hp i hi
    · simp only [World.frozen?_setCell]
      exact hf i hi

set_option maxHeartbeats 1000000 in
set_option maxRecDepth 100000 in
theorem with_any (w : World) (a : Option Addr) (c : Nat) (l : List Pl) (p : Pl) (hl : l.length ≤ 900) (h : SlP w a l) (hs : byNode l) :
    Calls Tryz.prog 142 #[.agg #[.slice a l.length c], plV p] w
      fun e w' => ∃ v, e = .returned (.agg #[v]) ∧ OwnS w' w.heap.size v (inL l p) ∧ Below w.heap.size w w' := by
  obtain ⟨p0, p1, p2⟩ := p
  obtain ⟨i0, hi, hz0, hz1, hz2⟩ := info_parts infoPlace
  go_enter Tryz.func142, Tryz.ntmps142
  go_wp2_with fail
  obtain ⟨W0, hW, _, hN, hR, hB, hS⟩ := laid3 w [Value.slice a l.length c] 25 [Value.int IntKind.i64 p0, Value.int IntKind.i64 p1, Value.int IntKind.i64 p2] 64 [Value.slice none 0 0] 25
  rw [hW]
  clear hW
  have hP := h.below hB
  clear h
  refine (without_any W0 a c l p0 (by omega) hP).mono ?_
  rintro e w1 ⟨v1, rfl, hO1, hb1⟩
  have hN1 := hN.keep hb1
  have hR1 := hR.keep hb1
  have HB1 : Hid (Below w.heap.size w w1) := hB.trans (hb1.mono hB.size)
  obtain ⟨a1, c1, rfl⟩ := hO1.val
  clear hN hR hB hP
  have x0 := hN1.at 0 rfl
  have x1 := hN1.at 1 rfl
  have x2 := hN1.at 2 rfl
  have n0 : ¬ w1.heap.size = w.heap.size + 1 := by have := hN1.lt; omega
  have n1 : w.heap.size + 1 < w1.heap.size := hN1.lt
  have hsz1 : w.heap.size + 3 ≤ w1.heap.size := by have := hb1.size; omega
  have hU := Blk.new w1 [Value.slice a1 (outL l p0).length c1] 25
  have hU2 := hU.alloc (Obj.cells #[Value.int IntKind.i64 p0, Value.int IntKind.i64 p1, Value.int IntKind.i64 p2] 64)
  have hR2 := (hR1.alloc (Obj.cells #[Value.slice a1 (outL l p0).length c1] 25)).alloc (Obj.cells #[Value.int IntKind.i64 p0, Value.int IntKind.i64 p1, Value.int IntKind.i64 p2] 64)
  have hown := (hO1.row.alloc (Obj.cells #[Value.slice a1 (outL l p0).length c1] 25)).alloc (Obj.cells #[Value.int IntKind.i64 p0, Value.int IntKind.i64 p1, Value.int IntKind.i64 p2] 64)
  have hB2 := ((Below.refl w1.heap.size w1).alloc (Nat.le_refl _) (Obj.cells #[Value.slice a1 (outL l p0).length c1] 25)).alloc (by simp) (Obj.cells #[Value.int IntKind.i64 p0, Value.int IntKind.i64 p1, Value.int IntKind.i64 p2] 64)
  have hlt1 := hO1.row.lt
  have hlen : (outL l p0).length ≤ 900 := Nat.le_trans (List.length_filter_le _ _) hl
  have HU2 : Hid (Blk ((w1.alloc (Obj.cells #[Value.slice a1 (outL l p0).length c1] 25)).alloc (Obj.cells #[Value.int IntKind.i64 p0, Value.int IntKind.i64 p1, Value.int IntKind.i64 p2] 64)) w1.heap.size [Value.slice a1 (outL l p0).length c1]) := hU2
  have HR2 : Hid (Blk ((w1.alloc (Obj.cells #[Value.slice a1 (outL l p0).length c1] 25)).alloc (Obj.cells #[Value.int IntKind.i64 p0, Value.int IntKind.i64 p1, Value.int IntKind.i64 p2] 64)) (w.heap.size + 1 + 1) [Value.slice none 0 0]) := hR2
  have HL : Hid (∀ k, (Value.slice a1 (outL l p0).length c1).ownBlock = some k → W0.heap.size ≤ k ∧ k < w1.heap.size) := hlt1
  clear hU hU2 hR2 hO1 hR1 hN1 hlt1
  go_wp2_with (at_builtin; refine wpList_append_own _ rfl _ _ 23 rfl W0.heap.size 64 i0 _ 3 24 Tryz.underlying23 hi hz0 hz1 hz2 rfl (by decide) _ _ _ rfl hown ⟨w1.heap.size + 1, 0, none⟩ 1 1 [.int .i64 p0, .int .i64 p1, .int .i64 p2] rfl rfl ?c1 ?c2 ?c3 ?c4 ?c5 ?_)
  case c1 =>
    intro t u ht
    match t, ht with
    | 0, ht => simp at ht; subst ht; simp [Addr.add]
    | 1, ht => simp at ht; subst ht; simp [Addr.add]
    | 2, ht => simp at ht; subst ht; simp [Addr.add]
    | t + 3, ht => simp at ht
  case c2 => intro u hu; simp at hu; rcases hu with rfl | rfl | rfl <;> rfl
  case c3 => unfold maxLen; omega
  case c4 => omega
  case c5 => simp; omega
  · intro v2 w2 hown' hgrow _
    have hO2 : OwnS w2 (w.heap.size + 3) v2 (outL l p0 ++ [(p0, p1, p2)]) := own_pls (by simpa [encPl] using hown')
    have hne : ∀ k, k = w1.heap.size ∨ k < W0.heap.size → some k ≠ (Value.slice a1 (outL l p0).length c1).ownBlock := by
      intro k hk e
      have := HL.out k e.symm
      omega
    have hU3 := HU2.out.grown hgrow (hne _ (Or.inl rfl))
    have hR3 := HR2.out.grown hgrow (hne _ (Or.inr (by omega)))
    have hblk : w2.heap[w1.heap.size]? = some (Obj.cells #[Value.slice a1 (outL l p0).length c1] 25) := by
      rw [hgrow.block w1.heap.size (by simp; omega) (hne _ (Or.inl rfl)), blk_old (by simp)]
      exact blk_new rfl
    have hb2 : Below W0.heap.size w1 w2 := (hB2.mono hb1.size).grown hgrow (by simp; have := hb1.size; omega) (fun k hk => (HL.out k hk).1)
    have hsz2 : w1.heap.size ≤ w2.heap.size := hb2.size
    have HB2 : Hid (Below w.heap.size w w2) := HB1.out.trans (hb2.mono (by omega))
    obtain ⟨hown3, happ⟩ := hO2.apart hblk (by decide)
    obtain ⟨a2, c2, rfl⟩ := hO2.val
    generalize hK : outL l p0 ++ [(p0, p1, p2)] = K at *
    have HIN : Hid (∀ l', l'.Perm K → (l'.Pairwise fun p q => p.1 ≤ q.1) → l' = inL l (p0, p1, p2)) := fun l' h1 h2 => Orangery.in_unique l l' (p0, p1, p2) hs (by rw [← hK] at h1; exact h1) h2
    have hKl : K.length ≤ 1000 := by rw [← hK]; simp; omega
    have u0 := hU3.at 0 rfl
    have uf := hU3.frz
    have hU4 := hU3.set 0 (by simp) (.slice a2 K.length c2)
    have hR4 := hR3.other (g := w1.heap.size) (by omega) 0 (.slice a2 K.length c2)
    have hO4 := happ 0 (.slice a2 K.length c2)
    have HB4 : Hid (Below w.heap.size w (w2.setCell ⟨w1.heap.size, 0, none⟩ (.slice a2 K.length c2))) := HB2.out.setCell (by show w.heap.size ≤ w1.heap.size; omega) _
    have HBK : Hid (Blk (w2.setCell ⟨w1.heap.size, 0, none⟩ (.slice a2 K.length c2)) w1.heap.size [.slice a2 K.length c2] ∧ Blk (w2.setCell ⟨w1.heap.size, 0, none⟩ (.slice a2 K.length c2)) (w.heap.size + 1 + 1) [Value.slice none 0 0] ∧ some w1.heap.size ≠ (Value.slice a2 K.length c2).ownBlock) := ⟨hU4, hR4, hown3⟩
    clear hgrow hown hown' hne hU3 hR3 HU2 HR2 hB2 x0 x1 x2 hO2 HB1 hK hblk happ hU4 hR4 hown3 HB2
    go_wp2_with fail
    refine (sort_node _ (w.heap.size + 3) _ K hKl (by simp; omega) hO4).mono ?_
    rintro e w3 ⟨rfl, l', hp', hs', hO5, hb5, hg5⟩
    have hl' := HIN.out l' hp' hs'
    subst hl'
    have hU5 := HBK.out.1.grown hg5 HBK.out.2.2
    have hR5 := HBK.out.2.1.below hb5 (by omega)
    have u5 := hU5.at 0 rfl
    have r5 := hR5.at 0 rfl
    have rf := hR5.frz
    have HO5 : Hid (OwnS w3 (w.heap.size + 3) (.slice a2 K.length c2) (inL l (p0, p1, p2))) := hO5
    have HB5 : Hid (Below w.heap.size w w3) := HB4.out.trans (hb5.mono (by omega))
    have hne : ¬ w1.heap.size = w.heap.size + 1 + 1 := by omega
    clear hO4 hO5 hb5 hg5 hU5 hR5 HBK HB4 u0 uf
    go_wp2
    have z1 : (w3.setCell ⟨w.heap.size + 1 + 1, 0, none⟩ (.slice a2 K.length c2)).cell? ⟨w.heap.size + 1 + 1, 0, none⟩ = some (.slice a2 K.length c2) := World.cell?_setCell_same _ _ _ r5
    refine bodyPost_ret (v := .agg #[.slice a2 K.length c2]) (by simp [results, Tryz.results142, go_sem, z1]) rfl ⟨_, rfl, ?_, ?_⟩
    · exact (HO5.out.other _ (by omega) _ _).mono (by omega)
    · exact HB5.out.setCell (by show _ ≤ w.heap.size + 1 + 1; omega) _
end Go.Proofs.YtljbchkmoekpmadGreat

/- orangerylaw.small; the fields of values that are no variables. -/
namespace Go.Proofs.YtljbchkmoekpmadGreat
open Go.ChangeShapes Go.WideShapes Go.ChangeAt Go.RowKit
open Orangery (Pl smallL)

/-- the fields of a place that is no variable -/
theorem run_field_pl (x0 x1 x2 : Int) (w : World) :
    (Instr.field 64 (.agg #[.int .i64 x0, .int .i64 x1, .int .i64 x2]) 0).run Tryz.prog w = .ok (.int .i64 x0) w ∧
    (Instr.field 64 (.agg #[.int .i64 x0, .int .i64 x1, .int .i64 x2]) 1).run Tryz.prog w = .ok (.int .i64 x1) w ∧
    (Instr.field 64 (.agg #[.int .i64 x0, .int .i64 x1, .int .i64 x2]) 2).run Tryz.prog w = .ok (.int .i64 x2) w := by
  have h1 := Tryz.underlying64
  have h2 := Tryz.isAgg3
  have h3 := Tryz.sizeOf3
  refine ⟨?_, ?_, ?_⟩
  all_goals
    unfold Instr.field
    go_simp
    simp [asAgg]

/-- the places of a tree that is no variable -/
theorem run_field_tree (v : Value) (w : World) : (Instr.field 25 (.agg #[v]) 0).run Tryz.prog w = .ok v w := by
  have h1 := Tryz.underlying25
  have h2 := Tryz.isAgg23
  have h3 := Tryz.sizeOf23
  unfold Instr.field
  go_simp
  simp [asAgg]
end Go.Proofs.YtljbchkmoekpmadGreat

/- slices.Equal at places. -/
namespace Go.Proofs.YtljbchkmoekpmadGreat
open Go.ChangeShapes Go.WideShapes Go.ChangeAt Go.RowKit
open Orangery (Pl)

def eqPl (x y : Pl) : Bool := decide (x = y)

theorem run_neq_pl (x0 x1 x2 y0 y1 y2 : Int) (w : World) :
    (binOp .neq 64 (.agg #[.int .i64 x0, .int .i64 x1, .int .i64 x2]) (.agg #[.int .i64 y0, .int .i64 y1, .int .i64 y2])).run Tryz.prog w = .ok (.bool (!eqPl (x0, x1, x2) (y0, y1, y2))) w := by
  have u3 := Tryz.underlying3
  have a3 := Tryz.isAgg3
  have z3 := Tryz.sizeOf3
  have hS : Tryz.prog.underlying 64 = some (.struct (Tryz.prog.fieldsOf 64)) := by kernel_rfl
  have hp : Tryz.prog.stoodInHeld 64 = false := by kernel_rfl
  rw [run_neq_struct, show (10000 : Nat) = 9999 + 1 from rfl, run_equalIn_agg w 9999 64 _ _ hS hp]
  simp only [Program.fieldsOf, Tryz.underlying64]
  go_simp
  by_cases h1 : x0 = y0 <;> by_cases h2 : x1 = y1 <;> by_cases h3 : x2 = y2 <;> simp [h1, h2, h3, eqPl]

theorem run_eql_pl (x0 x1 x2 y0 y1 y2 : Int) (w : World) :
    (binOp .eql 64 (.agg #[.int .i64 x0, .int .i64 x1, .int .i64 x2]) (.agg #[.int .i64 y0, .int .i64 y1, .int .i64 y2])).run Tryz.prog w = .ok (.bool (eqPl (x0, x1, x2) (y0, y1, y2))) w := by
  have u3 := Tryz.underlying3
  have a3 := Tryz.isAgg3
  have z3 := Tryz.sizeOf3
  have hS : Tryz.prog.underlying 64 = some (.struct (Tryz.prog.fieldsOf 64)) := by kernel_rfl
  have hp : Tryz.prog.stoodInHeld 64 = false := by kernel_rfl
  rw [run_eql_struct, show (10000 : Nat) = 9999 + 1 from rfl, run_equalIn_agg w 9999 64 _ _ hS hp]
  simp only [Program.fieldsOf, Tryz.underlying64]
  go_simp
  by_cases h1 : x0 = y0 <;> by_cases h2 : x1 = y1 <;> by_cases h3 : x2 = y2 <;> simp [h1, h2, h3, eqPl]

theorem guard_pl (op : BinOp) (x y : Operand) (xs ys : Array Value) (w : World) : (eqGuard op 64 x y (.agg xs) (.agg ys)).run Tryz.prog w = .ok () w :=
  run_eqGuard_agg w op 64 x y xs ys (by kernel_rfl)

def eqPls (l m : List Pl) : Bool := decide (l = m)

set_option maxHeartbeats 1000000 in
theorem equal_pls (w : World) (a a' : Option Addr) (c c' : Nat) (l m : List Pl) (hl : l.length ≤ maxLen) (h1 : SlP w a l) (h2 : SlP w a' m) :
    Calls Tryz.prog 59 #[.slice a l.length c, .slice a' m.length c'] w
      fun e w' => e = .returned (.bool (eqPls l m)) ∧ ∃ n, w' = w.drewN n := by
  have hl' : l.length ≤ 9223372036854775807 := hl
  by_cases hlen : l.length = m.length
  · have hne := run_neq_pl
    have hgd := guard_pl
    have hlen' : ((l.length : Int) != (m.length : Int)) = false := by simp [hlen]
    go_enter Tryz.func59, Tryz.ntmps59
    go_wp2
    go_loopw [13] (fun i w' => ∃ k n : Nat, k ≤ l.length ∧ i = .int .i64 k ∧ w' = w.drewN n ∧ l.take k = m.take k) (fun i _ => l.length - (intOf i).toNat)
    case atStart => exact ⟨0, 0, Nat.zero_le _, rfl, rfl, rfl⟩
    case round =>
      obtain ⟨k, n, hk, rfl, rfl, hpre⟩ := hrel
      have HP : Hid (l.take k = m.take k) := hpre
      clear hpre
      by_cases hlt : k < l.length
      · have hlt2 : k < m.length := by omega
        rcases h1 with h1 | ⟨b, off, rfl, hbl, hp⟩
        · exact absurd hlt (by simp [h1])
        rcases h2 with h2 | ⟨b', off', rfl, hbl', hp'⟩
        · exact absurd hlt2 (by simp [h2])
        obtain ⟨g0, g1, g2⟩ := hp k hlt
        obtain ⟨x0, x1, x2⟩ := hp' k hlt2
        have hlti : (k : Int) < (m.length : Int) := by omega
        go_wp2
        go_quiet (fail)
        cases hq : eqPl l[k] m[k]
        · have HQ : Hid (l[k] ≠ m[k]) := by show _ ≠ _; simpa [eqPl] using hq
          go_wp2
          go_ret
          exact ⟨ret_bool (by symm; simp only [eqPls, decide_eq_false_iff_not]; intro e; subst e; exact HQ.out rfl), n + nq, by simp⟩
        · have HQ : Hid (l[k] = m[k]) := by show _ = _; simpa [eqPl] using hq
          go_wp2
          go_roundw
          case rel => exact ⟨k + 1, _, by omega, by go_num, rfl, by rw [List.take_succ_eq_append_getElem hlt, List.take_succ_eq_append_getElem hlt2, HP.out, HQ.out]⟩
          case measure => simp [intOf]; omega
      · go_wp2
        go_ret
        refine ⟨ret_bool ?_, n, rfl⟩
        symm
        have e := HP.out
        rw [List.take_of_length_le (by omega), List.take_of_length_le (by omega)] at e
        simp [eqPls, e]
  · have hlen' : ((l.length : Int) != (m.length : Int)) = true := by simp; omega
    have HL : Hid (l.length ≠ m.length) := hlen
    clear hlen
    go_enter Tryz.func59, Tryz.ntmps59
    go_wp2
    go_ret
    exact ⟨ret_bool (by symm; simp only [eqPls, decide_eq_false_iff_not]; intro e; subst e; exact HL.out rfl), 0, rfl⟩
end Go.Proofs.YtljbchkmoekpmadGreat

/- view.together, view.Same, orangeryref.SameView. -/
namespace Go.Proofs.YtljbchkmoekpmadGreat
open Go.ChangeShapes Go.WideShapes Go.ChangeAt Go.RowKit
open Orangery (Pl check scan find inPl togL sameV cmpI)

theorem together2_any (w : World) (p q : Pl) :
    Calls Tryz.prog 168 #[plV p, plV q] w fun e w' => e = .returned (.int .i64 (cmpI p.1 q.1)) ∧ ∃ n os, w' = Go.Sort.grow (w.drewN n) os := by
  obtain ⟨a0, a1, a2⟩ := p
  obtain ⟨b0, b1, b2⟩ := q
  go_enter Tryz.func168, Tryz.ntmps168
  go_wp2_with fail
  refine (compare_any _ a0 b0).mono ?_
  rintro e w1 ⟨rfl, rfl⟩
  go_wp2
  go_ret
  exact ⟨rfl, 0, _, by rw [Go.Sort.alloc_eq_grow, Go.Sort.alloc_eq_grow, Go.Sort.grow_grow]; rfl⟩

theorem sort_tog (w : World) (base : Nat) (sv : Value) (l : List Pl) (hl : l.length ≤ 1000) (hbase : base ≤ w.heap.size) (h : OwnS w base sv l) :
    Calls Tryz.prog 157 #[sv, .func (.func 168) #[] #[]] w
      fun e w' => e = .returned (.tuple #[]) ∧ ∃ l', l'.Perm l ∧ (l'.Pairwise fun p q => p.1 ≤ q.1) ∧ OwnS w' base sv l' ∧ Below base w w' ∧ w.grownBy w' sv.ownBlock := by
  refine (sort_gen 168 cmpN swoNode (Go.Proofs.enters_of Tryz.func168 (by kernel_rfl) rfl) (fun w p q => together2_any w p q) w base sv l hl hbase h).mono ?_
  rintro e w' ⟨he, l', h1, h2, h3, h4, h5⟩
  exact ⟨he, l', h1, h2.imp (fun {p q} hh => by rw [cmpN_lt] at hh; omega), h3, h4, h5⟩

set_option maxHeartbeats 1000000 in
set_option maxRecDepth 100000 in
theorem together1_any (w : World) (p : Pl) (b : Nat) (v : Value) (a : Option Addr) (c : Nat) (W : List Pl) (hl : W.length ≤ maxLen) (h : SlP w a W) (hB : Blk w b [v, .slice a W.length c]) :
    Calls Tryz.prog 167 #[plV p, .pointer (some ⟨b, 0, none⟩)] w fun e w' => e = .returned (.bool (inPl W p.1)) ∧ Below w.heap.size w w' := by
  obtain ⟨p0, p1, p2⟩ := p
  obtain ⟨W0, hW, hN, hB0, hS⟩ := laid1 w [Value.int IntKind.i64 p0, Value.int IntKind.i64 p1, Value.int IntKind.i64 p2] 64
  have hX := hB.keep hB0
  have hP := h.below hB0
  have HB0 : Hid (Below w.heap.size w W0) := hB0
  clear h hB hB0
  go_enter Tryz.func167, Tryz.ntmps167
  go_upto_region 1 with fail
  clear hW
  have x1 := hX.at 1 rfl
  have n0 := hN.at 0 rfl
  have HQ : Hid (inPl W p0 = decide ((find W p0).1 = p0)) := rfl
  have HF := fun w' => find_any w' a c W p0 hl
  have HFF : Hid (∀ w', SlP w' a W → Calls Tryz.prog 110 #[.agg #[.slice a W.length c], .int .i64 p0] w' fun e w'' => e = .returned (plV (find W p0)) ∧ Below w'.heap.size w' w'') := HF
  have hfd := fun x0 x1 x2 W => (run_field_pl x0 x1 x2 W).1
  clear HF
  generalize find W p0 = q at *
  obtain ⟨q0, q1, q2⟩ := q
  go_region_held3 (fun w' => w'.cell? ⟨b, 1, none⟩ = some (.slice a W.length c) ∧ w'.cell? ⟨w.heap.size, 0, none⟩ = some (.int .i64 p0)) (go_keep)
    (first | (go_at_call 110; refine (HFF.out _ ?_).mono ?_; exact hP; rintro e w1 ⟨rfl, hb1⟩; have hb1' : Below W0.heap.size W0 w1 := ((Below.refl _ W0).drew).trans hb1; have x11 := (hX.keep hb1').at 1 rfl; have n10 := (hN.keep hb1').at 0 rfl))
  have HB1 : Hid (Below w.heap.size w w1) := HB0.out.trans (hb1'.mono HB0.out.size)
  clear hb1 hb1' x11 n10 x1 n0
  go_wp2
  go_ret
  exact ⟨ret_bool (by rw [HQ.out]; rfl), HB1.out⟩

set_option maxHeartbeats 2000000 in
set_option maxRecDepth 100000 in
theorem together_any (w : World) (aK aW : Option Addr) (cK cW : Nat) (K W : List Pl) (hK : scan 0 K = 0) (hW : scan 0 W = 0) (hc : aW = none → cW = 0) (h1 : SlP w aK K) (h2 : SlP w aW W) :
    Calls Tryz.prog 160 #[.agg #[.slice aK K.length cK, .slice aW W.length cW]] w
      fun e w' => ∃ v, e = .returned (.agg #[v]) ∧ OwnS w' w.heap.size v (togL K W) ∧ Below w.heap.size w w' := by
  obtain ⟨i0, hi, hz0, hz1, hz2⟩ := info_parts infoPlace
  have hKl : K.length ≤ 15 := by have := Orangery.scan_len K 0 hK (by omega); omega
  have hWl : W.length ≤ 15 := by have := Orangery.scan_len W 0 hW (by omega); omega
  obtain ⟨W0, hW0, hX, hR, hB, hS⟩ := laid2 w [Value.slice aK K.length cK, Value.slice aW W.length cW] 132 [Value.slice none 0 0] 25
  have x0 := hX.at 0 rfl
  have hS1 : w.heap.size + 1 < W0.heap.size := by omega
  clear hS
  have hP1 := h1.below hB
  have HP2 : Hid (SlP w aW W) := h2
  have HB : Hid (Below w.heap.size w W0) := hB
  clear h1 h2
  go_enter Tryz.func160, Tryz.ntmps160
  go_wp2_with fail
  clear hW0
  refine (clone_any W0 aK cK K (by omega) hP1).mono ?_
  rintro e w1 ⟨v1, rfl, hO1, hb1⟩
  have hX1 := hX.keep hb1
  have hR1 := hR.keep hb1
  have HB1 : Hid (Below w.heap.size w w1) := HB.out.trans (hb1.mono HB.out.size)
  clear hX hR hB hP1 HB x0
  go_wp2_with fail
  refine (delete_any w1 W0.heap.size v1 K 167 (.pointer (some ⟨w.heap.size, 0, none⟩)) (fun p => inPl W p.1) (by omega) hO1 hb1.size (Go.Proofs.enters_of Tryz.func167 (by kernel_rfl) rfl) ?_).mono ?_
  · intro V p hV
    exact together1_any V p w.heap.size _ aW cW W (by unfold maxLen; omega) (HP2.out.below (HB1.out.trans (hV.mono (by omega)))) (hX1.below hV (by omega))
  rintro e w2 ⟨v2, rfl, hO2, hb2⟩
  have hX2 := hX1.below hb2 (by omega)
  have hR2 := hR1.below hb2 (by omega)
  have HB2 : Hid (Below w.heap.size w w2) := HB1.out.trans (hb2.mono (by omega))
  have hsz2 : W0.heap.size ≤ w2.heap.size := Nat.le_trans hb1.size hb2.size
  have hO2r := hO2.row
  have hP2 := HP2.out.below HB2.out
  generalize hM : (K.filter fun p => !inPl W p.1) = M at *
  have hMl : M.length ≤ 15 := by rw [← hM]; exact Nat.le_trans (List.length_filter_le _ _) hKl
  have HU : Hid (∀ l', l'.Perm (M ++ W) → (l'.Pairwise fun p q => p.1 ≤ q.1) → l' = togL K W) := fun l' h1 h2 => Orangery.tog_unique K W l' hK hW (by rw [hM]; exact h1) h2
  clear hO1 hb1 hX1 hR1 HB1 hb2 hM hK
  have y1 := hX2.at 1 rfl
  have HX2 : Hid (Blk w2 w.heap.size [Value.slice aK K.length cK, Value.slice aW W.length cW]) := hX2
  have HR2 : Hid (Blk w2 (w.heap.size + 1) [Value.slice none 0 0]) := hR2
  clear hX2 hR2
  have FIN : Hid (∀ (v3 : Value) (w3 : World), OwnS w3 W0.heap.size v3 (M ++ W) → Blk w3 (w.heap.size + 1) [Value.slice none 0 0] → W0.heap.size ≤ w3.heap.size → Below w.heap.size w w3 →
      Calls Tryz.prog 157 #[v3, .func (.func 168) #[] #[]] w3 fun e w' => e = .returned (.tuple #[]) ∧ OwnS w' W0.heap.size v3 (togL K W) ∧ Blk w' (w.heap.size + 1) [Value.slice none 0 0] ∧ Below w.heap.size w w') := by
    intro v3 w3 h1 h2 h3 h4
    refine (sort_tog w3 W0.heap.size v3 (M ++ W) (by simp; omega) h3 h1).mono ?_
    rintro e w4 ⟨he, l', hp, hs, hO, hb, _⟩
    have := HU.out l' hp hs
    subst this
    exact ⟨he, hO, h2.below hb (by omega), h4.trans (hb.mono (by omega))⟩
  clear HU
  have END : Hid (∀ (v3 : Value) (w4 : World), OwnS w4 W0.heap.size v3 (togL K W) → Below w.heap.size w w4 → ∃ a3 c3, v3 = .slice a3 (togL K W).length c3 ∧ OwnS (w4.setCell ⟨w.heap.size + 1, 0, none⟩ (.slice a3 (togL K W).length c3)) w.heap.size (.slice a3 (togL K W).length c3) (togL K W) ∧ Below w.heap.size w (w4.setCell ⟨w.heap.size + 1, 0, none⟩ (.slice a3 (togL K W).length c3))) := by
    intro v3 w4 h1 h2
    obtain ⟨a3, c3, rfl⟩ := h1.val
    exact ⟨a3, c3, rfl, (h1.other _ (by omega) _ _).mono (by omega), h2.setCell (by show _ ≤ w.heap.size + 1; omega) _⟩
  cases aW with
  | none =>
    have e1 := hP2.none_nil
    have e2 := hc rfl
    have y1' : w2.cell? ⟨w.heap.size, 1, none⟩ = some (.slice none 0 0) := by rw [y1, e1, e2]; rfl
    have E3 : Hid (M ++ W = M) := by show _ = _; rw [e1, List.append_nil]
    clear y1 e1 e2
    go_wp2_with (at_builtin; refine wpList_append_own_none rfl _ _ 23 rfl W0.heap.size 64 i0 3 Tryz.underlying23 hi _ M.length (M.flatMap encPl) rfl hO2r rfl ?_)
    refine (FIN.out v2 w2 (by rw [E3.out]; exact hO2) HR2.out hsz2 HB2.out).mono ?_
    rintro e w4 ⟨rfl, hO4, hR4, hb4⟩
    obtain ⟨a3, c3, rfl, hOf, hBf⟩ := END.out _ _ hO4 hb4
    have HOf : Hid (OwnS (w4.setCell ⟨w.heap.size + 1, 0, none⟩ (.slice a3 (togL K W).length c3)) w.heap.size (.slice a3 (togL K W).length c3) (togL K W)) := hOf
    have HBf : Hid (Below w.heap.size w (w4.setCell ⟨w.heap.size + 1, 0, none⟩ (.slice a3 (togL K W).length c3))) := hBf
    have HRf : Hid (Blk (w4.setCell ⟨w.heap.size + 1, 0, none⟩ (.slice a3 (togL K W).length c3)) (w.heap.size + 1) [.slice a3 (togL K W).length c3]) := hR4.set 0 (by simp) _
    have r0 := hR4.at 0 rfl
    have rf := hR4.frz
    clear hO4 hOf hBf hR4 hb4 FIN END
    go_wp2
    exact ret_cell Tryz.results160 rfl HRf.out.tree ⟨_, rfl, HOf.out, HBf.out⟩
  | some ad =>
    have HN : Hid (∀ j u, (W.flatMap encPl)[j]? = some u → w2.cell? (ad.add j) = some u) := hP2.news
    clear hP2
    go_wp2_with (at_builtin; refine wpList_append_own _ rfl _ _ 23 rfl W0.heap.size 64 i0 _ 3 24 Tryz.underlying23 hi hz0 hz1 hz2 rfl (by decide) _ _ _ rfl hO2r ad W.length cW (W.flatMap encPl) rfl (flatE_len encPl_len W) ?c1 ?c2 ?c3 ?c4 ?c5 ?_)
    case c1 => exact HN.out
    case c2 => exact flat_one W
    case c3 => unfold maxLen; omega
    case c4 => omega
    case c5 => exact hsz2
    intro v3 w3 hown' hgrow _
    have hlo : ∀ g, v2.ownBlock = some g → W0.heap.size ≤ g := fun g hg => (World.ownsRow.lt hO2r g hg).1
    have hO3 : OwnS w3 W0.heap.size v3 (M ++ W) := own_pls (by rw [List.length_append, List.flatMap_append]; exact hown')
    have hR3 := HR2.out.grown hgrow (fun e => by have := hlo _ e.symm; omega)
    have hb3 : Below W0.heap.size w2 w3 := (Below.refl _ w2).grown hgrow hsz2 hlo
    have hB3 : Below w.heap.size w w3 := HB2.out.trans (hb3.mono (by omega))
    have hsz3 : W0.heap.size ≤ w3.heap.size := Nat.le_trans hsz2 hb3.size
    clear hown' hgrow hlo hb3 hO2r HN HX2 HR2 HB2 y1 hO2
    go_wp2_with fail
    refine (FIN.out v3 w3 hO3 hR3 hsz3 hB3).mono ?_
    clear hO3 hR3 hsz3 hB3
    rintro e w4 ⟨rfl, hO4, hR4, hb4⟩
    obtain ⟨a3, c3, rfl, hOf, hBf⟩ := END.out _ _ hO4 hb4
    have HOf : Hid (OwnS (w4.setCell ⟨w.heap.size + 1, 0, none⟩ (.slice a3 (togL K W).length c3)) w.heap.size (.slice a3 (togL K W).length c3) (togL K W)) := hOf
    have HBf : Hid (Below w.heap.size w (w4.setCell ⟨w.heap.size + 1, 0, none⟩ (.slice a3 (togL K W).length c3))) := hBf
    have HRf : Hid (Blk (w4.setCell ⟨w.heap.size + 1, 0, none⟩ (.slice a3 (togL K W).length c3)) (w.heap.size + 1) [.slice a3 (togL K W).length c3]) := hR4.set 0 (by simp) _
    have r0 := hR4.at 0 rfl
    have rf := hR4.frz
    clear hO4 hOf hBf hR4 hb4 FIN END
    go_wp2
    exact ret_cell Tryz.results160 rfl HRf.out.tree ⟨_, rfl, HOf.out, HBf.out⟩

set_option maxHeartbeats 1000000 in
theorem vsame_any (w : World) (aR aK aV bR bK bV : Option Addr) (cR cK cV dR dK dV : Nat) (R R' : List Int) (K K' V V' : List Pl) (hR : R.length ≤ maxLen) (hK : K.length ≤ maxLen) (hV : V.length ≤ maxLen)
    (h1 : SlI w aR R) (h2 : SlP w aK K) (h3 : SlP w aV V) (h4 : SlI w bR R') (h5 : SlP w bK K') (h6 : SlP w bV V') :
    Calls Tryz.prog 25 #[viV (.slice aR R.length cR) (.slice aK K.length cK) (.slice aV V.length cV), viV (.slice bR R'.length dR) (.slice bK K'.length dK) (.slice bV V'.length dV)] w
      fun e w' => e = .returned (.bool (sameV R R' K K' V V')) ∧ Below w.heap.size w w' := by
  have HS : Hid (sameV R R' K K' V V' = (eqIs R R' && eqPls K K' && eqPls V V')) := rfl
  obtain ⟨W0, hW, hA, hC, hB, _⟩ := laid2 w [Value.slice aR R.length cR, Value.slice aK K.length cK, Value.slice aV V.length cV] 42 [Value.slice bR R'.length dR, Value.slice bK K'.length dK, Value.slice bV V'.length dV] 42
  have x0 := hA.at 0 rfl
  have y0 := hC.at 0 rfl
  have g1 := h1.below hB
  have g2 := h2.below hB
  have g3 := h3.below hB
  have g4 := h4.below hB
  have g5 := h5.below hB
  have g6 := h6.below hB
  have HB : Hid (Below w.heap.size w W0) := hB
  clear h1 h2 h3 h4 h5 h6 hB
  go_enter Tryz.func25, Tryz.ntmps25
  go_wp2_with fail
  clear hW
  refine (equal_is W0 aR bR cR dR R R' hR g1 g4).mono ?_
  rintro e w1 ⟨rfl, n, rfl⟩
  have hb1 : Below W0.heap.size W0 (W0.drewN n) := ⟨rfl, rfl, rfl, Nat.le_refl _, fun _ _ => rfl⟩
  have hA1 := hA.keep hb1
  have hC1 := hC.keep hb1
  have k2 := g2.below hb1
  have k3 := g3.below hb1
  have k5 := g5.below hb1
  have k6 := g6.below hb1
  have HB1 : Hid (Below w.heap.size w (W0.drewN n)) := HB.out.trans (hb1.mono HB.out.size)
  clear hA hC HB hb1 g1 g2 g3 g4 g5 g6 x0 y0
  generalize W0.drewN n = W1 at *
  have x1 := hA1.at 1 rfl
  have y1 := hC1.at 1 rfl
  cases hq : eqIs R R'
  · go_wp2
    go_ret
    exact ⟨ret_bool (by rw [HS.out, hq]; rfl), HB1.out⟩
  · go_wp2_with fail
    refine (equal_pls W1 aK bK cK dK K K' hK k2 k5).mono ?_
    rintro e w2 ⟨rfl, n2, rfl⟩
    have hb2 : Below W1.heap.size W1 (W1.drewN n2) := ⟨rfl, rfl, rfl, Nat.le_refl _, fun _ _ => rfl⟩
    have hA2 := hA1.keep hb2
    have hC2 := hC1.keep hb2
    have m3 := k3.below hb2
    have m6 := k6.below hb2
    have HB2 : Hid (Below w.heap.size w (W1.drewN n2)) := HB1.out.trans (hb2.mono HB1.out.size)
    clear hA1 hC1 HB1 hb2 k2 k3 k5 k6 x1 y1
    generalize W1.drewN n2 = W2 at *
    have x2 := hA2.at 2 rfl
    have y2 := hC2.at 2 rfl
    cases hq2 : eqPls K K'
    · go_wp2
      go_ret
      exact ⟨ret_bool (by rw [HS.out, hq, hq2]; rfl), HB2.out⟩
    · go_wp2_with fail
      refine (equal_pls W2 aV bV cV dV V V' hV m3 m6).mono ?_
      rintro e w3 ⟨rfl, n3, rfl⟩
      have HB3 : Hid (Below w.heap.size w (W2.drewN n3)) := HB2.out.trans ⟨rfl, rfl, rfl, Nat.le_refl _, fun _ _ => rfl⟩
      generalize W2.drewN n3 = W3 at *
      clear m3 m6 x2 y2
      go_wp2
      go_ret
      exact ⟨ret_bool (by rw [HS.out, hq, hq2]; rfl), HB3.out⟩

set_option maxHeartbeats 1000000 in
theorem rsameV_any (w : World) (aR aK aV bR bK bV : Option Addr) (cR cK cV dR dK dV : Nat) (R R' : List Int) (K K' V V' : List Pl) (hR : R.length ≤ maxLen) (hK : K.length ≤ maxLen) (hV : V.length ≤ maxLen)
    (h1 : SlI w aR R) (h2 : SlP w aK K) (h3 : SlP w aV V) (h4 : SlI w bR R') (h5 : SlP w bK K') (h6 : SlP w bV V') :
    Calls Tryz.prog 18 #[viV (.slice aR R.length cR) (.slice aK K.length cK) (.slice aV V.length cV), viV (.slice bR R'.length dR) (.slice bK K'.length dK) (.slice bV V'.length dV)] w
      fun e w' => e = .returned (.bool (sameV R R' K K' V V')) ∧ Below w.heap.size w w' := by
  have HS : Hid (sameV R R' K K' V V' = (eqIs R R' && eqPls K K' && eqPls V V')) := rfl
  obtain ⟨W0, hW, hA, hC, hB, _⟩ := laid2 w [Value.slice aR R.length cR, Value.slice aK K.length cK, Value.slice aV V.length cV] 42 [Value.slice bR R'.length dR, Value.slice bK K'.length dK, Value.slice bV V'.length dV] 42
  have x0 := hA.at 0 rfl
  have y0 := hC.at 0 rfl
  have g1 := h1.below hB
  have g2 := h2.below hB
  have g3 := h3.below hB
  have g4 := h4.below hB
  have g5 := h5.below hB
  have g6 := h6.below hB
  have HB : Hid (Below w.heap.size w W0) := hB
  clear h1 h2 h3 h4 h5 h6 hB
  go_enter Tryz.func18, Tryz.ntmps18
  go_wp2_with fail
  clear hW
  refine (equal_is W0 aR bR cR dR R R' hR g1 g4).mono ?_
  rintro e w1 ⟨rfl, n, rfl⟩
  have hb1 : Below W0.heap.size W0 (W0.drewN n) := ⟨rfl, rfl, rfl, Nat.le_refl _, fun _ _ => rfl⟩
  have hA1 := hA.keep hb1
  have hC1 := hC.keep hb1
  have k2 := g2.below hb1
  have k3 := g3.below hb1
  have k5 := g5.below hb1
  have k6 := g6.below hb1
  have HB1 : Hid (Below w.heap.size w (W0.drewN n)) := HB.out.trans (hb1.mono HB.out.size)
  clear hA hC HB hb1 g1 g2 g3 g4 g5 g6 x0 y0
  generalize W0.drewN n = W1 at *
  have x1 := hA1.at 1 rfl
  have y1 := hC1.at 1 rfl
  cases hq : eqIs R R'
  · go_wp2
    go_ret
    exact ⟨ret_bool (by rw [HS.out, hq]; rfl), HB1.out⟩
  · go_wp2_with fail
    refine (equal_pls W1 aK bK cK dK K K' hK k2 k5).mono ?_
    rintro e w2 ⟨rfl, n2, rfl⟩
    have hb2 : Below W1.heap.size W1 (W1.drewN n2) := ⟨rfl, rfl, rfl, Nat.le_refl _, fun _ _ => rfl⟩
    have hA2 := hA1.keep hb2
    have hC2 := hC1.keep hb2
    have m3 := k3.below hb2
    have m6 := k6.below hb2
    have HB2 : Hid (Below w.heap.size w (W1.drewN n2)) := HB1.out.trans (hb2.mono HB1.out.size)
    clear hA1 hC1 HB1 hb2 k2 k3 k5 k6 x1 y1
    generalize W1.drewN n2 = W2 at *
    have x2 := hA2.at 2 rfl
    have y2 := hC2.at 2 rfl
    cases hq2 : eqPls K K'
    · go_wp2
      go_ret
      exact ⟨ret_bool (by rw [HS.out, hq, hq2]; rfl), HB2.out⟩
    · go_wp2_with fail
      refine (equal_pls W2 aV bV cV dV V V' hV m3 m6).mono ?_
      rintro e w3 ⟨rfl, n3, rfl⟩
      have HB3 : Hid (Below w.heap.size w (W2.drewN n3)) := HB2.out.trans ⟨rfl, rfl, rfl, Nat.le_refl _, fun _ _ => rfl⟩
      generalize W2.drewN n3 = W3 at *
      clear m3 m6 x2 y2
      go_wp2
      go_ret
      exact ⟨ret_bool (by rw [HS.out, hq, hq2]; rfl), HB3.out⟩
end Go.Proofs.YtljbchkmoekpmadGreat

/- slices.Index, slices.Contains, slices.ContainsFunc at places. -/
namespace Go.Proofs.YtljbchkmoekpmadGreat
open Go.ChangeShapes Go.WideShapes Go.ChangeAt Go.RowKit
open Orangery (Pl idxF)

def hasP (p : Pl) (l : List Pl) : Bool := decide (p ∈ l)

set_option maxHeartbeats 1000000 in
theorem indexPls_any (w : World) (a : Option Addr) (c : Nat) (l : List Pl) (p : Pl) (hl : l.length ≤ maxLen) (h : SlP w a l) :
    Calls Tryz.prog 74 #[.slice a l.length c, plV p] w
      fun e w' => (∃ i : Int, e = .returned (.int .i64 i) ∧ (p ∈ l → 0 ≤ i) ∧ (p ∉ l → i = -1)) ∧ Below w.heap.size w w' := by
  have hl' : l.length ≤ 9223372036854775807 := hl
  obtain ⟨p0, p1, p2⟩ := p
  obtain ⟨W0, hW, hN, hB, hS⟩ := laid1 w [Value.int IntKind.i64 p0, Value.int IntKind.i64 p1, Value.int IntKind.i64 p2] 64
  have HP : Hid (SlP W0 a l) := h.below hB
  have HB : Hid (Below w.heap.size w W0) := hB
  have heq := run_eql_pl
  have hgd := guard_pl
  have m0 := hN.at 0 rfl
  have m1 := hN.at 1 rfl
  have m2 := hN.at 2 rfl
  clear hN hB hS h
  go_enter Tryz.func74, Tryz.ntmps74
  go_wp2
  clear hW
  go_loopw [8] (fun i W => ∃ k n : Nat, k ≤ l.length ∧ i = .int .i64 k ∧ W = W0.drewN n ∧ (∀ j, (hj : j < l.length) → j < k → (p0, p1, p2) ≠ l[j])) (fun i _ => l.length - (intOf i).toNat)
  case atStart => exact ⟨0, 0, Nat.zero_le _, rfl, rfl, fun j _ hj => absurd hj (Nat.not_lt_zero _)⟩
  case round =>
    obtain ⟨k, n, hk, rfl, rfl, hno⟩ := hrel
    have HNO : Hid (∀ j, (hj : j < l.length) → j < k → (p0, p1, p2) ≠ l[j]) := hno
    clear hno
    by_cases hlt : k < l.length
    · have hPP := HP.out
      rcases hPP with hPP | ⟨b, off, rfl, hbl, hp⟩
      · exact absurd hlt (by simp [hPP])
      obtain ⟨g0, g1, g2⟩ := hp k hlt
      have HM : Hid (l[k] ∈ l) := List.getElem_mem hlt
      have HKE : Hid (∀ j, (hj : j < l.length) → j = k → l[j] = l[k]) := fun j hj e => by subst e; rfl
      clear hp
      generalize l[k] = q at *
      obtain ⟨q0, q1, q2⟩ := q
      simp only at g0 g1 g2
      go_wp2
      go_quiet (fail)
      cases hq : eqPl (p0, p1, p2) (q0, q1, q2)
      · have HQ : Hid ((p0, p1, p2) ≠ (q0, q1, q2)) := by show _ ≠ _; simpa [eqPl] using hq
        go_wp2
        go_roundw
        case rel =>
          refine ⟨k + 1, _, by omega, by go_num, rfl, fun j hj hjk => ?_⟩
          by_cases hjk' : j < k
          · exact HNO.out j hj hjk'
          · rw [HKE.out j hj (by omega)]; exact HQ.out
        case measure => simp [intOf]; omega
      · have HQ : Hid ((p0, p1, p2) = (q0, q1, q2)) := by show _ = _; simpa [eqPl] using hq
        go_wp2
        go_ret
        refine ⟨⟨k, rfl, fun _ => by omega, fun hn => ?_⟩, HB.out.trans ⟨rfl, rfl, rfl, Nat.le_refl _, fun _ _ => rfl⟩⟩
        rw [HQ.out] at hn
        exact absurd HM.out hn
    · go_wp2
      go_ret
      refine ⟨⟨-1, rfl, fun hm => ?_, fun _ => rfl⟩, HB.out.trans ⟨rfl, rfl, rfl, Nat.le_refl _, fun _ _ => rfl⟩⟩
      obtain ⟨j, hj, e⟩ := List.getElem_of_mem hm
      exact absurd e.symm (HNO.out j hj (by omega))

set_option maxHeartbeats 1000000 in
theorem containsPls_any (w : World) (a : Option Addr) (c : Nat) (l : List Pl) (p : Pl) (hl : l.length ≤ maxLen) (h : SlP w a l) :
    Calls Tryz.prog 28 #[.slice a l.length c, plV p] w fun e w' => e = .returned (.bool (hasP p l)) ∧ Below w.heap.size w w' := by
  obtain ⟨W0, hW, hN, hB, hS⟩ := laid1 w [Value.int IntKind.i64 p.1, Value.int IntKind.i64 p.2.1, Value.int IntKind.i64 p.2.2] 64
  have m0 := hN.at 0 rfl
  have m1 := hN.at 1 rfl
  have m2 := hN.at 2 rfl
  have HB : Hid (Below w.heap.size w W0) := hB
  have hP := h.below hB
  clear hN hB hS h
  go_enter Tryz.func28, Tryz.ntmps28
  go_wp2_with fail
  refine (indexPls_any W0 a c l p hl hP).mono ?_
  rintro e w1 ⟨⟨i, rfl, hi, hi2⟩, hb⟩
  have HB1 : Hid (Below w.heap.size w w1) := HB.out.trans (hb.mono HB.out.size)
  by_cases hm : p ∈ l
  · have h0 := hi hm
    have HH : Hid (hasP p l = true) := by show _ = _; simpa [hasP] using hm
    clear hi hi2 hb hm
    go_wp2
    go_ret
    exact ⟨ret_bool HH.out.symm, HB1.out⟩
  · have h0 := hi2 hm
    have HH : Hid (hasP p l = false) := by show _ = _; simpa [hasP] using hm
    subst h0
    clear hi hi2 hb hm
    go_wp2
    go_ret
    exact ⟨ret_bool HH.out.symm, HB1.out⟩

end Go.Proofs.YtljbchkmoekpmadGreat

