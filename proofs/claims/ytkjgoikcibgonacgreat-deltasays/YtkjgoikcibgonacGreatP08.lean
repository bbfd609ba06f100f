/- 4 texts of the proof: slices.SortFunc by tree.byName, on a slice of the call's own: a permutation, in order. move.with: a place put in by its node. orangerylaw.small; the fields of values that are no variables. view.together, view.Same, orangeryref.SameView. -/
import Derived.Shelf.SlSortCmp.WholeK
import Derived.Laws.AppendOwnNone
import Derived.Test.YtkjgoikcibgonacGreatP06
import Derived.Test.YtkjgoikcibgonacGreatP05
import Derived.Test.YtkjgoikcibgonacGreatP07
import Derived.Test.YtkjgoikcibgonacGreatP04
import Derived.Test.YtkjgoikcibgonacGreatP03
/- slices.SortFunc by tree.byName, on a slice of the call's own: a permutation, in order. -/
namespace Go.Proofs.YtkjgoikcibgonacGreat
open Go.ChangeShapes Go.WideShapes Go.ChangeAt Go.RowKit
open Orangery (Pl byN leP ltP)

theorem swo_irrefl (x : Pl) : Go.Proofs.ltOf byN x x = false := by
  have : ¬ byN x x < 0 := by rw [Orangery.byN_lt]; unfold ltP; omega
  simpa [Go.Proofs.ltOf] using this
theorem swo_trans (x y z : Pl) (h1 : Go.Proofs.ltOf byN x y = true) (h2 : Go.Proofs.ltOf byN y z = true) : Go.Proofs.ltOf byN x z = true := by
  simp only [Go.Proofs.ltOf, decide_eq_true_eq, Orangery.byN_lt] at *
  unfold ltP at *
  omega
theorem swo_ntrans (x y z : Pl) (h1 : Go.Proofs.ltOf byN x y = false) (h2 : Go.Proofs.ltOf byN y z = false) : Go.Proofs.ltOf byN x z = false := by
  simp only [Go.Proofs.ltOf, decide_eq_false_iff_not, Orangery.byN_lt] at *
  unfold ltP at *
  omega
theorem swoByN : Go.Sort.SWO (Go.Proofs.ltOf byN) := ⟨swo_irrefl, swo_trans, swo_ntrans⟩

theorem holdsK_of {w : World} {g : Nat} {l : List Pl} (h : HoldsP w g l) : Go.Sort.HoldsK encPl 3 w g 0 l.toArray := by
  intro j hj
  rw [Go.Sort.size_flatK] at hj
  have hj' : j < l.length * 3 := by simpa using hj
  have hi : j / 3 < l.length := by omega
  rw [Go.Sort.get_flatK _ _ _ _ (by simpa using hj')]
  refine ⟨?_, by have := h.2 j hj'; simpa using this⟩
  have hc := h.1 (j / 3) hi
  have e : l.toArray[j / 3]! = l[j / 3] := by simp [hi]
  rw [e]
  have hm : j % 3 = 0 ∨ j % 3 = 1 ∨ j % 3 = 2 := by omega
  rcases hm with hm | hm | hm
  · rw [hm, show 0 + j = 0 + j / 3 * 3 by omega, hc.1]; rfl
  · rw [hm, show 0 + j = 0 + j / 3 * 3 + 1 by omega, hc.2.1]; rfl
  · rw [hm, show 0 + j = 0 + j / 3 * 3 + 2 by omega, hc.2.2]; rfl

theorem holdsP_of {w : World} {g : Nat} {d : Array Pl} (h : Go.Sort.HoldsK encPl 3 w g 0 d) : HoldsP w g d.toList := by
  refine ⟨fun i hi => ?_, fun i hi => ?_⟩
  · have hi' : i < d.size := by simpa using hi
    have h0 := (h.cell (i := i) (c := 0) hi' (by omega)).1
    have h1 := (h.cell (i := i) (c := 1) hi' (by omega)).1
    have h2 := (h.cell (i := i) (c := 2) hi' (by omega)).1
    have e : d[i]! = d.toList[i] := by simp [hi']
    rw [e] at h0 h1 h2
    exact ⟨h0, h1, h2⟩
  · have := (h i (by simpa using hi)).2
    simpa using this

theorem below_sortWorldK {B : Nat} {w : World} (g off n : Nat) (d : Array Pl) (os : Array Obj) (hB : B ≤ w.heap.size) (hg : B ≤ g) : Below B w (Go.Proofs.sortWorldK encPl 3 w g off n d os) := by
  refine ⟨rfl, rfl, rfl, ?_, fun k hk => ?_⟩
  · exact Go.Proofs.size_sortWorldK_c encPl 3 w g off n d os
  · show ((w.heap.modify g _) ++ os)[k]? = _
    rw [Array.getElem?_append_left (by simp; omega), Array.getElem?_modify]
    have : ¬ g = k := by omega
    simp [this]

theorem grown_sortWorldK {w : World} (g off n : Nat) (d : Array Pl) (os : Array Obj) : w.grownBy (Go.Proofs.sortWorldK encPl 3 w g off n d os) (some g) := by
  refine ⟨rfl, rfl, rfl, Go.Proofs.size_sortWorldK_c encPl 3 w g off n d os, fun k hk hne => ?_⟩
  show ((w.heap.modify g _) ++ os)[k]? = _
  rw [Array.getElem?_append_left (by simp; omega), Array.getElem?_modify]
  have : ¬ g = k := fun e => hne (by rw [e])
  simp [this]

theorem RowAt.sorted {w : World} {r cap : Nat} (h : RowAt w r cap) (g off n : Nat) (d : Array Pl) (os : Array Obj) : RowAt (Go.Proofs.sortWorldK encPl 3 w g off n d os) r cap := by
  obtain ⟨cur, h1, h2⟩ := h
  have hr : r < w.heap.size := blk_lt h1
  have e : (Go.Proofs.sortWorldK encPl 3 w g off n d os).heap[r]? = (Go.Sort.putRow id w g off (Go.Sort.flatK encPl 3 d)).heap[r]? := by
    show ((Go.Sort.putRow id w g off (Go.Sort.flatK encPl 3 d)).heap ++ os)[r]? = _
    rw [Array.getElem?_append_left]
    show r < (w.heap.modify g _).size
    simp
    exact hr
  have e2 : (Go.Sort.putRow id w g off (Go.Sort.flatK encPl 3 d)).heap[r]? = if g = r then some (.cells (Go.Sort.putCells id off (Go.Sort.flatK encPl 3 d) cur) 55 (0, 0)) else w.heap[r]? := by
    show (w.heap.modify g _)[r]? = _
    rw [Array.getElem?_modify, h1]
    by_cases hg : g = r
    · rw [if_pos hg, if_pos hg]; rfl
    · rw [if_neg hg, if_neg hg]
  rw [e2] at e
  by_cases hg : g = r
  · rw [if_pos hg] at e
    exact ⟨_, e, by simp [Go.Sort.putCells, h2]⟩
  · rw [if_neg hg] at e
    exact ⟨cur, e.trans h1, h2⟩

theorem perm_sorted {f : Pl → Pl → Int} {l : List Pl} {d' : Array Pl} (hp : Go.Sort.PermIn 0 l.toArray.size l.toArray d') (hs : Go.Sort.SortedIn (Go.Proofs.ltOf f) 0 l.toArray.size d') :
    d'.size = l.length ∧ d'.toList.Perm l ∧ d'.toList.Pairwise fun p q => ¬ f q p < 0 := by
  obtain ⟨h1, _, h3⟩ := hp
  have e1 : d'.extract 0 l.toArray.size = d' := by rw [← h1]; exact Array.extract_size
  rw [e1, Array.extract_size] at h3
  refine ⟨by simpa using h1, by simpa using h3, ?_⟩
  rw [List.pairwise_iff_getElem]
  intro i j hi hj hij
  have hi' : i < d'.size := by simpa using hi
  have hj' : j < d'.size := by simpa using hj
  have := hs i j (Nat.zero_le _) hij (by omega)
  rw [getElem!_pos d' j hj', getElem!_pos d' i hi'] at this
  simpa [Go.Proofs.ltOf] using this

set_option maxHeartbeats 1000000 in
/-- slices.SortFunc at places, by whatever order -/
theorem sort_gen (k : Nat) (f : Pl → Pl → Int) (hf : Go.Sort.SWO (Go.Proofs.ltOf f)) (eg : ∀ args w, (callFunc k args).run Tryz.prog w = .ok (.enter k args) w)
    (hk : ∀ w p q, Calls Tryz.prog k #[plV p, plV q] w fun e w' => e = .returned (.int .i64 (f p q)) ∧ ∃ n os, w' = Go.Sort.grow (w.drewN n) os)
    (w : World) (base : Nat) (sv : Value) (l : List Pl) (hl : l.length ≤ 1000) (hbase : base ≤ w.heap.size) (h : OwnS w base sv l) :
    Calls Tryz.prog 44 #[sv, .func (.func k) #[] #[]] w
      fun e w' => e = .returned (.tuple #[]) ∧ ∃ l', l'.Perm l ∧ (l'.Pairwise fun p q => ¬ f q p < 0) ∧ OwnS w' base sv l' ∧ Below base w w' ∧ w.grownBy w' sv.ownBlock := by
  rcases h with ⟨rfl, rfl⟩ | ⟨g, cap, rfl, hgb, hgl, hcap, hcm, hH, hrow⟩
  · have hn := Go.Proofs.AnyF.slices_SortFunc_none Tryz.sortPl none 0 (.func (.func k) #[] #[]) w
    change Calls Tryz.prog 44 _ _ _ at hn
    refine hn.mono ?_
    rintro e w' ⟨rfl, rfl⟩
    exact ⟨rfl, [], List.Perm.refl _, List.Pairwise.nil, Or.inl ⟨rfl, rfl⟩, Below.refl _ _, ⟨rfl, rfl, rfl, Nat.le_refl _, fun _ _ _ => rfl⟩⟩
  · have hK := holdsK_of hH
    have hn := Go.Proofs.AnyQ.slices_SortFunc Tryz.sortPl 3 Tryz.isAgg55 Tryz.sizeOf55 encPl (fun _ => rfl) (fun x v hv => by simp [encPl] at hv; rcases hv with rfl | rfl | rfl <;> rfl) f hf k #[] g 0 cap l.toArray w eg (fun _ _ _ _ x y => hk _ x y) hK hgl (by simp; omega)
    change Calls Tryz.prog 44 _ _ _ at hn
    have hsz : l.toArray.size = l.length := by simp
    rw [hsz] at hn
    refine hn.mono ?_
    rintro e w' ⟨rfl, d', n, os, hp, hs, rfl⟩
    rw [← hsz] at hp hs
    obtain ⟨e1, e2, e3⟩ := perm_sorted hp hs
    refine ⟨rfl, d'.toList, e2, e3, ?_, below_sortWorldK g 0 n d' os hbase hgb, grown_sortWorldK g 0 n d' os⟩
    refine Or.inr ⟨g, cap, by simp [e1], hgb, Nat.lt_of_lt_of_le hgl (Go.Proofs.size_sortWorldK_c encPl 3 w g 0 n d' os), by simp [e1]; exact hcap, hcm, ?_, hrow.sorted g 0 n d' os⟩
    exact holdsP_of (Go.Proofs.holdsK_sortWorldK_c encPl 3 w g 0 l.toArray d' n os hK hgl (by simp [e1]))

end Go.Proofs.YtkjgoikcibgonacGreat

/- move.with: a place put in by its node. -/
namespace Go.Proofs.YtkjgoikcibgonacGreat
open Go.ChangeShapes Go.WideShapes Go.ChangeAt Go.RowKit
open Orangery (Pl Mv Stp outL inL cmpI byNode)

def cmpN (p q : Pl) : Int := cmpI p.1 q.1
theorem cmpN_lt (p q : Pl) : cmpN p q < 0 ↔ p.1 < q.1 := by
  unfold cmpN cmpI
  by_cases h1 : p.1 < q.1
  · simp [h1]
  · by_cases h2 : q.1 < p.1 <;> simp [h1, h2]
theorem swoNode : Go.Sort.SWO (Go.Proofs.ltOf cmpN) := by
  refine ⟨fun x => ?_, fun x y z h1 h2 => ?_, fun x y z h1 h2 => ?_⟩
  · have : ¬ cmpN x x < 0 := by rw [cmpN_lt]; omega
    simpa [Go.Proofs.ltOf] using this
  · simp only [Go.Proofs.ltOf, decide_eq_true_eq, cmpN_lt] at *
    omega
  · simp only [Go.Proofs.ltOf, decide_eq_false_iff_not, cmpN_lt] at *
    omega

theorem sort_node (w : World) (base : Nat) (sv : Value) (l : List Pl) (hl : l.length ≤ 1000) (hbase : base ≤ w.heap.size) (h : OwnS w base sv l) :
    Calls Tryz.prog 44 #[sv, .func (.func 86) #[] #[]] w
      fun e w' => e = .returned (.tuple #[]) ∧ ∃ l', l'.Perm l ∧ (l'.Pairwise fun p q => p.1 ≤ q.1) ∧ OwnS w' base sv l' ∧ Below base w w' ∧ w.grownBy w' sv.ownBlock := by
  refine (sort_gen 86 cmpN swoNode (Go.Proofs.enters_of Tryz.func86 (by kernel_rfl) rfl) (fun w p q => with1_any w p q) w base sv l hl hbase h).mono ?_
  rintro e w' ⟨he, l', h1, h2, h3, h4, h5⟩
  exact ⟨he, l', h1, h2.imp (fun {p q} hh => by rw [cmpN_lt] at hh; omega), h3, h4, h5⟩

/-- an own slice, behind the writing of a block of another type -/
theorem OwnS.apart {w : World} {base : Nat} {v : Value} {l : List Pl} (h : OwnS w base v l) {b : Nat} {cs : Array Value} {t : TypeId} {fr : Nat × Nat} (hb : w.heap[b]? = some (.cells cs t fr)) (ht : t ≠ 55) :
    some b ≠ v.ownBlock ∧ ∀ j u, OwnS (w.setCell ⟨b, j, none⟩ u) base v l := by
  rcases h with ⟨rfl, rfl⟩ | ⟨g, cap, rfl, h1, hl, h2, h3, ⟨hp, hf⟩, hr⟩
  · exact ⟨by simp [Value.ownBlock], fun j u => Or.inl ⟨rfl, rfl⟩⟩
  · have hne : ¬ b = g := by
      rintro rfl
      obtain ⟨cur, hc, _⟩ := hr
      rw [hb] at hc
      simp at hc
      exact ht hc.2.1
    refine ⟨by simp [Value.ownBlock, hne], fun j u => ?_⟩
    refine Or.inr ⟨g, cap, rfl, h1, by simpa using hl, h2, h3, ⟨fun i hi => ?_, fun i hi => ?_⟩, hr.set _ _ _⟩
    · rw [World.cell?_setCell_other _ _ _ _ (by simp <;> omega), World.cell?_setCell_other _ _ _ _ (by simp <;> omega), World.cell?_setCell_other _ _ _ _ (by simp <;> omega)]
      exact hp i hi
    · simp only [World.frozen?_setCell]
      exact hf i hi

set_option maxHeartbeats 1000000 in
set_option maxRecDepth 100000 in
theorem with_any (w : World) (a : Option Addr) (c : Nat) (l : List Pl) (p : Pl) (hl : l.length ≤ 900) (h : SlP w a l) (hs : byNode l) :
    Calls Tryz.prog 55 #[.agg #[.slice a l.length c], plV p] w
      fun e w' => ∃ v, e = .returned (.agg #[v]) ∧ OwnS w' w.heap.size v (inL l p) ∧ Below w.heap.size w w' := by
  obtain ⟨p0, p1, p2⟩ := p
  obtain ⟨i0, hi, hz0, hz1, hz2⟩ := info_parts infoPlace
  go_enter Tryz.func55, Tryz.ntmps55
  go_wp2_with fail
  obtain ⟨W0, hW, _, hN, hR, hB, hS⟩ := laid3 w [Value.slice a l.length c] 62 [Value.int IntKind.i64 p0, Value.int IntKind.i64 p1, Value.int IntKind.i64 p2] 55 [Value.slice none 0 0] 62
  rw [hW]
  clear hW
  have hP := h.below hB
  clear h
  refine (without_any W0 a c l p0 (by omega) hP).mono ?_
  rintro e w1 ⟨v1, rfl, hO1, hb1⟩
  have hN1 := hN.keep hb1
  have hR1 := hR.keep hb1
  have HB1 : Hid (Below w.heap.size w w1) := hB.trans (hb1.mono hB.size)
  obtain ⟨a1, c1, rfl⟩ := hO1.val
  clear hN hR hB hP
  have x0 := hN1.at 0 rfl
  have x1 := hN1.at 1 rfl
  have x2 := hN1.at 2 rfl
  have n0 : ¬ w1.heap.size = w.heap.size + 1 := by have := hN1.lt; omega
  have n1 : w.heap.size + 1 < w1.heap.size := hN1.lt
  have hsz1 : w.heap.size + 3 ≤ w1.heap.size := by have := hb1.size; omega
  have hU := Blk.new w1 [Value.slice a1 (outL l p0).length c1] 62
  have hU2 := hU.alloc (Obj.cells #[Value.int IntKind.i64 p0, Value.int IntKind.i64 p1, Value.int IntKind.i64 p2] 55)
  have hR2 := (hR1.alloc (Obj.cells #[Value.slice a1 (outL l p0).length c1] 62)).alloc (Obj.cells #[Value.int IntKind.i64 p0, Value.int IntKind.i64 p1, Value.int IntKind.i64 p2] 55)
  have hown := (hO1.row.alloc (Obj.cells #[Value.slice a1 (outL l p0).length c1] 62)).alloc (Obj.cells #[Value.int IntKind.i64 p0, Value.int IntKind.i64 p1, Value.int IntKind.i64 p2] 55)
  have hB2 := ((Below.refl w1.heap.size w1).alloc (Nat.le_refl _) (Obj.cells #[Value.slice a1 (outL l p0).length c1] 62)).alloc (by simp) (Obj.cells #[Value.int IntKind.i64 p0, Value.int IntKind.i64 p1, Value.int IntKind.i64 p2] 55)
  have hlt1 := hO1.row.lt
  have hlen : (outL l p0).length ≤ 900 := Nat.le_trans (List.length_filter_le _ _) hl
  have HU2 : Hid (Blk ((w1.alloc (Obj.cells #[Value.slice a1 (outL l p0).length c1] 62)).alloc (Obj.cells #[Value.int IntKind.i64 p0, Value.int IntKind.i64 p1, Value.int IntKind.i64 p2] 55)) w1.heap.size [Value.slice a1 (outL l p0).length c1]) := hU2
  have HR2 : Hid (Blk ((w1.alloc (Obj.cells #[Value.slice a1 (outL l p0).length c1] 62)).alloc (Obj.cells #[Value.int IntKind.i64 p0, Value.int IntKind.i64 p1, Value.int IntKind.i64 p2] 55)) (w.heap.size + 1 + 1) [Value.slice none 0 0]) := hR2
  have HL : Hid (∀ k, (Value.slice a1 (outL l p0).length c1).ownBlock = some k → W0.heap.size ≤ k ∧ k < w1.heap.size) := hlt1
  clear hU hU2 hR2 hO1 hR1 hN1 hlt1
  go_wp2_with (at_builtin; refine wpList_append_own _ rfl _ _ 23 rfl W0.heap.size 55 i0 _ 3 24 Tryz.underlying23 hi hz0 hz1 hz2 rfl (by decide) _ _ _ rfl hown ⟨w1.heap.size + 1, 0, none⟩ 1 1 [.int .i64 p0, .int .i64 p1, .int .i64 p2] rfl rfl ?c1 ?c2 ?c3 ?c4 ?c5 ?_)
  case c1 =>
    intro t u ht
    match t, ht with
    | 0, ht => simp at ht; subst ht; simp [Addr.add]
    | 1, ht => simp at ht; subst ht; simp [Addr.add]
    | 2, ht => simp at ht; subst ht; simp [Addr.add]
    | t + 3, ht => simp at ht
  case c2 => intro u hu; simp at hu; rcases hu with rfl | rfl | rfl <;> rfl
  case c3 => unfold maxLen; omega
  case c4 => omega
  case c5 => simp; omega
  · intro v2 w2 hown' hgrow _
    have hO2 : OwnS w2 (w.heap.size + 3) v2 (outL l p0 ++ [(p0, p1, p2)]) := own_pls (by simpa [encPl] using hown')
    have hne : ∀ k, k = w1.heap.size ∨ k < W0.heap.size → some k ≠ (Value.slice a1 (outL l p0).length c1).ownBlock := by
      intro k hk e
      have := HL.out k e.symm
      omega
    have hU3 := HU2.out.grown hgrow (hne _ (Or.inl rfl))
    have hR3 := HR2.out.grown hgrow (hne _ (Or.inr (by omega)))
    have hblk : w2.heap[w1.heap.size]? = some (Obj.cells #[Value.slice a1 (outL l p0).length c1] 62) := by
      rw [hgrow.block w1.heap.size (by simp; omega) (hne _ (Or.inl rfl)), blk_old (by simp)]
      exact blk_new rfl
    have hb2 : Below W0.heap.size w1 w2 := (hB2.mono hb1.size).grown hgrow (by simp; have := hb1.size; omega) (fun k hk => (HL.out k hk).1)
    have hsz2 : w1.heap.size ≤ w2.heap.size := hb2.size
    have HB2 : Hid (Below w.heap.size w w2) := HB1.out.trans (hb2.mono (by omega))
    obtain ⟨hown3, happ⟩ := hO2.apart hblk (by decide)
    obtain ⟨a2, c2, rfl⟩ := hO2.val
    generalize hK : outL l p0 ++ [(p0, p1, p2)] = K at *
    have HIN : Hid (∀ l', l'.Perm K → (l'.Pairwise fun p q => p.1 ≤ q.1) → l' = inL l (p0, p1, p2)) := fun l' h1 h2 => Orangery.in_unique l l' (p0, p1, p2) hs (by rw [← hK] at h1; exact h1) h2
    have hKl : K.length ≤ 1000 := by rw [← hK]; simp; omega
    have u0 := hU3.at 0 rfl
    have uf := hU3.frz
    have hU4 := hU3.set 0 (by simp) (.slice a2 K.length c2)
    have hR4 := hR3.other (g := w1.heap.size) (by omega) 0 (.slice a2 K.length c2)
    have hO4 := happ 0 (.slice a2 K.length c2)
    have HB4 : Hid (Below w.heap.size w (w2.setCell ⟨w1.heap.size, 0, none⟩ (.slice a2 K.length c2))) := HB2.out.setCell (by show w.heap.size ≤ w1.heap.size; omega) _
    have HBK : Hid (Blk (w2.setCell ⟨w1.heap.size, 0, none⟩ (.slice a2 K.length c2)) w1.heap.size [.slice a2 K.length c2] ∧ Blk (w2.setCell ⟨w1.heap.size, 0, none⟩ (.slice a2 K.length c2)) (w.heap.size + 1 + 1) [Value.slice none 0 0] ∧ some w1.heap.size ≠ (Value.slice a2 K.length c2).ownBlock) := ⟨hU4, hR4, hown3⟩
    clear hgrow hown hown' hne hU3 hR3 HU2 HR2 hB2 x0 x1 x2 hO2 HB1 hK hblk happ hU4 hR4 hown3 HB2
    go_wp2_with fail
    refine (sort_node _ (w.heap.size + 3) _ K hKl (by simp; omega) hO4).mono ?_
    rintro e w3 ⟨rfl, l', hp', hs', hO5, hb5, hg5⟩
    have hl' := HIN.out l' hp' hs'
    subst hl'
    have hU5 := HBK.out.1.grown hg5 HBK.out.2.2
    have hR5 := HBK.out.2.1.below hb5 (by omega)
    have u5 := hU5.at 0 rfl
    have r5 := hR5.at 0 rfl
    have rf := hR5.frz
    have HO5 : Hid (OwnS w3 (w.heap.size + 3) (.slice a2 K.length c2) (inL l (p0, p1, p2))) := hO5
    have HB5 : Hid (Below w.heap.size w w3) := HB4.out.trans (hb5.mono (by omega))
    have hne : ¬ w1.heap.size = w.heap.size + 1 + 1 := by omega
    clear hO4 hO5 hb5 hg5 hU5 hR5 HBK HB4 u0 uf
    go_wp2
    have z1 : (w3.setCell ⟨w.heap.size + 1 + 1, 0, none⟩ (.slice a2 K.length c2)).cell? ⟨w.heap.size + 1 + 1, 0, none⟩ = some (.slice a2 K.length c2) := World.cell?_setCell_same _ _ _ r5
    refine bodyPost_ret (v := .agg #[.slice a2 K.length c2]) (by simp [results, Tryz.results55, go_sem, z1]) rfl ⟨_, rfl, ?_, ?_⟩
    · exact (HO5.out.other _ (by omega) _ _).mono (by omega)
    · exact HB5.out.setCell (by show _ ≤ w.heap.size + 1 + 1; omega) _
end Go.Proofs.YtkjgoikcibgonacGreat

/- orangerylaw.small; the fields of values that are no variables. -/
namespace Go.Proofs.YtkjgoikcibgonacGreat
open Go.ChangeShapes Go.WideShapes Go.ChangeAt Go.RowKit
open Orangery (Pl smallL)

set_option maxHeartbeats 1000000 in
theorem small_any (w : World) :
    Calls Tryz.prog 28 #[] w fun e w' => (∃ a, e = .returned (.agg #[.slice a smallL.length 4]) ∧ SlP w' a smallL) ∧ Below w.heap.size w w' := by
  go_enter Tryz.func28, Tryz.ntmps28
  go_wp2
  refine bodyPost_ret (v := .agg #[.slice (some ⟨w.heap.size + 1, 0, none⟩) 4 4]) (by simp [results, Tryz.results28, go_sem]) rfl ⟨⟨_, rfl, ?_⟩, ?_⟩
  · refine Or.inr ⟨w.heap.size + 1, 0, rfl, by simp, ?_⟩
    intro i hi
    have hi' : i < 4 := hi
    have : i = 0 ∨ i = 1 ∨ i = 2 ∨ i = 3 := by omega
    rcases this with rfl | rfl | rfl | rfl <;> simp [smallL]
  · exact Go.Joins.below_alloc2 w _ _

/-- the fields of a place that is no variable -/
theorem run_field_pl (x0 x1 x2 : Int) (w : World) :
    (Instr.field 55 (.agg #[.int .i64 x0, .int .i64 x1, .int .i64 x2]) 0).run Tryz.prog w = .ok (.int .i64 x0) w ∧
    (Instr.field 55 (.agg #[.int .i64 x0, .int .i64 x1, .int .i64 x2]) 1).run Tryz.prog w = .ok (.int .i64 x1) w ∧
    (Instr.field 55 (.agg #[.int .i64 x0, .int .i64 x1, .int .i64 x2]) 2).run Tryz.prog w = .ok (.int .i64 x2) w := by
  have h1 := Tryz.underlying55
  have h2 := Tryz.isAgg3
  have h3 := Tryz.sizeOf3
  refine ⟨?_, ?_, ?_⟩
  all_goals
    unfold Instr.field
    go_simp
    simp [asAgg]

/-- the places of a tree that is no variable -/
theorem run_field_tree (v : Value) (w : World) : (Instr.field 62 (.agg #[v]) 0).run Tryz.prog w = .ok v w := by
  have h1 := Tryz.underlying62
  have h2 := Tryz.isAgg23
  have h3 := Tryz.sizeOf23
  unfold Instr.field
  go_simp
  simp [asAgg]
end Go.Proofs.YtkjgoikcibgonacGreat

/- view.together, view.Same, orangeryref.SameView. -/
namespace Go.Proofs.YtkjgoikcibgonacGreat
open Go.ChangeShapes Go.WideShapes Go.ChangeAt Go.RowKit
open Orangery (Pl check scan find inPl togL sameV cmpI)

theorem together2_any (w : World) (p q : Pl) :
    Calls Tryz.prog 65 #[plV p, plV q] w fun e w' => e = .returned (.int .i64 (cmpI p.1 q.1)) ∧ ∃ n os, w' = Go.Sort.grow (w.drewN n) os := by
  obtain ⟨a0, a1, a2⟩ := p
  obtain ⟨b0, b1, b2⟩ := q
  go_enter Tryz.func65, Tryz.ntmps65
  go_wp2_with fail
  refine (compare_any _ a0 b0).mono ?_
  rintro e w1 ⟨rfl, rfl⟩
  go_wp2
  go_ret
  exact ⟨rfl, 0, _, by rw [Go.Sort.alloc_eq_grow, Go.Sort.alloc_eq_grow, Go.Sort.grow_grow]; rfl⟩

theorem sort_tog (w : World) (base : Nat) (sv : Value) (l : List Pl) (hl : l.length ≤ 1000) (hbase : base ≤ w.heap.size) (h : OwnS w base sv l) :
    Calls Tryz.prog 44 #[sv, .func (.func 65) #[] #[]] w
      fun e w' => e = .returned (.tuple #[]) ∧ ∃ l', l'.Perm l ∧ (l'.Pairwise fun p q => p.1 ≤ q.1) ∧ OwnS w' base sv l' ∧ Below base w w' ∧ w.grownBy w' sv.ownBlock := by
  refine (sort_gen 65 cmpN swoNode (Go.Proofs.enters_of Tryz.func65 (by kernel_rfl) rfl) (fun w p q => together2_any w p q) w base sv l hl hbase h).mono ?_
  rintro e w' ⟨he, l', h1, h2, h3, h4, h5⟩
  exact ⟨he, l', h1, h2.imp (fun {p q} hh => by rw [cmpN_lt] at hh; omega), h3, h4, h5⟩

set_option maxHeartbeats 1000000 in
set_option maxRecDepth 100000 in
theorem together1_any (w : World) (p : Pl) (b : Nat) (v : Value) (a : Option Addr) (c : Nat) (W : List Pl) (hl : W.length ≤ maxLen) (h : SlP w a W) (hB : Blk w b [v, .slice a W.length c]) :
    Calls Tryz.prog 64 #[plV p, .pointer (some ⟨b, 0, none⟩)] w fun e w' => e = .returned (.bool (inPl W p.1)) ∧ Below w.heap.size w w' := by
  obtain ⟨p0, p1, p2⟩ := p
  obtain ⟨W0, hW, hN, hB0, hS⟩ := laid1 w [Value.int IntKind.i64 p0, Value.int IntKind.i64 p1, Value.int IntKind.i64 p2] 55
  have hX := hB.keep hB0
  have hP := h.below hB0
  have HB0 : Hid (Below w.heap.size w W0) := hB0
  clear h hB hB0
  go_enter Tryz.func64, Tryz.ntmps64
  go_upto_region 1 with fail
  clear hW
  have x1 := hX.at 1 rfl
  have n0 := hN.at 0 rfl
  have HQ : Hid (inPl W p0 = decide ((find W p0).1 = p0)) := rfl
  have HF := fun w' => find_any w' a c W p0 hl
  have HFF : Hid (∀ w', SlP w' a W → Calls Tryz.prog 54 #[.agg #[.slice a W.length c], .int .i64 p0] w' fun e w'' => e = .returned (plV (find W p0)) ∧ Below w'.heap.size w' w'') := HF
  have hfd := fun x0 x1 x2 W => (run_field_pl x0 x1 x2 W).1
  clear HF
  generalize find W p0 = q at *
  obtain ⟨q0, q1, q2⟩ := q
  go_region_held3 (fun w' => w'.cell? ⟨b, 1, none⟩ = some (.slice a W.length c) ∧ w'.cell? ⟨w.heap.size, 0, none⟩ = some (.int .i64 p0)) (go_keep)
    (first | (go_at_call 54; refine (HFF.out _ ?_).mono ?_; exact hP; rintro e w1 ⟨rfl, hb1⟩; have hb1' : Below W0.heap.size W0 w1 := ((Below.refl _ W0).drew).trans hb1; have x11 := (hX.keep hb1').at 1 rfl; have n10 := (hN.keep hb1').at 0 rfl))
  have HB1 : Hid (Below w.heap.size w w1) := HB0.out.trans (hb1'.mono HB0.out.size)
  clear hb1 hb1' x11 n10 x1 n0
  go_wp2
  go_ret
  exact ⟨ret_bool (by rw [HQ.out]; rfl), HB1.out⟩

set_option maxHeartbeats 2000000 in
set_option maxRecDepth 100000 in
theorem together_any (w : World) (aK aW : Option Addr) (cK cW : Nat) (K W : List Pl) (hK : scan 0 K = 0) (hW : scan 0 W = 0) (hc : aW = none → cW = 0) (h1 : SlP w aK K) (h2 : SlP w aW W) :
    Calls Tryz.prog 37 #[.agg #[.slice aK K.length cK, .slice aW W.length cW]] w
      fun e w' => ∃ v, e = .returned (.agg #[v]) ∧ OwnS w' w.heap.size v (togL K W) ∧ Below w.heap.size w w' := by
  obtain ⟨i0, hi, hz0, hz1, hz2⟩ := info_parts infoPlace
  have hKl : K.length ≤ 15 := by have := Orangery.scan_len K 0 hK (by omega); omega
  have hWl : W.length ≤ 15 := by have := Orangery.scan_len W 0 hW (by omega); omega
  obtain ⟨W0, hW0, hX, hR, hB, hS⟩ := laid2 w [Value.slice aK K.length cK, Value.slice aW W.length cW] 79 [Value.slice none 0 0] 62
  have x0 := hX.at 0 rfl
  have hS1 : w.heap.size + 1 < W0.heap.size := by omega
  clear hS
  have hP1 := h1.below hB
  have HP2 : Hid (SlP w aW W) := h2
  have HB : Hid (Below w.heap.size w W0) := hB
  clear h1 h2
  go_enter Tryz.func37, Tryz.ntmps37
  go_wp2_with fail
  clear hW0
  refine (clone_any W0 aK cK K (by omega) hP1).mono ?_
  rintro e w1 ⟨v1, rfl, hO1, hb1⟩
  have hX1 := hX.keep hb1
  have hR1 := hR.keep hb1
  have HB1 : Hid (Below w.heap.size w w1) := HB.out.trans (hb1.mono HB.out.size)
  clear hX hR hB hP1 HB x0
  go_wp2_with fail
  refine (delete_any w1 W0.heap.size v1 K 64 (.pointer (some ⟨w.heap.size, 0, none⟩)) (fun p => inPl W p.1) (by omega) hO1 hb1.size (Go.Proofs.enters_of Tryz.func64 (by kernel_rfl) rfl) ?_).mono ?_
  · intro V p hV
    exact together1_any V p w.heap.size _ aW cW W (by unfold maxLen; omega) (HP2.out.below (HB1.out.trans (hV.mono (by omega)))) (hX1.below hV (by omega))
  rintro e w2 ⟨v2, rfl, hO2, hb2⟩
  have hX2 := hX1.below hb2 (by omega)
  have hR2 := hR1.below hb2 (by omega)
  have HB2 : Hid (Below w.heap.size w w2) := HB1.out.trans (hb2.mono (by omega))
  have hsz2 : W0.heap.size ≤ w2.heap.size := Nat.le_trans hb1.size hb2.size
  have hO2r := hO2.row
  have hP2 := HP2.out.below HB2.out
  generalize hM : (K.filter fun p => !inPl W p.1) = M at *
  have hMl : M.length ≤ 15 := by rw [← hM]; exact Nat.le_trans (List.length_filter_le _ _) hKl
  have HU : Hid (∀ l', l'.Perm (M ++ W) → (l'.Pairwise fun p q => p.1 ≤ q.1) → l' = togL K W) := fun l' h1 h2 => Orangery.tog_unique K W l' hK hW (by rw [hM]; exact h1) h2
  clear hO1 hb1 hX1 hR1 HB1 hb2 hM hK
  have y1 := hX2.at 1 rfl
  have HX2 : Hid (Blk w2 w.heap.size [Value.slice aK K.length cK, Value.slice aW W.length cW]) := hX2
  have HR2 : Hid (Blk w2 (w.heap.size + 1) [Value.slice none 0 0]) := hR2
  clear hX2 hR2
  have FIN : Hid (∀ (v3 : Value) (w3 : World), OwnS w3 W0.heap.size v3 (M ++ W) → Blk w3 (w.heap.size + 1) [Value.slice none 0 0] → W0.heap.size ≤ w3.heap.size → Below w.heap.size w w3 →
      Calls Tryz.prog 44 #[v3, .func (.func 65) #[] #[]] w3 fun e w' => e = .returned (.tuple #[]) ∧ OwnS w' W0.heap.size v3 (togL K W) ∧ Blk w' (w.heap.size + 1) [Value.slice none 0 0] ∧ Below w.heap.size w w') := by
    intro v3 w3 h1 h2 h3 h4
    refine (sort_tog w3 W0.heap.size v3 (M ++ W) (by simp; omega) h3 h1).mono ?_
    rintro e w4 ⟨he, l', hp, hs, hO, hb, _⟩
    have := HU.out l' hp hs
    subst this
    exact ⟨he, hO, h2.below hb (by omega), h4.trans (hb.mono (by omega))⟩
  clear HU
  have END : Hid (∀ (v3 : Value) (w4 : World), OwnS w4 W0.heap.size v3 (togL K W) → Below w.heap.size w w4 → ∃ a3 c3, v3 = .slice a3 (togL K W).length c3 ∧ OwnS (w4.setCell ⟨w.heap.size + 1, 0, none⟩ (.slice a3 (togL K W).length c3)) w.heap.size (.slice a3 (togL K W).length c3) (togL K W) ∧ Below w.heap.size w (w4.setCell ⟨w.heap.size + 1, 0, none⟩ (.slice a3 (togL K W).length c3))) := by
    intro v3 w4 h1 h2
    obtain ⟨a3, c3, rfl⟩ := h1.val
    exact ⟨a3, c3, rfl, (h1.other _ (by omega) _ _).mono (by omega), h2.setCell (by show _ ≤ w.heap.size + 1; omega) _⟩
  cases aW with
  | none =>
    have e1 := hP2.none_nil
    have e2 := hc rfl
    have y1' : w2.cell? ⟨w.heap.size, 1, none⟩ = some (.slice none 0 0) := by rw [y1, e1, e2]; rfl
    have E3 : Hid (M ++ W = M) := by show _ = _; rw [e1, List.append_nil]
    clear y1 e1 e2
    go_wp2_with (at_builtin; refine wpList_append_own_none rfl _ _ 23 rfl W0.heap.size 55 i0 3 Tryz.underlying23 hi _ M.length (M.flatMap encPl) rfl hO2r rfl ?_)
    refine (FIN.out v2 w2 (by rw [E3.out]; exact hO2) HR2.out hsz2 HB2.out).mono ?_
    rintro e w4 ⟨rfl, hO4, hR4, hb4⟩
    obtain ⟨a3, c3, rfl, hOf, hBf⟩ := END.out _ _ hO4 hb4
    have HOf : Hid (OwnS (w4.setCell ⟨w.heap.size + 1, 0, none⟩ (.slice a3 (togL K W).length c3)) w.heap.size (.slice a3 (togL K W).length c3) (togL K W)) := hOf
    have HBf : Hid (Below w.heap.size w (w4.setCell ⟨w.heap.size + 1, 0, none⟩ (.slice a3 (togL K W).length c3))) := hBf
    have HRf : Hid (Blk (w4.setCell ⟨w.heap.size + 1, 0, none⟩ (.slice a3 (togL K W).length c3)) (w.heap.size + 1) [.slice a3 (togL K W).length c3]) := hR4.set 0 (by simp) _
    have r0 := hR4.at 0 rfl
    have rf := hR4.frz
    clear hO4 hOf hBf hR4 hb4 FIN END
    go_wp2
    exact ret_cell Tryz.results37 rfl HRf.out.tree ⟨_, rfl, HOf.out, HBf.out⟩
  | some ad =>
    have HN : Hid (∀ j u, (W.flatMap encPl)[j]? = some u → w2.cell? (ad.add j) = some u) := hP2.news
    clear hP2
    go_wp2_with (at_builtin; refine wpList_append_own _ rfl _ _ 23 rfl W0.heap.size 55 i0 _ 3 24 Tryz.underlying23 hi hz0 hz1 hz2 rfl (by decide) _ _ _ rfl hO2r ad W.length cW (W.flatMap encPl) rfl (flatE_len encPl_len W) ?c1 ?c2 ?c3 ?c4 ?c5 ?_)
    case c1 => exact HN.out
    case c2 => exact flat_one W
    case c3 => unfold maxLen; omega
    case c4 => omega
    case c5 => exact hsz2
    intro v3 w3 hown' hgrow _
    have hlo : ∀ g, v2.ownBlock = some g → W0.heap.size ≤ g := fun g hg => (World.ownsRow.lt hO2r g hg).1
    have hO3 : OwnS w3 W0.heap.size v3 (M ++ W) := own_pls (by rw [List.length_append, List.flatMap_append]; exact hown')
    have hR3 := HR2.out.grown hgrow (fun e => by have := hlo _ e.symm; omega)
    have hb3 : Below W0.heap.size w2 w3 := (Below.refl _ w2).grown hgrow hsz2 hlo
    have hB3 : Below w.heap.size w w3 := HB2.out.trans (hb3.mono (by omega))
    have hsz3 : W0.heap.size ≤ w3.heap.size := Nat.le_trans hsz2 hb3.size
    clear hown' hgrow hlo hb3 hO2r HN HX2 HR2 HB2 y1 hO2
    go_wp2_with fail
    refine (FIN.out v3 w3 hO3 hR3 hsz3 hB3).mono ?_
    clear hO3 hR3 hsz3 hB3
    rintro e w4 ⟨rfl, hO4, hR4, hb4⟩
    obtain ⟨a3, c3, rfl, hOf, hBf⟩ := END.out _ _ hO4 hb4
    have HOf : Hid (OwnS (w4.setCell ⟨w.heap.size + 1, 0, none⟩ (.slice a3 (togL K W).length c3)) w.heap.size (.slice a3 (togL K W).length c3) (togL K W)) := hOf
    have HBf : Hid (Below w.heap.size w (w4.setCell ⟨w.heap.size + 1, 0, none⟩ (.slice a3 (togL K W).length c3))) := hBf
    have HRf : Hid (Blk (w4.setCell ⟨w.heap.size + 1, 0, none⟩ (.slice a3 (togL K W).length c3)) (w.heap.size + 1) [.slice a3 (togL K W).length c3]) := hR4.set 0 (by simp) _
    have r0 := hR4.at 0 rfl
    have rf := hR4.frz
    clear hO4 hOf hBf hR4 hb4 FIN END
    go_wp2
    exact ret_cell Tryz.results37 rfl HRf.out.tree ⟨_, rfl, HOf.out, HBf.out⟩

set_option maxHeartbeats 1000000 in
theorem vsame_any (w : World) (aR aK aV bR bK bV : Option Addr) (cR cK cV dR dK dV : Nat) (R R' : List Int) (K K' V V' : List Pl) (hR : R.length ≤ maxLen) (hK : K.length ≤ maxLen) (hV : V.length ≤ maxLen)
    (h1 : SlI w aR R) (h2 : SlP w aK K) (h3 : SlP w aV V) (h4 : SlI w bR R') (h5 : SlP w bK K') (h6 : SlP w bV V') :
    Calls Tryz.prog 31 #[viV (.slice aR R.length cR) (.slice aK K.length cK) (.slice aV V.length cV), viV (.slice bR R'.length dR) (.slice bK K'.length dK) (.slice bV V'.length dV)] w
      fun e w' => e = .returned (.bool (sameV R R' K K' V V')) ∧ Below w.heap.size w w' := by
  have HS : Hid (sameV R R' K K' V V' = (eqIs R R' && eqPls K K' && eqPls V V')) := rfl
  obtain ⟨W0, hW, hA, hC, hB, _⟩ := laid2 w [Value.slice aR R.length cR, Value.slice aK K.length cK, Value.slice aV V.length cV] 25 [Value.slice bR R'.length dR, Value.slice bK K'.length dK, Value.slice bV V'.length dV] 25
  have x0 := hA.at 0 rfl
  have y0 := hC.at 0 rfl
  have g1 := h1.below hB
  have g2 := h2.below hB
  have g3 := h3.below hB
  have g4 := h4.below hB
  have g5 := h5.below hB
  have g6 := h6.below hB
  have HB : Hid (Below w.heap.size w W0) := hB
  clear h1 h2 h3 h4 h5 h6 hB
  go_enter Tryz.func31, Tryz.ntmps31
  go_wp2_with fail
  clear hW
  refine (equal_is W0 aR bR cR dR R R' hR g1 g4).mono ?_
  rintro e w1 ⟨rfl, n, rfl⟩
  have hb1 : Below W0.heap.size W0 (W0.drewN n) := ⟨rfl, rfl, rfl, Nat.le_refl _, fun _ _ => rfl⟩
  have hA1 := hA.keep hb1
  have hC1 := hC.keep hb1
  have k2 := g2.below hb1
  have k3 := g3.below hb1
  have k5 := g5.below hb1
  have k6 := g6.below hb1
  have HB1 : Hid (Below w.heap.size w (W0.drewN n)) := HB.out.trans (hb1.mono HB.out.size)
  clear hA hC HB hb1 g1 g2 g3 g4 g5 g6 x0 y0
  generalize W0.drewN n = W1 at *
  have x1 := hA1.at 1 rfl
  have y1 := hC1.at 1 rfl
  cases hq : eqIs R R'
  · go_wp2
    go_ret
    exact ⟨ret_bool (by rw [HS.out, hq]; rfl), HB1.out⟩
  · go_wp2_with fail
    refine (equal_pls W1 aK bK cK dK K K' hK k2 k5).mono ?_
    rintro e w2 ⟨rfl, n2, rfl⟩
    have hb2 : Below W1.heap.size W1 (W1.drewN n2) := ⟨rfl, rfl, rfl, Nat.le_refl _, fun _ _ => rfl⟩
    have hA2 := hA1.keep hb2
    have hC2 := hC1.keep hb2
    have m3 := k3.below hb2
    have m6 := k6.below hb2
    have HB2 : Hid (Below w.heap.size w (W1.drewN n2)) := HB1.out.trans (hb2.mono HB1.out.size)
    clear hA1 hC1 HB1 hb2 k2 k3 k5 k6 x1 y1
    generalize W1.drewN n2 = W2 at *
    have x2 := hA2.at 2 rfl
    have y2 := hC2.at 2 rfl
    cases hq2 : eqPls K K'
    · go_wp2
      go_ret
      exact ⟨ret_bool (by rw [HS.out, hq, hq2]; rfl), HB2.out⟩
    · go_wp2_with fail
      refine (equal_pls W2 aV bV cV dV V V' hV m3 m6).mono ?_
      rintro e w3 ⟨rfl, n3, rfl⟩
      have HB3 : Hid (Below w.heap.size w (W2.drewN n3)) := HB2.out.trans ⟨rfl, rfl, rfl, Nat.le_refl _, fun _ _ => rfl⟩
      generalize W2.drewN n3 = W3 at *
      clear m3 m6 x2 y2
      go_wp2
      go_ret
      exact ⟨ret_bool (by rw [HS.out, hq, hq2]; rfl), HB3.out⟩

set_option maxHeartbeats 1000000 in
theorem rsameV_any (w : World) (aR aK aV bR bK bV : Option Addr) (cR cK cV dR dK dV : Nat) (R R' : List Int) (K K' V V' : List Pl) (hR : R.length ≤ maxLen) (hK : K.length ≤ maxLen) (hV : V.length ≤ maxLen)
    (h1 : SlI w aR R) (h2 : SlP w aK K) (h3 : SlP w aV V) (h4 : SlI w bR R') (h5 : SlP w bK K') (h6 : SlP w bV V') :
    Calls Tryz.prog 13 #[viV (.slice aR R.length cR) (.slice aK K.length cK) (.slice aV V.length cV), viV (.slice bR R'.length dR) (.slice bK K'.length dK) (.slice bV V'.length dV)] w
      fun e w' => e = .returned (.bool (sameV R R' K K' V V')) ∧ Below w.heap.size w w' := by
  have HS : Hid (sameV R R' K K' V V' = (eqIs R R' && eqPls K K' && eqPls V V')) := rfl
  obtain ⟨W0, hW, hA, hC, hB, _⟩ := laid2 w [Value.slice aR R.length cR, Value.slice aK K.length cK, Value.slice aV V.length cV] 25 [Value.slice bR R'.length dR, Value.slice bK K'.length dK, Value.slice bV V'.length dV] 25
  have x0 := hA.at 0 rfl
  have y0 := hC.at 0 rfl
  have g1 := h1.below hB
  have g2 := h2.below hB
  have g3 := h3.below hB
  have g4 := h4.below hB
  have g5 := h5.below hB
  have g6 := h6.below hB
  have HB : Hid (Below w.heap.size w W0) := hB
  clear h1 h2 h3 h4 h5 h6 hB
  go_enter Tryz.func13, Tryz.ntmps13
  go_wp2_with fail
  clear hW
  refine (equal_is W0 aR bR cR dR R R' hR g1 g4).mono ?_
  rintro e w1 ⟨rfl, n, rfl⟩
  have hb1 : Below W0.heap.size W0 (W0.drewN n) := ⟨rfl, rfl, rfl, Nat.le_refl _, fun _ _ => rfl⟩
  have hA1 := hA.keep hb1
  have hC1 := hC.keep hb1
  have k2 := g2.below hb1
  have k3 := g3.below hb1
  have k5 := g5.below hb1
  have k6 := g6.below hb1
  have HB1 : Hid (Below w.heap.size w (W0.drewN n)) := HB.out.trans (hb1.mono HB.out.size)
  clear hA hC HB hb1 g1 g2 g3 g4 g5 g6 x0 y0
  generalize W0.drewN n = W1 at *
  have x1 := hA1.at 1 rfl
  have y1 := hC1.at 1 rfl
  cases hq : eqIs R R'
  · go_wp2
    go_ret
    exact ⟨ret_bool (by rw [HS.out, hq]; rfl), HB1.out⟩
  · go_wp2_with fail
    refine (equal_pls W1 aK bK cK dK K K' hK k2 k5).mono ?_
    rintro e w2 ⟨rfl, n2, rfl⟩
    have hb2 : Below W1.heap.size W1 (W1.drewN n2) := ⟨rfl, rfl, rfl, Nat.le_refl _, fun _ _ => rfl⟩
    have hA2 := hA1.keep hb2
    have hC2 := hC1.keep hb2
    have m3 := k3.below hb2
    have m6 := k6.below hb2
    have HB2 : Hid (Below w.heap.size w (W1.drewN n2)) := HB1.out.trans (hb2.mono HB1.out.size)
    clear hA1 hC1 HB1 hb2 k2 k3 k5 k6 x1 y1
    generalize W1.drewN n2 = W2 at *
    have x2 := hA2.at 2 rfl
    have y2 := hC2.at 2 rfl
    cases hq2 : eqPls K K'
    · go_wp2
      go_ret
      exact ⟨ret_bool (by rw [HS.out, hq, hq2]; rfl), HB2.out⟩
    · go_wp2_with fail
      refine (equal_pls W2 aV bV cV dV V V' hV m3 m6).mono ?_
      rintro e w3 ⟨rfl, n3, rfl⟩
      have HB3 : Hid (Below w.heap.size w (W2.drewN n3)) := HB2.out.trans ⟨rfl, rfl, rfl, Nat.le_refl _, fun _ _ => rfl⟩
      generalize W2.drewN n3 = W3 at *
      clear m3 m6 x2 y2
      go_wp2
      go_ret
      exact ⟨ret_bool (by rw [HS.out, hq, hq2]; rfl), HB3.out⟩
end Go.Proofs.YtkjgoikcibgonacGreat

