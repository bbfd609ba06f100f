/- slices.SortFunc on a row of the call's own, whatever its elements: a permutation, in order. -/
import Derived.Test.YtphameoibnimmaaSlab
import Derived.Shelf.SlSortCmp.NoneTotal
import Derived.Shelf.SlSortCmp.WholeK
namespace Go.Proofs.Ytphameoibnimmaa
open Go.ChangeShapes Go.WideShapes Go.ChangeAt Go.RowKit

theorem grown_sortE {α : Type} [Inhabited α] {enc : α → List Value} {k : Nat} {w : World} (g off n : Nat) (d : Array α) (os : Array Obj) : w.grownBy (Go.Proofs.sortWorldK enc k w g off n d os) (some g) := by
  refine ⟨rfl, rfl, rfl, Go.Proofs.size_sortWorldK_c enc k w g off n d os, fun j hj hne => ?_⟩
  show ((w.heap.modify g _) ++ os)[j]? = _
  rw [Array.getElem?_append_left (by simp; omega), Array.getElem?_modify]
  have : ¬ g = j := fun e => hne (by rw [e])
  simp [this]

theorem own_sortedE {α : Type} [Inhabited α] {enc : α → List Value} {k : Nat} (hk : ∀ x, (enc x).length = k) (hpos : 0 < k) {w : World} {base g cap : Nat} {e : TypeId} {l : List α} (h : w.ownsRow base e k (.slice (some ⟨g, 0, none⟩) l.length cap) l.length (l.flatMap enc))
    (d : Array α) (hd : d.size = l.length) (n : Nat) (os : Array Obj) :
    (Go.Proofs.sortWorldK enc k w g 0 n d os).ownsRow base e k (.slice (some ⟨g, 0, none⟩) l.length cap) d.toList.length (d.toList.flatMap enc) := by
  have hdl : d.toList.length = l.length := by simpa using hd
  refine ⟨flatE_len hk _, ?_⟩
  rcases h.2 with ⟨h', _⟩ | ⟨g', cap', cur, h', hb, hg, hn, hm, hs, ht⟩
  · simp at h'
  · obtain ⟨rfl, rfl⟩ : g = g' ∧ cap = cap' := by simpa using h'
    refine Or.inr ⟨g, cap, Go.Sort.putCells id 0 (Go.Sort.flatK enc k d) cur, by rw [hdl], hb, ?_, by omega, hm, by simp [Go.Sort.putCells, hs], ?_⟩
    · show ((Go.Sort.putRow id w g 0 (Go.Sort.flatK enc k d)).heap ++ os)[g]? = _
      have hr : g < w.heap.size := blk_lt hg
      rw [Array.getElem?_append_left (by show g < (w.heap.modify g _).size; simp; exact hr)]
      show (w.heap.modify g _)[g]? = _
      rw [Array.getElem?_modify, hg, if_pos rfl]
      rfl
    · apply List.ext_getElem?
      intro j
      by_cases hj : j < d.toList.length * k
      · have hj2 : j < d.size * k := by simpa using hj
        have hi : j / k < d.size := (Nat.div_lt_iff_lt_mul hpos).2 hj2
        have hc : j % k < k := Nat.mod_lt _ hpos
        have e1 : j / k * k + j % k = j := by rw [Nat.mul_comm]; exact Nat.div_add_mod j k
        have hcur : j < cur.size := by
          rw [hs]
          have : d.toList.length * k ≤ cap * k := Nat.mul_le_mul_right k (by omega)
          omega
        have e2 := flatE_get hk d.toList (j / k) (by simpa using hi) (j % k) hc
        rw [e1] at e2
        rw [List.getElem?_take_of_lt hj, e2]
        have e3 := Go.Sort.get_flatK enc k d j hj2
        have e4 : (Go.Sort.flatK enc k d)[j - 0]! = (enc d[j / k]!)[j % k]! := by rw [Nat.sub_zero]; exact e3
        simp only [Go.Sort.putCells, Array.getElem?_toList, Array.getElem?_mapIdx]
        rw [Array.getElem?_eq_getElem hcur]
        simp only [Option.map_some]
        rw [if_pos ⟨by omega, by rw [Go.Sort.size_flatK]; omega⟩, e4]
        have e5 : d[j / k]! = d.toList[j / k] := by simp [hi]
        rw [e5, List.getElem?_eq_getElem (by rw [hk]; exact hc)]
        simp [hk, hc]
      · have hj3 : d.toList.length * k ≤ j := Nat.le_of_not_lt hj
        rw [List.getElem?_eq_none (by rw [List.length_take]; exact Nat.le_trans (Nat.min_le_left _ _) hj3), List.getElem?_eq_none (by rw [flatE_len hk]; exact hj3)]

theorem perm_sortedE {α : Type} [Inhabited α] {f : α → α → Int} {l : List α} {d' : Array α} (hp : Go.Sort.PermIn 0 l.toArray.size l.toArray d') (hs : Go.Sort.SortedIn (Go.Proofs.ltOf f) 0 l.toArray.size d') :
    d'.size = l.length ∧ d'.toList.Perm l ∧ d'.toList.Pairwise fun p q => ¬ f q p < 0 := by
  obtain ⟨h1, _, h3⟩ := hp
  have e1 : d'.extract 0 l.toArray.size = d' := by rw [← h1]; exact Array.extract_size
  rw [e1, Array.extract_size] at h3
  refine ⟨by simpa using h1, by simpa using h3, ?_⟩
  rw [List.pairwise_iff_getElem]
  intro i j hi hj hij
  have hi' : i < d'.size := by simpa using hi
  have hj' : j < d'.size := by simpa using hj
  have := hs i j (Nat.zero_le _) hij (by omega)
  rw [getElem!_pos d' j hj', getElem!_pos d' i hi'] at this
  simpa [Go.Proofs.ltOf] using this

set_option maxHeartbeats 1000000 in
theorem sortE {α : Type} [Inhabited α] {enc : α → List Value} {k : Nat} {ρ : Go.Shelf.Ren} (L : Go.Proofs.SlLaysF0.n6 Try.prog ρ) (aE : ∀ w, (isAgg (ρ.t 24)).run Try.prog w = .ok true w) (zE : ∀ w, (Go.sizeOf (ρ.t 24)).run Try.prog w = .ok k w)
    (hk : ∀ x, (enc x).length = k) (hpos : 0 < k) (h1 : ∀ x, ∀ v ∈ enc x, v.oneCell' = true) (f : α → α → Int) (hf : Go.Sort.SWO (Go.Proofs.ltOf f)) (gf : Nat)
    (eg : ∀ args w, (callFunc gf args).run Try.prog w = .ok (.enter gf args) w)
    (hc : ∀ w x y, Calls Try.prog gf #[.agg (enc x).toArray, .agg (enc y).toArray] w fun e w' => e = .returned (.int .i64 (f x y)) ∧ ∃ n os, w' = Go.Sort.grow (w.drewN n) os)
    (w : World) (base : Nat) (e : TypeId) (v : Value) (l : List α) (hl : l.length ≤ 1000) (hbase : base ≤ w.heap.size) (h : w.ownsRow base e k v l.length (l.flatMap enc)) :
    Calls Try.prog (ρ.f 6) #[v, .func (.func gf) #[] #[]] w
      fun e' w' => e' = .returned (.tuple #[]) ∧ ∃ l' : List α, l'.Perm l ∧ (l'.Pairwise fun p q => ¬ f q p < 0) ∧ w'.ownsRow base e k v l'.length (l'.flatMap enc) ∧ Below base w w' ∧ w.grownBy w' v.ownBlock := by
  rcases h.2 with ⟨rfl, hn⟩ | ⟨g, cap, cur, rfl, hgb, hg, hn, hm, hs, ht⟩
  · have hl0 : l = [] := List.length_eq_zero_iff.1 hn
    subst hl0
    refine (Go.Proofs.AnyF.slices_SortFunc_none L none 0 (.func (.func gf) #[] #[]) w).mono ?_
    rintro e' w' ⟨rfl, rfl⟩
    exact ⟨rfl, [], List.Perm.refl _, List.Pairwise.nil, h, Below.refl _ _, ⟨rfl, rfl, rfl, Nat.le_refl _, fun _ _ _ => rfl⟩⟩
  · have hK := own_holdsK hk hpos h
    have hgl : g < w.heap.size := blk_lt hg
    have hn := Go.Proofs.AnyQ.slices_SortFunc L k aE zE enc hk h1 f hf gf #[] g 0 cap l.toArray w eg (fun _ _ _ _ x y => hc _ x y) hK hgl (by simp; omega)
    have hsz : l.toArray.size = l.length := by simp
    rw [hsz] at hn
    refine hn.mono ?_
    rintro e' w' ⟨rfl, d', n, os, hp, hs', rfl⟩
    rw [← hsz] at hp hs'
    obtain ⟨e1, e2, e3⟩ := perm_sortedE hp hs'
    have hgr := grown_sortE (enc := enc) (k := k) (w := w) g 0 n d' os
    refine ⟨rfl, d'.toList, e2, e3, own_sortedE hk hpos h d' e1 n os, (Below.refl base w).grown hgr hbase (fun j hj => by simp at hj; omega), hgr⟩
end Go.Proofs.Ytphameoibnimmaa
