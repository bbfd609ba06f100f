/- slices.SortFunc by tree.byName, on a slice of the call's own: a permutation, in order. -/
import Derived.Test.YtphameoibnimmaaDelete
import Derived.Test.YtphameoibnimmaaByName
import Derived.Test.YtphameoibnimmaaShelf
import Derived.Shelf.SlSortCmp.WholeK
namespace Go.Proofs.Ytphameoibnimmaa
open Go.ChangeShapes Go.WideShapes Go.ChangeAt Go.RowKit
open Orangery (Pl byN leP ltP)

theorem swo_irrefl (x : Pl) : Go.Proofs.ltOf byN x x = false := by
  have : ¬ byN x x < 0 := by rw [Orangery.byN_lt]; unfold ltP; omega
  simpa [Go.Proofs.ltOf] using this
theorem swo_trans (x y z : Pl) (h1 : Go.Proofs.ltOf byN x y = true) (h2 : Go.Proofs.ltOf byN y z = true) : Go.Proofs.ltOf byN x z = true := by
  simp only [Go.Proofs.ltOf, decide_eq_true_eq, Orangery.byN_lt] at *
  unfold ltP at *
  omega
theorem swo_ntrans (x y z : Pl) (h1 : Go.Proofs.ltOf byN x y = false) (h2 : Go.Proofs.ltOf byN y z = false) : Go.Proofs.ltOf byN x z = false := by
  simp only [Go.Proofs.ltOf, decide_eq_false_iff_not, Orangery.byN_lt] at *
  unfold ltP at *
  omega
theorem swoByN : Go.Sort.SWO (Go.Proofs.ltOf byN) := ⟨swo_irrefl, swo_trans, swo_ntrans⟩

theorem holdsK_of {w : World} {g : Nat} {l : List Pl} (h : HoldsP w g l) : Go.Sort.HoldsK encPl 3 w g 0 l.toArray := by
  intro j hj
  rw [Go.Sort.size_flatK] at hj
  have hj' : j < l.length * 3 := by simpa using hj
  have hi : j / 3 < l.length := by omega
  rw [Go.Sort.get_flatK _ _ _ _ (by simpa using hj')]
  refine ⟨?_, by have := h.2 j hj'; simpa using this⟩
  have hc := h.1 (j / 3) hi
  have e : l.toArray[j / 3]! = l[j / 3] := by simp [hi]
  rw [e]
  have hm : j % 3 = 0 ∨ j % 3 = 1 ∨ j % 3 = 2 := by omega
  rcases hm with hm | hm | hm
  · rw [hm, show 0 + j = 0 + j / 3 * 3 by omega, hc.1]; rfl
  · rw [hm, show 0 + j = 0 + j / 3 * 3 + 1 by omega, hc.2.1]; rfl
  · rw [hm, show 0 + j = 0 + j / 3 * 3 + 2 by omega, hc.2.2]; rfl

theorem holdsP_of {w : World} {g : Nat} {d : Array Pl} (h : Go.Sort.HoldsK encPl 3 w g 0 d) : HoldsP w g d.toList := by
  refine ⟨fun i hi => ?_, fun i hi => ?_⟩
  · have hi' : i < d.size := by simpa using hi
    have h0 := (h.cell (i := i) (c := 0) hi' (by omega)).1
    have h1 := (h.cell (i := i) (c := 1) hi' (by omega)).1
    have h2 := (h.cell (i := i) (c := 2) hi' (by omega)).1
    have e : d[i]! = d.toList[i] := by simp [hi']
    rw [e] at h0 h1 h2
    exact ⟨h0, h1, h2⟩
  · have := (h i (by simpa using hi)).2
    simpa using this

theorem below_sortWorldK {B : Nat} {w : World} (g off n : Nat) (d : Array Pl) (os : Array Obj) (hB : B ≤ w.heap.size) (hg : B ≤ g) : Below B w (Go.Proofs.sortWorldK encPl 3 w g off n d os) := by
  refine ⟨rfl, rfl, rfl, ?_, fun k hk => ?_⟩
  · exact Go.Proofs.size_sortWorldK_c encPl 3 w g off n d os
  · show ((w.heap.modify g _) ++ os)[k]? = _
    rw [Array.getElem?_append_left (by simp; omega), Array.getElem?_modify]
    have : ¬ g = k := by omega
    simp [this]

theorem grown_sortWorldK {w : World} (g off n : Nat) (d : Array Pl) (os : Array Obj) : w.grownBy (Go.Proofs.sortWorldK encPl 3 w g off n d os) (some g) := by
  refine ⟨rfl, rfl, rfl, Go.Proofs.size_sortWorldK_c encPl 3 w g off n d os, fun k hk hne => ?_⟩
  show ((w.heap.modify g _) ++ os)[k]? = _
  rw [Array.getElem?_append_left (by simp; omega), Array.getElem?_modify]
  have : ¬ g = k := fun e => hne (by rw [e])
  simp [this]

theorem RowAt.sorted {w : World} {r cap : Nat} (h : RowAt w r cap) (g off n : Nat) (d : Array Pl) (os : Array Obj) : RowAt (Go.Proofs.sortWorldK encPl 3 w g off n d os) r cap := by
  obtain ⟨cur, h1, h2⟩ := h
  have hr : r < w.heap.size := blk_lt h1
  have e : (Go.Proofs.sortWorldK encPl 3 w g off n d os).heap[r]? = (Go.Sort.putRow id w g off (Go.Sort.flatK encPl 3 d)).heap[r]? := by
    show ((Go.Sort.putRow id w g off (Go.Sort.flatK encPl 3 d)).heap ++ os)[r]? = _
    rw [Array.getElem?_append_left]
    show r < (w.heap.modify g _).size
    simp
    exact hr
  have e2 : (Go.Sort.putRow id w g off (Go.Sort.flatK encPl 3 d)).heap[r]? = if g = r then some (.cells (Go.Sort.putCells id off (Go.Sort.flatK encPl 3 d) cur) 36 (0, 0)) else w.heap[r]? := by
    show (w.heap.modify g _)[r]? = _
    rw [Array.getElem?_modify, h1]
    by_cases hg : g = r
    · rw [if_pos hg, if_pos hg]; rfl
    · rw [if_neg hg, if_neg hg]
  rw [e2] at e
  by_cases hg : g = r
  · rw [if_pos hg] at e
    exact ⟨_, e, by simp [Go.Sort.putCells, h2]⟩
  · rw [if_neg hg] at e
    exact ⟨cur, e.trans h1, h2⟩

theorem perm_sorted {f : Pl → Pl → Int} {l : List Pl} {d' : Array Pl} (hp : Go.Sort.PermIn 0 l.toArray.size l.toArray d') (hs : Go.Sort.SortedIn (Go.Proofs.ltOf f) 0 l.toArray.size d') :
    d'.size = l.length ∧ d'.toList.Perm l ∧ d'.toList.Pairwise fun p q => ¬ f q p < 0 := by
  obtain ⟨h1, _, h3⟩ := hp
  have e1 : d'.extract 0 l.toArray.size = d' := by rw [← h1]; exact Array.extract_size
  rw [e1, Array.extract_size] at h3
  refine ⟨by simpa using h1, by simpa using h3, ?_⟩
  rw [List.pairwise_iff_getElem]
  intro i j hi hj hij
  have hi' : i < d'.size := by simpa using hi
  have hj' : j < d'.size := by simpa using hj
  have := hs i j (Nat.zero_le _) hij (by omega)
  rw [getElem!_pos d' j hj', getElem!_pos d' i hi'] at this
  simpa [Go.Proofs.ltOf] using this

set_option maxHeartbeats 1000000 in
/-- slices.SortFunc at places, by whatever order -/
theorem sort_gen (k : Nat) (f : Pl → Pl → Int) (hf : Go.Sort.SWO (Go.Proofs.ltOf f)) (eg : ∀ args w, (callFunc k args).run Try.prog w = .ok (.enter k args) w)
    (hk : ∀ w p q, Calls Try.prog k #[plV p, plV q] w fun e w' => e = .returned (.int .i64 (f p q)) ∧ ∃ n os, w' = Go.Sort.grow (w.drewN n) os)
    (w : World) (base : Nat) (sv : Value) (l : List Pl) (hl : l.length ≤ 1000) (hbase : base ≤ w.heap.size) (h : OwnS w base sv l) :
    Calls Try.prog 44 #[sv, .func (.func k) #[] #[]] w
      fun e w' => e = .returned (.tuple #[]) ∧ ∃ l', l'.Perm l ∧ (l'.Pairwise fun p q => ¬ f q p < 0) ∧ OwnS w' base sv l' ∧ Below base w w' ∧ w.grownBy w' sv.ownBlock := by
  rcases h with ⟨rfl, rfl⟩ | ⟨g, cap, rfl, hgb, hgl, hcap, hcm, hH, hrow⟩
  · have hn := Go.Proofs.AnyF.slices_SortFunc_none Try.sortPl none 0 (.func (.func k) #[] #[]) w
    change Calls Try.prog 44 _ _ _ at hn
    refine hn.mono ?_
    rintro e w' ⟨rfl, rfl⟩
    exact ⟨rfl, [], List.Perm.refl _, List.Pairwise.nil, Or.inl ⟨rfl, rfl⟩, Below.refl _ _, ⟨rfl, rfl, rfl, Nat.le_refl _, fun _ _ _ => rfl⟩⟩
  · have hK := holdsK_of hH
    have hn := Go.Proofs.AnyQ.slices_SortFunc Try.sortPl 3 Try.isAgg36 Try.sizeOf36 encPl (fun _ => rfl) (fun x v hv => by simp [encPl] at hv; rcases hv with rfl | rfl | rfl <;> rfl) f hf k #[] g 0 cap l.toArray w eg (fun _ _ _ _ x y => hk _ x y) hK hgl (by simp; omega)
    change Calls Try.prog 44 _ _ _ at hn
    have hsz : l.toArray.size = l.length := by simp
    rw [hsz] at hn
    refine hn.mono ?_
    rintro e w' ⟨rfl, d', n, os, hp, hs, rfl⟩
    rw [← hsz] at hp hs
    obtain ⟨e1, e2, e3⟩ := perm_sorted hp hs
    refine ⟨rfl, d'.toList, e2, e3, ?_, below_sortWorldK g 0 n d' os hbase hgb, grown_sortWorldK g 0 n d' os⟩
    refine Or.inr ⟨g, cap, by simp [e1], hgb, Nat.lt_of_lt_of_le hgl (Go.Proofs.size_sortWorldK_c encPl 3 w g 0 n d' os), by simp [e1]; exact hcap, hcm, ?_, hrow.sorted g 0 n d' os⟩
    exact holdsP_of (Go.Proofs.holdsK_sortWorldK_c encPl 3 w g 0 l.toArray d' n os hK hgl (by simp [e1]))

theorem sort_any (w : World) (base : Nat) (sv : Value) (l : List Pl) (hl : l.length ≤ 1000) (hbase : base ≤ w.heap.size) (h : OwnS w base sv l) :
    Calls Try.prog 44 #[sv, .func (.func 45) #[] #[]] w
      fun e w' => e = .returned (.tuple #[]) ∧ ∃ l', l'.Perm l ∧ l'.Pairwise leP ∧ OwnS w' base sv l' ∧ Below base w w' := by
  refine (sort_gen 45 byN swoByN (Go.Proofs.enters_of Try.func45 (by kernel_rfl) rfl) (fun w p q => byName_any w p q) w base sv l hl hbase h).mono ?_
  rintro e w' ⟨he, l', h1, h2, h3, h4, _⟩
  exact ⟨he, l', h1, h2.imp (fun hh => (Orangery.byN_ge _ _).1 hh), h3, h4⟩
end Go.Proofs.Ytphameoibnimmaa
