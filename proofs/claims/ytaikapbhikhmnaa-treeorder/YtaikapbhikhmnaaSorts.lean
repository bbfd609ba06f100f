/- slices.SortFunc by tree.byName, on a slice of the call's own: a permutation, in order. -/
import Derived.Test.YtaikapbhikhmnaaDelete
import Derived.Test.YtaikapbhikhmnaaByName
import Derived.Test.YtaikapbhikhmnaaShelf
namespace Go.Proofs.Ytaikapbhikhmnaa
open Go.ChangeShapes Go.WideShapes Go.ChangeAt Go.RowKit
open Orangery (Pl byN leP ltP)

theorem swo_irrefl (x : Pl) : Go.Proofs.ltOf byN x x = false := by
  have : ¬ byN x x < 0 := by rw [Orangery.byN_lt]; unfold ltP; omega
  simpa [Go.Proofs.ltOf] using this
theorem swo_trans (x y z : Pl) (h1 : Go.Proofs.ltOf byN x y = true) (h2 : Go.Proofs.ltOf byN y z = true) : Go.Proofs.ltOf byN x z = true := by
  simp only [Go.Proofs.ltOf, decide_eq_true_eq, Orangery.byN_lt] at *
  unfold ltP at *
  omega
theorem swo_ntrans (x y z : Pl) (h1 : Go.Proofs.ltOf byN x y = false) (h2 : Go.Proofs.ltOf byN y z = false) : Go.Proofs.ltOf byN x z = false := by
  simp only [Go.Proofs.ltOf, decide_eq_false_iff_not, Orangery.byN_lt] at *
  unfold ltP at *
  omega
theorem swoByN : Go.Sort.SWO (Go.Proofs.ltOf byN) := ⟨swo_irrefl, swo_trans, swo_ntrans⟩

theorem holdsK_of {w : World} {g : Nat} {l : List Pl} (h : HoldsP w g l) : Go.Sort.HoldsK encPl 3 w g 0 l.toArray := by
  intro j hj
  rw [Go.Sort.size_flatK] at hj
  have hj' : j < l.length * 3 := by simpa using hj
  have hi : j / 3 < l.length := by omega
  rw [Go.Sort.get_flatK _ _ _ _ (by simpa using hj')]
  refine ⟨?_, by have := h.2 j hj'; simpa using this⟩
  have hc := h.1 (j / 3) hi
  have e : l.toArray[j / 3]! = l[j / 3] := by simp [hi]
  rw [e]
  have hm : j % 3 = 0 ∨ j % 3 = 1 ∨ j % 3 = 2 := by omega
  rcases hm with hm | hm | hm
  · rw [hm, show 0 + j = 0 + j / 3 * 3 by omega, hc.1]; rfl
  · rw [hm, show 0 + j = 0 + j / 3 * 3 + 1 by omega, hc.2.1]; rfl
  · rw [hm, show 0 + j = 0 + j / 3 * 3 + 2 by omega, hc.2.2]; rfl

theorem holdsP_of {w : World} {g : Nat} {d : Array Pl} (h : Go.Sort.HoldsK encPl 3 w g 0 d) : HoldsP w g d.toList := by
  refine ⟨fun i hi => ?_, fun i hi => ?_⟩
  · have hi' : i < d.size := by simpa using hi
    have h0 := (h.cell (i := i) (c := 0) hi' (by omega)).1
    have h1 := (h.cell (i := i) (c := 1) hi' (by omega)).1
    have h2 := (h.cell (i := i) (c := 2) hi' (by omega)).1
    have e : d[i]! = d.toList[i] := by simp [hi']
    rw [e] at h0 h1 h2
    exact ⟨h0, h1, h2⟩
  · have := (h i (by simpa using hi)).2
    simpa using this

theorem below_sortWorldK {B : Nat} {w : World} (g off n : Nat) (d : Array Pl) (os : Array Obj) (hB : B ≤ w.heap.size) (hg : B ≤ g) : Below B w (Go.Proofs.sortWorldK encPl 3 w g off n d os) := by
  refine ⟨rfl, rfl, rfl, ?_, fun k hk => ?_⟩
  · exact Go.Proofs.size_sortWorldK_c encPl 3 w g off n d os
  · show ((w.heap.modify g _) ++ os)[k]? = _
    rw [Array.getElem?_append_left (by simp; omega), Array.getElem?_modify]
    have : ¬ g = k := by omega
    simp [this]

theorem cmpLays (blk off size : Nat) (w : World) : Go.Proofs.CmpLays Try.prog 26 #[] encPl 3 byN blk off size w :=
  fun _ _ _ _ x y => byName_any _ x y

theorem perm_sorted {l : List Pl} {d' : Array Pl} (hp : Go.Sort.PermIn 0 l.toArray.size l.toArray d') (hs : Go.Sort.SortedIn (Go.Proofs.ltOf byN) 0 l.toArray.size d') :
    d'.size = l.length ∧ d'.toList.Perm l ∧ d'.toList.Pairwise leP := by
  obtain ⟨h1, _, h3⟩ := hp
  have e1 : d'.extract 0 l.toArray.size = d' := by rw [← h1]; exact Array.extract_size
  rw [e1, Array.extract_size] at h3
  refine ⟨by simpa using h1, by simpa using h3, ?_⟩
  rw [List.pairwise_iff_getElem]
  intro i j hi hj hij
  have hi' : i < d'.size := by simpa using hi
  have hj' : j < d'.size := by simpa using hj
  have := hs i j (Nat.zero_le _) hij (by omega)
  rw [getElem!_pos d' j hj', getElem!_pos d' i hi'] at this
  rw [← Orangery.byN_ge]
  simpa [Go.Proofs.ltOf] using this

set_option maxHeartbeats 1000000 in
theorem sort_any (w : World) (base : Nat) (sv : Value) (l : List Pl) (hl : l.length ≤ 1000) (hbase : base ≤ w.heap.size) (h : OwnS w base sv l) :
    Calls Try.prog 25 #[sv, .func (.func 26) #[] #[]] w
      fun e w' => e = .returned (.tuple #[]) ∧ ∃ l', l'.Perm l ∧ l'.Pairwise leP ∧ OwnS w' base sv l' ∧ Below base w w' := by
  rcases h with ⟨rfl, rfl⟩ | ⟨g, cap, rfl, hgb, hgl, hcap, hcm, hH⟩
  · have hn := Go.Proofs.AnyF.slices_SortFunc_none Try.sortPl none 0 (.func (.func 26) #[] #[]) w
    change Calls Try.prog 25 _ _ _ at hn
    refine hn.mono ?_
    rintro e w' ⟨rfl, rfl⟩
    exact ⟨rfl, [], List.Perm.refl _, List.Pairwise.nil, Or.inl ⟨rfl, rfl⟩, Below.refl _ _⟩
  · have hK := holdsK_of hH
    have eg : ∀ args w, (callFunc 26 args).run Try.prog w = .ok (.enter 26 args) w := Go.Proofs.enters_of Try.func26 (by kernel_rfl) rfl
    have hn := Go.Proofs.AnyQ.slices_SortFunc Try.sortPl 3 Try.isAgg36 Try.sizeOf36 encPl (fun _ => rfl) (fun x v hv => by simp [encPl] at hv; rcases hv with rfl | rfl | rfl <;> rfl) byN swoByN 26 #[] g 0 cap l.toArray w eg (cmpLays g 0 l.toArray.size w) hK hgl (by simp; omega)
    change Calls Try.prog 25 _ _ _ at hn
    have hsz : l.toArray.size = l.length := by simp
    rw [hsz] at hn
    refine hn.mono ?_
    rintro e w' ⟨rfl, d', n, os, hp, hs, rfl⟩
    rw [← hsz] at hp hs
    obtain ⟨e1, e2, e3⟩ := perm_sorted hp hs
    refine ⟨rfl, d'.toList, e2, e3, ?_, below_sortWorldK g 0 n d' os hbase hgb⟩
    refine Or.inr ⟨g, cap, by simp [e1], hgb, Nat.lt_of_lt_of_le hgl (Go.Proofs.size_sortWorldK_c encPl 3 w g 0 n d' os), by simp [e1]; exact hcap, hcm, ?_⟩
    exact holdsP_of (Go.Proofs.holdsK_sortWorldK_c encPl 3 w g 0 l.toArray d' n os hK hgl (by simp [e1]))
end Go.Proofs.Ytaikapbhikhmnaa
