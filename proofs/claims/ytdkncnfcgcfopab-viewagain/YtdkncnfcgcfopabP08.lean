/- 8 texts of the proof: slices.Index, slices.Contains, slices.ContainsFunc at places. Plain facts for ViewAgain and ViewMore. slices.SortFunc on a row of the call's own, whatever its elements: a permutation, in order. slices.SortFunc at places by the difference of their nodes, where these are small. orangeryref.table: places laid out by node. orangeryref.table of places in whatever order: of one node the last one counts. -/
import Derived.Shelf.SlSortCmp.NoneTotal
import Derived.Shelf.SlSortCmp.WholeK
import Derived.Deep.WholeRow
import Derived.Test.YtdkncnfcgcfopabP03
import Derived.Test.YtdkncnfcgcfopabP06
import Derived.Test.YtdkncnfcgcfopabP02
import Derived.Test.YtdkncnfcgcfopabP04
import Derived.Test.YtdkncnfcgcfopabP01
import Derived.Test.YtdkncnfcgcfopabP05
import Derived.Test.YtdkncnfcgcfopabP07
/- slices.Index, slices.Contains, slices.ContainsFunc at places. -/
namespace Go.Proofs.Ytdkncnfcgcfopab
open Go.ChangeShapes Go.WideShapes Go.ChangeAt Go.RowKit
open Orangery (Pl idxF)

def hasP (p : Pl) (l : List Pl) : Bool := decide (p ∈ l)

set_option maxHeartbeats 1000000 in
theorem indexPls_any (w : World) (a : Option Addr) (c : Nat) (l : List Pl) (p : Pl) (hl : l.length ≤ maxLen) (h : SlP w a l) :
    Calls Try.prog 66 #[.slice a l.length c, plV p] w
      fun e w' => (∃ i : Int, e = .returned (.int .i64 i) ∧ (p ∈ l → 0 ≤ i) ∧ (p ∉ l → i = -1)) ∧ Below w.heap.size w w' := by
  have hl' : l.length ≤ 9223372036854775807 := hl
  obtain ⟨p0, p1, p2⟩ := p
  obtain ⟨W0, hW, hN, hB, hS⟩ := laid1 w [Value.int IntKind.i64 p0, Value.int IntKind.i64 p1, Value.int IntKind.i64 p2] 45
  have HP : Hid (SlP W0 a l) := h.below hB
  have HB : Hid (Below w.heap.size w W0) := hB
  have heq := run_eql_pl
  have hgd := guard_pl
  have m0 := hN.at 0 rfl
  have m1 := hN.at 1 rfl
  have m2 := hN.at 2 rfl
  clear hN hB hS h
  go_enter Try.func66, Try.ntmps66
  go_wp2
  clear hW
  go_loopw [8] (fun i W => ∃ k n : Nat, k ≤ l.length ∧ i = .int .i64 k ∧ W = W0.drewN n ∧ (∀ j, (hj : j < l.length) → j < k → (p0, p1, p2) ≠ l[j])) (fun i _ => l.length - (intOf i).toNat)
  case atStart => exact ⟨0, 0, Nat.zero_le _, rfl, rfl, fun j _ hj => absurd hj (Nat.not_lt_zero _)⟩
  case round =>
    obtain ⟨k, n, hk, rfl, rfl, hno⟩ := hrel
    have HNO : Hid (∀ j, (hj : j < l.length) → j < k → (p0, p1, p2) ≠ l[j]) := hno
    clear hno
    by_cases hlt : k < l.length
    · have hPP := HP.out
      rcases hPP with hPP | ⟨b, off, rfl, hbl, hp⟩
      · exact absurd hlt (by simp [hPP])
      obtain ⟨g0, g1, g2⟩ := hp k hlt
      have HM : Hid (l[k] ∈ l) := List.getElem_mem hlt
      have HKE : Hid (∀ j, (hj : j < l.length) → j = k → l[j] = l[k]) := fun j hj e => by subst e; rfl
      clear hp
      generalize l[k] = q at *
      obtain ⟨q0, q1, q2⟩ := q
      simp only at g0 g1 g2
      go_wp2
      go_quiet (fail)
      cases hq : eqPl (p0, p1, p2) (q0, q1, q2)
      · have HQ : Hid ((p0, p1, p2) ≠ (q0, q1, q2)) := by show _ ≠ _; simpa [eqPl] using hq
        go_wp2
        go_roundw
        case rel =>
          refine ⟨k + 1, _, by omega, by go_num, rfl, fun j hj hjk => ?_⟩
          by_cases hjk' : j < k
          · exact HNO.out j hj hjk'
          · rw [HKE.out j hj (by omega)]; exact HQ.out
        case measure => simp [intOf]; omega
      · have HQ : Hid ((p0, p1, p2) = (q0, q1, q2)) := by show _ = _; simpa [eqPl] using hq
        go_wp2
        go_ret
        refine ⟨⟨k, rfl, fun _ => by omega, fun hn => ?_⟩, HB.out.trans ⟨rfl, rfl, rfl, Nat.le_refl _, fun _ _ => rfl⟩⟩
        rw [HQ.out] at hn
        exact absurd HM.out hn
    · go_wp2
      go_ret
      refine ⟨⟨-1, rfl, fun hm => ?_, fun _ => rfl⟩, HB.out.trans ⟨rfl, rfl, rfl, Nat.le_refl _, fun _ _ => rfl⟩⟩
      obtain ⟨j, hj, e⟩ := List.getElem_of_mem hm
      exact absurd e.symm (HNO.out j hj (by omega))

set_option maxHeartbeats 1000000 in
theorem containsPls_any (w : World) (a : Option Addr) (c : Nat) (l : List Pl) (p : Pl) (hl : l.length ≤ maxLen) (h : SlP w a l) :
    Calls Try.prog 35 #[.slice a l.length c, plV p] w fun e w' => e = .returned (.bool (hasP p l)) ∧ Below w.heap.size w w' := by
  obtain ⟨W0, hW, hN, hB, hS⟩ := laid1 w [Value.int IntKind.i64 p.1, Value.int IntKind.i64 p.2.1, Value.int IntKind.i64 p.2.2] 45
  have m0 := hN.at 0 rfl
  have m1 := hN.at 1 rfl
  have m2 := hN.at 2 rfl
  have HB : Hid (Below w.heap.size w W0) := hB
  have hP := h.below hB
  clear hN hB hS h
  go_enter Try.func35, Try.ntmps35
  go_wp2_with fail
  refine (indexPls_any W0 a c l p hl hP).mono ?_
  rintro e w1 ⟨⟨i, rfl, hi, hi2⟩, hb⟩
  have HB1 : Hid (Below w.heap.size w w1) := HB.out.trans (hb.mono HB.out.size)
  by_cases hm : p ∈ l
  · have h0 := hi hm
    have HH : Hid (hasP p l = true) := by show _ = _; simpa [hasP] using hm
    clear hi hi2 hb hm
    go_wp2
    go_ret
    exact ⟨ret_bool HH.out.symm, HB1.out⟩
  · have h0 := hi2 hm
    have HH : Hid (hasP p l = false) := by show _ = _; simpa [hasP] using hm
    subst h0
    clear hi hi2 hb hm
    go_wp2
    go_ret
    exact ⟨ret_bool HH.out.symm, HB1.out⟩

theorem containsFuncP_any (w : World) (a : Option Addr) (c : Nat) (l : List Pl) (g : Nat) (v : Value) (f : Pl → Bool) (hl : l.length ≤ maxLen) (h : SlP w a l)
    (eg : ∀ args w, (callFunc g args).run Try.prog w = .ok (.enter g args) w)
    (hg : ∀ W p, Below w.heap.size w W → Calls Try.prog g #[plV p, v] W fun e w' => e = .returned (.bool (f p)) ∧ Below W.heap.size W w') :
    Calls Try.prog 32 #[.slice a l.length c, .func (.func g) #[] #[v]] w
      fun e w' => e = .returned (.bool (l.any f)) ∧ Below w.heap.size w w' := by
  go_enter Try.func32, Try.ntmps32
  go_wp2_with fail
  refine (indexFunc_any w a c l g v f hl h eg hg).mono ?_
  rintro e w1 ⟨rfl, hb1⟩
  rcases Orangery.idxF_any f l 0 with ⟨h1, h2⟩ | ⟨h1, h2⟩
  · rw [h1]
    have HA : Hid (l.any f = false) := h2
    clear h1 h2
    go_wp2
    go_ret
    exact ⟨ret_bool HA.out.symm, hb1⟩
  · have d : decide (idxF f 0 l ≥ 0) = true := by simp; omega
    have HA : Hid (l.any f = true) := h2
    clear h1 h2
    go_wp2
    go_ret
    exact ⟨ret_bool HA.out.symm, hb1⟩
end Go.Proofs.Ytdkncnfcgcfopab

/- Plain facts for ViewAgain and ViewMore. -/
namespace Orangery

theorem rootsE_take (l : List Int) : ∀ a k, rootsE a l = 0 → rootsE a (l.take k) = 0 := by
  induction l with
  | nil => intro a k h; simpa using h
  | cons n l ih =>
    intro a k h
    cases k with
    | zero => rfl
    | succ k =>
      rw [List.take_succ_cons]
      unfold rootsE at h ⊢
      split at h
      · omega
      · split at h
        · omega
        · rename_i h1 h2
          rw [if_neg h1, if_neg h2]
          exact ih n k h
theorem rootsOk_take {l : List Int} (h : rootsOk l = 0) (k : Nat) : rootsOk (l.take k) = 0 := by
  have hl := rootsOk_len h
  unfold rootsOk at h ⊢
  rw [if_neg (by omega)] at h
  rw [if_neg (by simp; omega)]
  exact rootsE_take l _ k h
theorem ofE_take {l : List Pl} {R : List Int} (h : ofE l R = 0) (k : Nat) : ofE l (R.take k) = 0 := by
  obtain ⟨h1, h2⟩ := ofE_zero h
  unfold ofE orI
  rw [if_neg (by simp [h1])]
  exact rootsOk_take h2 k
theorem more_K (l : List Pl) (R : List Int) (k : Nat) (p : Pl) (hp : p ∈ viewK l (R.take k)) : p ∈ viewK l R := by
  obtain ⟨h1, h2⟩ := List.mem_filter.1 hp
  exact List.mem_filter.2 ⟨h1, view_more l _ _ (fun r hr => List.mem_of_mem_take hr) _ h2⟩
theorem more_W (l : List Pl) (R : List Int) (k : Nat) (p : Pl) (hp : p ∈ viewW l (R.take k)) : p ∉ viewK l R → p ∈ viewW l R := by
  obtain ⟨h1, h2⟩ := List.mem_filter.1 hp
  intro hn
  refine List.mem_filter.2 ⟨h1, ?_⟩
  have hk : knB l R p.1 = false := by
    cases hq : knB l R p.1
    · rfl
    · exact absurd (List.mem_filter.2 ⟨h1, hq⟩) hn
  have h3 : wyB l (R.take k) p.1 = true := h2
  rw [wy_ab] at h3 ⊢
  rw [hk]
  simp only [Bool.not_false, Bool.true_and]
  have h4 : abB l (R.take k) p.1 = true := by
    cases hq : abB l (R.take k) p.1
    · rw [hq] at h3; simp at h3
    · rfl
  unfold abB at h4 ⊢
  rw [List.any_eq_true] at h4 ⊢
  obtain ⟨r, hr, hu⟩ := h4
  exact ⟨r, List.mem_of_mem_take hr, hu⟩

/-- both parts of a view, sorted -/
theorem again_both (l : List Pl) (R : List Int) (h : check l = 0) (l' : List Pl) (hp : l'.Perm (viewK l R ++ viewW l R)) (hs : l'.Pairwise fun p q => p.1 ≤ q.1) : l' = viewA l R := by
  have hb : byNode (viewA l R) := ((check_iff l).1 h).2.1.filter _
  exact sorted_unique l' (viewA l R) hb (hp.trans (view_perm l R)) hs
theorem again_of (l : List Pl) (R : List Int) (h : ofE l R = 0) : ofE (viewA l R) R = 0 ∧ ofR (viewA l R) R = R ∧ ofK (viewA l R) R = viewK l R ∧ ofW (viewA l R) R = viewW l R := by
  obtain ⟨h1, h2⟩ := ofE_zero h
  obtain ⟨g1, g2, g3⟩ := view_again l R h1 (rootsOk_node h2)
  have e : ofE (viewA l R) R = 0 := by unfold ofE orI; rw [if_neg (by simp [g1])]; exact h2
  obtain ⟨k1, k2, k3⟩ := of_ok e
  exact ⟨e, k1, by rw [k2, g2], by rw [k3, g3]⟩
theorem again_find (l : List Pl) (R : List Int) (h : check l = 0) (p : Pl) (hp : p ∈ viewA l R) : find l p.1 = p :=
  (mem_node l h p (List.mem_filter.1 hp).1).2.2.1
theorem again_next (l : List Pl) (R : List Int) (h : check l = 0) (i j : Nat) (hi : i < (viewA l R).length) (hj : j < (viewA l R).length) (hij : i < j) : (viewA l R)[i].1 < (viewA l R)[j].1 := by
  have hb : byNode (viewA l R) := ((check_iff l).1 h).2.1.filter _
  exact List.pairwise_iff_getElem.1 hb i j hi hj hij
theorem again_kids (l : List Pl) (R : List Int) (h : check l = 0) (hr : ∀ r ∈ R, isNodeB r = true) (p : Pl) (hp : p ∈ l) (hu : (viewK l R).any (fun q => q.1 == p.2.1) = true ∨ hasB p.2.1 R = true) : p ∈ viewK l R := by
  have hk : knB l R p.2.1 = true := by
    rcases hu with hu | hu
    · rw [List.any_eq_true] at hu
      obtain ⟨q, hq, e⟩ := hu
      have e' : q.1 = p.2.1 := by simpa using e
      rw [← e']
      exact (List.mem_filter.1 hq).2
    · have hm : p.2.1 ∈ R := by simpa [hasB] using hu
      exact root_known l R h _ (hr _ hm) hm
  exact List.mem_filter.2 ⟨hp, view_kids l R h hr p hp hk⟩
end Orangery

/- slices.SortFunc on a row of the call's own, whatever its elements: a permutation, in order. -/
namespace Go.Proofs.Ytdkncnfcgcfopab
open Go.ChangeShapes Go.WideShapes Go.ChangeAt Go.RowKit

theorem grown_sortE {α : Type} [Inhabited α] {enc : α → List Value} {k : Nat} {w : World} (g off n : Nat) (d : Array α) (os : Array Obj) : w.grownBy (Go.Proofs.sortWorldK enc k w g off n d os) (some g) := by
  refine ⟨rfl, rfl, rfl, Go.Proofs.size_sortWorldK_c enc k w g off n d os, fun j hj hne => ?_⟩
  show ((w.heap.modify g _) ++ os)[j]? = _
  rw [Array.getElem?_append_left (by simp; omega), Array.getElem?_modify]
  have : ¬ g = j := fun e => hne (by rw [e])
  simp [this]

theorem own_sortedE {α : Type} [Inhabited α] {enc : α → List Value} {k : Nat} (hk : ∀ x, (enc x).length = k) (hpos : 0 < k) {w : World} {base g cap : Nat} {e : TypeId} {l : List α} (h : w.ownsRow base e k (.slice (some ⟨g, 0, none⟩) l.length cap) l.length (l.flatMap enc))
    (d : Array α) (hd : d.size = l.length) (n : Nat) (os : Array Obj) :
    (Go.Proofs.sortWorldK enc k w g 0 n d os).ownsRow base e k (.slice (some ⟨g, 0, none⟩) l.length cap) d.toList.length (d.toList.flatMap enc) := by
  have hdl : d.toList.length = l.length := by simpa using hd
  refine ⟨flatE_len hk _, ?_⟩
  rcases h.2 with ⟨h', _⟩ | ⟨g', cap', cur, h', hb, hg, hn, hm, hs, ht⟩
  · simp at h'
  · obtain ⟨rfl, rfl⟩ : g = g' ∧ cap = cap' := by simpa using h'
    refine Or.inr ⟨g, cap, Go.Sort.putCells id 0 (Go.Sort.flatK enc k d) cur, by rw [hdl], hb, ?_, by omega, hm, by simp [Go.Sort.putCells, hs], ?_⟩
    · show ((Go.Sort.putRow id w g 0 (Go.Sort.flatK enc k d)).heap ++ os)[g]? = _
      have hr : g < w.heap.size := blk_lt hg
      rw [Array.getElem?_append_left (by show g < (w.heap.modify g _).size; simp; exact hr)]
      show (w.heap.modify g _)[g]? = _
      rw [Array.getElem?_modify, hg, if_pos rfl]
      rfl
    · apply List.ext_getElem?
      intro j
      by_cases hj : j < d.toList.length * k
      · have hj2 : j < d.size * k := by simpa using hj
        have hi : j / k < d.size := (Nat.div_lt_iff_lt_mul hpos).2 hj2
        have hc : j % k < k := Nat.mod_lt _ hpos
        have e1 : j / k * k + j % k = j := by rw [Nat.mul_comm]; exact Nat.div_add_mod j k
        have hcur : j < cur.size := by
          rw [hs]
          have : d.toList.length * k ≤ cap * k := Nat.mul_le_mul_right k (by omega)
          omega
        have e2 := flatE_get hk d.toList (j / k) (by simpa using hi) (j % k) hc
        rw [e1] at e2
        rw [List.getElem?_take_of_lt hj, e2]
        have e3 := Go.Sort.get_flatK enc k d j hj2
        have e4 : (Go.Sort.flatK enc k d)[j - 0]! = (enc d[j / k]!)[j % k]! := by rw [Nat.sub_zero]; exact e3
        simp only [Go.Sort.putCells, Array.getElem?_toList, Array.getElem?_mapIdx]
        rw [Array.getElem?_eq_getElem hcur]
        simp only [Option.map_some]
        rw [if_pos ⟨by omega, by rw [Go.Sort.size_flatK]; omega⟩, e4]
        have e5 : d[j / k]! = d.toList[j / k] := by simp [hi]
        rw [e5, List.getElem?_eq_getElem (by rw [hk]; exact hc)]
        simp [hk, hc]
      · have hj3 : d.toList.length * k ≤ j := Nat.le_of_not_lt hj
        rw [List.getElem?_eq_none (by rw [List.length_take]; exact Nat.le_trans (Nat.min_le_left _ _) hj3), List.getElem?_eq_none (by rw [flatE_len hk]; exact hj3)]

theorem perm_sortedE {α : Type} [Inhabited α] {f : α → α → Int} {l : List α} {d' : Array α} (hp : Go.Sort.PermIn 0 l.toArray.size l.toArray d') (hs : Go.Sort.SortedIn (Go.Proofs.ltOf f) 0 l.toArray.size d') :
    d'.size = l.length ∧ d'.toList.Perm l ∧ d'.toList.Pairwise fun p q => ¬ f q p < 0 := by
  obtain ⟨h1, _, h3⟩ := hp
  have e1 : d'.extract 0 l.toArray.size = d' := by rw [← h1]; exact Array.extract_size
  rw [e1, Array.extract_size] at h3
  refine ⟨by simpa using h1, by simpa using h3, ?_⟩
  rw [List.pairwise_iff_getElem]
  intro i j hi hj hij
  have hi' : i < d'.size := by simpa using hi
  have hj' : j < d'.size := by simpa using hj
  have := hs i j (Nat.zero_le _) hij (by omega)
  rw [getElem!_pos d' j hj', getElem!_pos d' i hi'] at this
  simpa [Go.Proofs.ltOf] using this

set_option maxHeartbeats 1000000 in
theorem sortE {α : Type} [Inhabited α] {enc : α → List Value} {k : Nat} {ρ : Go.Shelf.Ren} (L : Go.Proofs.SlLaysF0.n6 Try.prog ρ) (aE : ∀ w, (isAgg (ρ.t 24)).run Try.prog w = .ok true w) (zE : ∀ w, (Go.sizeOf (ρ.t 24)).run Try.prog w = .ok k w)
    (hk : ∀ x, (enc x).length = k) (hpos : 0 < k) (h1 : ∀ x, ∀ v ∈ enc x, v.oneCell' = true) (f : α → α → Int) (hf : Go.Sort.SWO (Go.Proofs.ltOf f)) (gf : Nat)
    (eg : ∀ args w, (callFunc gf args).run Try.prog w = .ok (.enter gf args) w)
    (hc : ∀ w x y, Calls Try.prog gf #[.agg (enc x).toArray, .agg (enc y).toArray] w fun e w' => e = .returned (.int .i64 (f x y)) ∧ ∃ n os, w' = Go.Sort.grow (w.drewN n) os)
    (w : World) (base : Nat) (e : TypeId) (v : Value) (l : List α) (hl : l.length ≤ 1000) (hbase : base ≤ w.heap.size) (h : w.ownsRow base e k v l.length (l.flatMap enc)) :
    Calls Try.prog (ρ.f 6) #[v, .func (.func gf) #[] #[]] w
      fun e' w' => e' = .returned (.tuple #[]) ∧ ∃ l' : List α, l'.Perm l ∧ (l'.Pairwise fun p q => ¬ f q p < 0) ∧ w'.ownsRow base e k v l'.length (l'.flatMap enc) ∧ Below base w w' ∧ w.grownBy w' v.ownBlock := by
  rcases h.2 with ⟨rfl, hn⟩ | ⟨g, cap, cur, rfl, hgb, hg, hn, hm, hs, ht⟩
  · have hl0 : l = [] := List.length_eq_zero_iff.1 hn
    subst hl0
    refine (Go.Proofs.AnyF.slices_SortFunc_none L none 0 (.func (.func gf) #[] #[]) w).mono ?_
    rintro e' w' ⟨rfl, rfl⟩
    exact ⟨rfl, [], List.Perm.refl _, List.Pairwise.nil, h, Below.refl _ _, ⟨rfl, rfl, rfl, Nat.le_refl _, fun _ _ _ => rfl⟩⟩
  · have hK := own_holdsK hk hpos h
    have hgl : g < w.heap.size := blk_lt hg
    have hn := Go.Proofs.AnyQ.slices_SortFunc L k aE zE enc hk h1 f hf gf #[] g 0 cap l.toArray w eg (fun _ _ _ _ x y => hc _ x y) hK hgl (by simp; omega)
    have hsz : l.toArray.size = l.length := by simp
    rw [hsz] at hn
    refine hn.mono ?_
    rintro e' w' ⟨rfl, d', n, os, hp, hs', rfl⟩
    rw [← hsz] at hp hs'
    obtain ⟨e1, e2, e3⟩ := perm_sortedE hp hs'
    have hgr := grown_sortE (enc := enc) (k := k) (w := w) g 0 n d' os
    refine ⟨rfl, d'.toList, e2, e3, own_sortedE hk hpos h d' e1 n os, (Below.refl base w).grown hgr hbase (fun j hj => by simp at hj; omega), hgr⟩
end Go.Proofs.Ytdkncnfcgcfopab

/- slices.SortFunc at places by the difference of their nodes, where these are small. -/
namespace Go.Proofs.Ytdkncnfcgcfopab
open Go.ChangeShapes Go.WideShapes Go.ChangeAt Go.RowKit
open Orangery (Pl)

/-- places of small nodes -/
abbrev Sp : Type := { p : Pl // 0 ≤ p.1 ∧ p.1 ≤ 1000 }
def encS (x : Sp) : List Value := encPl x.1
def subS (x y : Sp) : Int := x.1.1 - y.1.1

theorem subS_lt (x y : Sp) : subS x y < 0 ↔ x.1.1 < y.1.1 := by unfold subS; omega
theorem swoSub : Go.Sort.SWO (Go.Proofs.ltOf subS) := by
  refine ⟨fun x => ?_, fun x y z h1 h2 => ?_, fun x y z h1 h2 => ?_⟩
  · have : ¬ subS x x < 0 := by rw [subS_lt]; omega
    simpa [Go.Proofs.ltOf] using this
  · simp only [Go.Proofs.ltOf, decide_eq_true_eq, subS_lt] at *
    omega
  · simp only [Go.Proofs.ltOf, decide_eq_false_iff_not, subS_lt] at *
    omega

theorem again1_any (w : World) (x y : Sp) :
    Calls Try.prog 31 #[plV x.1, plV y.1] w fun e w' => e = .returned (.int .i64 (subS x y)) ∧ ∃ n os, w' = Go.Sort.grow (w.drewN n) os := by
  have HS : Hid (subS x y = x.1.1 - y.1.1) := rfl
  obtain ⟨⟨a0, a1, a2⟩, h1, h2⟩ := x
  obtain ⟨⟨b0, b1, b2⟩, h3, h4⟩ := y
  simp only at h1 h2 h3 h4
  have hw : IntKind.i64.wrap (a0 - b0) = a0 - b0 := by rw [IntKind.wrap_i64]; omega
  go_enter Try.func31, Try.ntmps31
  go_wp2
  go_ret
  exact ⟨ret_int (by rw [HS.out]), 0, _, by rw [Go.Sort.alloc_eq_grow, Go.Sort.alloc_eq_grow, Go.Sort.grow_grow]; rfl⟩

theorem sp_list : ∀ l : List Pl, (∀ p ∈ l, 0 ≤ p.1 ∧ p.1 ≤ 1000) → ∃ s : List Sp, s.map (·.1) = l := by
  intro l
  induction l with
  | nil => intro _; exact ⟨[], rfl⟩
  | cons p l ih =>
    intro h
    obtain ⟨s, hs⟩ := ih (fun q hq => h q (by simp [hq]))
    exact ⟨⟨p, h p (by simp)⟩ :: s, by rw [List.map_cons, hs]⟩
theorem sp_flat (s : List Sp) : (s.map (·.1)).flatMap encPl = s.flatMap encS := by
  rw [List.flatMap_map]
  rfl

theorem sort_diff (w : World) (base : Nat) (v : Value) (l : List Pl) (hl : l.length ≤ 1000) (hbase : base ≤ w.heap.size) (hb : ∀ p ∈ l, 0 ≤ p.1 ∧ p.1 ≤ 1000) (h : OwnE encPl 3 45 w base v l) :
    Calls Try.prog 30 #[v, .func (.func 31) #[] #[]] w
      fun e w' => e = .returned (.tuple #[]) ∧ ∃ l', l'.Perm l ∧ (l'.Pairwise fun p q => p.1 ≤ q.1) ∧ OwnE encPl 3 45 w' base v l' ∧ Below base w w' := by
  obtain ⟨s, rfl⟩ := sp_list l hb
  haveI : Inhabited Sp := ⟨⟨(0, 0, 0), by decide⟩⟩
  have h' : w.ownsRow base 45 3 v s.length (s.flatMap encS) := by
    have h1 : w.ownsRow base 45 3 v (s.map (·.1)).length ((s.map (·.1)).flatMap encPl) := h
    rw [sp_flat, List.length_map] at h1
    exact h1
  have hn := sortE (enc := encS) Try.sortPl Try.isAgg45 Try.sizeOf45 (fun _ => rfl) (by omega) (fun x => encPl_one x.1) subS swoSub 31 (Go.Proofs.enters_of Try.func31 (by kernel_rfl) rfl) (fun w x y => again1_any w x y) w base 45 v s (by simpa using hl) hbase h'
  change Calls Try.prog 30 _ _ _ at hn
  refine hn.mono ?_
  rintro e w' ⟨rfl, s', h1, h2, h3, h4, _⟩
  refine ⟨rfl, s'.map (·.1), h1.map _, ?_, ?_, h4⟩
  · rw [List.pairwise_map]
    exact h2.imp (fun {p q} hh => by unfold subS at hh; omega)
  · show w'.ownsRow base 45 3 v (s'.map (·.1)).length ((s'.map (·.1)).flatMap encPl)
    rw [sp_flat, List.length_map]
    exact h3
end Go.Proofs.Ytdkncnfcgcfopab

/- orangeryref.table: places laid out by node. -/
namespace Go.Proofs.Ytdkncnfcgcfopab
open Go.ChangeShapes Go.WideShapes Go.ChangeAt Go.RowKit
open Orangery (Pl Mv Stp outL inL tabAt find scan)

/-- the places of a table -/
def tabL (t : Nat → Pl) : List Pl := (List.range 16).map t
/-- the value of a table -/
def tabV (t : Nat → Pl) : Value := .agg ((tabL t).flatMap encPl).toArray

theorem tabL_len (t : Nat → Pl) : (tabL t).length = 16 := by simp [tabL]
theorem tabL_get (t : Nat → Pl) (i : Nat) (h : i < (tabL t).length) : (tabL t)[i] = t i := by simp [tabL]
theorem tabL_set (t u : Nat → Pl) (k : Nat) (p : Pl) (h1 : u k = p) (h2 : ∀ n, n ≠ k → u n = t n) : (tabL t).set k p = tabL u := by
  apply List.ext_getElem
  · simp [tabL]
  · intro i hi hi'
    rw [List.getElem_set, tabL_get]
    by_cases hik : k = i
    · subst hik; rw [if_pos rfl, tabL_get, h1]
    · rw [if_neg hik, tabL_get, h2 i (by omega)]

theorem HoldsP.set1 {w : World} {g : Nat} {m : List Pl} (h : HoldsP w g m) (i : Nat) (hi : i < m.length) (x : Int) :
    HoldsP (w.setCell ⟨g, i * 3 + 1, none⟩ (.int .i64 x)) g (m.set i (m[i].1, x, m[i].2.2)) := by
  obtain ⟨hp, hf⟩ := h
  refine ⟨?_, ?_⟩
  · intro k hk
    have hk' : k < m.length := by simpa using hk
    have h0 := hp i hi
    have h1 := hp k hk'
    simp only [Nat.zero_add] at h0 h1 ⊢
    by_cases hik : i = k
    · subst hik
      simp only [List.getElem_set_self]
      refine ⟨?_, ?_, ?_⟩
      · rw [World.cell?_setCell_other _ _ _ _ (by simp), h0.1]
      · rw [World.cell?_setCell_same _ _ _ h0.2.1]
      · rw [World.cell?_setCell_other _ _ _ _ (by simp), h0.2.2]
    · rw [List.getElem_set_ne hik]
      refine ⟨?_, ?_, ?_⟩
      all_goals
        rw [World.cell?_setCell_other _ _ _ _ (by simp <;> omega)]
      · exact h1.1
      · exact h1.2.1
      · exact h1.2.2
  · intro k hk
    simp only [World.frozen?_setCell]
    exact hf k (by simpa using hk)

theorem HoldsP.range {w : World} {g : Nat} {m : List Pl} (h : HoldsP w g m) : w.rangeAt g 0 (m.flatMap encPl) := by
  intro j v hv
  have := pls_flat h.1 j v hv
  rw [Addr.add_mid] at this
  exact this

theorem HoldsP.of_range {w : World} {g : Nat} {m : List Pl} (h : w.rangeAt g 0 (m.flatMap encPl)) (hf : ∀ i, i < m.length * 3 → w.frozen? ⟨g, i, none⟩ = false) : HoldsP w g m := by
  refine ⟨fun i hi => ?_, hf⟩
  obtain ⟨h0, h1, h2⟩ := flat_get m i hi
  exact ⟨h _ _ h0, h _ _ h1, h _ _ h2⟩

theorem HoldsP.there {w : World} {g : Nat} {m : List Pl} (h : HoldsP w g m) : w.there g 0 (m.length * 3) := by
  intro j hj
  have hr := h.range.isSome j (by rw [flat_len]; exact hj)
  exact ⟨hr, by rw [Nat.zero_add]; exact h.2 j hj⟩

theorem HoldsP.other {w : World} {g b : Nat} {m : List Pl} (h : HoldsP w g m) (hne : g ≠ b) (j : Nat) (v : Value) : HoldsP (w.setCell ⟨b, j, none⟩ v) g m := by
  refine ⟨fun i hi => ?_, fun i hi => by simp only [World.frozen?_setCell]; exact h.2 i hi⟩
  rw [World.cell?_setCell_other _ _ _ _ (by simp <;> omega), World.cell?_setCell_other _ _ _ _ (by simp <;> omega), World.cell?_setCell_other _ _ _ _ (by simp <;> omega)]
  exact h.1 i hi

theorem Blk.holds {w : World} {b : Nat} {m : List Pl} (h : Blk w b (m.flatMap encPl)) : HoldsP w b m :=
  HoldsP.of_range (fun j v hv => by rw [Nat.zero_add]; exact h.at j hv) (fun i _ => h.frz i)

theorem infoTable : (Try.prog.info? 118).map (·.size) = some 48 := by kernel_rfl

theorem tab_step (l : List Pl) (j : Nat) (hj : j < l.length) (hs : scan 0 l = 0) (n : Nat) : tabAt (l.take (j + 1)) n = if (n : Int) = l[j].1 then l[j] else tabAt (l.take j) n := by
  obtain ⟨h1, h2⟩ := (Orangery.scan0_iff l).1 hs
  have hr := (Orangery.inRangeB_iff _).1 (h1 l[j] (List.getElem_mem hj))
  have h2' := List.pairwise_iff_getElem.1 h2
  have hf : find (l.take (j + 1)) n = if (n : Int) = l[j].1 then l[j] else find (l.take j) n := by
    rw [List.take_succ_eq_append_getElem hj]
    by_cases hn : (n : Int) = l[j].1
    · rw [if_pos hn, Orangery.find_append, Orangery.find_cons, if_pos hn.symm]
      intro q hq
      obtain ⟨i, hi, rfl⟩ := List.getElem_of_mem hq
      rw [List.getElem_take]
      have := h2' i j (by simp at hi; omega) hj (by simp at hi; omega)
      omega
    · rw [if_neg hn, Orangery.find_front]
      intro q hq
      simp at hq
      subst hq
      omega
  unfold tabAt
  rw [hf]
  by_cases hn : (n : Int) = l[j].1
  · rw [if_pos hn, if_pos hn, if_neg (by omega)]
  · rw [if_neg hn, if_neg hn]

set_option maxHeartbeats 1000000 in
theorem table_any (w : World) (a : Option Addr) (c : Nat) (l : List Pl) (hl : l.length ≤ 1000) (h : SlP w a l) (hs : scan 0 l = 0) :
    Calls Try.prog 88 #[.slice a l.length c] w
      fun e w' => e = .returned (tabV fun n => tabAt l n) ∧ Below w.heap.size w w' := by
  go_enter Try.func88, Try.ntmps88
  go_wp2
  obtain ⟨W0, hW, h0, h1, hB, hS⟩ := laid2 w ((tabL fun _ => (0, 0, 0)).flatMap encPl) 118 ((tabL fun _ => (0, 0, 0)).flatMap encPl) 118
  replace hW : (w.alloc (Obj.cells #[Value.int IntKind.i64 0, Value.int IntKind.i64 0, Value.int IntKind.i64 0, Value.int IntKind.i64 0, Value.int IntKind.i64 0, Value.int IntKind.i64 0, Value.int IntKind.i64 0, Value.int IntKind.i64 0, Value.int IntKind.i64 0, Value.int IntKind.i64 0, Value.int IntKind.i64 0, Value.int IntKind.i64 0, Value.int IntKind.i64 0, Value.int IntKind.i64 0, Value.int IntKind.i64 0, Value.int IntKind.i64 0, Value.int IntKind.i64 0, Value.int IntKind.i64 0, Value.int IntKind.i64 0, Value.int IntKind.i64 0, Value.int IntKind.i64 0, Value.int IntKind.i64 0, Value.int IntKind.i64 0, Value.int IntKind.i64 0, Value.int IntKind.i64 0, Value.int IntKind.i64 0, Value.int IntKind.i64 0, Value.int IntKind.i64 0, Value.int IntKind.i64 0, Value.int IntKind.i64 0, Value.int IntKind.i64 0, Value.int IntKind.i64 0, Value.int IntKind.i64 0, Value.int IntKind.i64 0, Value.int IntKind.i64 0, Value.int IntKind.i64 0, Value.int IntKind.i64 0, Value.int IntKind.i64 0, Value.int IntKind.i64 0, Value.int IntKind.i64 0, Value.int IntKind.i64 0, Value.int IntKind.i64 0, Value.int IntKind.i64 0, Value.int IntKind.i64 0, Value.int IntKind.i64 0, Value.int IntKind.i64 0, Value.int IntKind.i64 0, Value.int IntKind.i64 0] 118)).alloc (Obj.cells #[Value.int IntKind.i64 0, Value.int IntKind.i64 0, Value.int IntKind.i64 0, Value.int IntKind.i64 0, Value.int IntKind.i64 0, Value.int IntKind.i64 0, Value.int IntKind.i64 0, Value.int IntKind.i64 0, Value.int IntKind.i64 0, Value.int IntKind.i64 0, Value.int IntKind.i64 0, Value.int IntKind.i64 0, Value.int IntKind.i64 0, Value.int IntKind.i64 0, Value.int IntKind.i64 0, Value.int IntKind.i64 0, Value.int IntKind.i64 0, Value.int IntKind.i64 0, Value.int IntKind.i64 0, Value.int IntKind.i64 0, Value.int IntKind.i64 0, Value.int IntKind.i64 0, Value.int IntKind.i64 0, Value.int IntKind.i64 0, Value.int IntKind.i64 0, Value.int IntKind.i64 0, Value.int IntKind.i64 0, Value.int IntKind.i64 0, Value.int IntKind.i64 0, Value.int IntKind.i64 0, Value.int IntKind.i64 0, Value.int IntKind.i64 0, Value.int IntKind.i64 0, Value.int IntKind.i64 0, Value.int IntKind.i64 0, Value.int IntKind.i64 0, Value.int IntKind.i64 0, Value.int IntKind.i64 0, Value.int IntKind.i64 0, Value.int IntKind.i64 0, Value.int IntKind.i64 0, Value.int IntKind.i64 0, Value.int IntKind.i64 0, Value.int IntKind.i64 0, Value.int IntKind.i64 0, Value.int IntKind.i64 0, Value.int IntKind.i64 0, Value.int IntKind.i64 0] 118) = W0 := hW
  rw [hW]
  clear hW
  have HR : Hid (HoldsP W0 w.heap.size (tabL fun _ => (0, 0, 0))) := h0.holds
  have HT : Hid (HoldsP W0 (w.heap.size + 1) (tabL fun _ => (0, 0, 0))) := h1.holds
  have HP : Hid (SlP w a l) := h
  have HB : Hid (Below w.heap.size w W0) := hB
  have HS : Hid (scan 0 l = 0) := hs
  clear h0 h1 h hB hs
  go_loopw [7] (fun x W => ∃ k : Nat, k ≤ 16 ∧ x = .int .i64 k ∧ HoldsP W (w.heap.size + 1) (tabL fun n => (0, if n < k then -1 else 0, 0)) ∧ Below (w.heap.size + 1) W0 W) (fun x _ => 16 - (intOf x).toNat)
  case atStart => exact ⟨0, by omega, rfl, HT.out, Below.refl _ _⟩
  case round =>
    obtain ⟨k, hk, rfl, hH, hb⟩ := hrel
    have HH : Hid (HoldsP wr (w.heap.size + 1) (tabL fun n => (0, if n < k then -1 else 0, 0))) := hH
    by_cases hlt : k < 16
    · have hc := (hH.1 k (by rw [tabL_len]; exact hlt)).2.1
      have hf := hH.2 (k * 3 + 1) (by rw [tabL_len]; omega)
      simp only [Nat.zero_add] at hc
      clear hH
      go_wp2
      go_roundw
      case rel =>
        refine ⟨k + 1, by omega, by go_num, ?_, hb.setCell (by show _ ≤ w.heap.size + 1; omega) _⟩
        have h1 := HH.out.set1 k (by rw [tabL_len]; exact hlt) (-1)
        rw [tabL_get] at h1
        rw [tabL_set _ (fun n => (0, if n < k + 1 then -1 else 0, 0)) k] at h1
        · exact h1
        · simp
        · intro n hn
          by_cases h2 : n < k
          · simp [h2, show n < k + 1 by omega]
          · simp [h2, show ¬ n < k + 1 by omega]
      case measure => simp [intOf]; omega
    · have hk16 : k = 16 := by omega
      subst hk16
      clear hH
      have HT2 : Hid (HoldsP wr (w.heap.size + 1) (tabL fun n => tabAt (l.take 0) n)) := by
        show HoldsP _ _ _
        have e : (tabL fun n => tabAt (l.take 0) n) = tabL fun n => (0, if n < 16 then -1 else 0, 0) := by rw [List.take_zero]; decide
        rw [e]
        exact HH.out
      clear HH HT
      go_wp2
      rename World => W1
      go_loopw [16] (fun x W => ∃ k : Nat, k ≤ l.length ∧ x = .int .i64 k ∧ HoldsP W (w.heap.size + 1) (tabL fun n => tabAt (l.take k) n) ∧ Below (w.heap.size + 1) W0 W) (fun x _ => l.length - (intOf x).toNat)
      case atStart => exact ⟨0, by omega, rfl, HT2.out, hb⟩
      case round =>
        obtain ⟨k, hk', rfl, hH, hb2⟩ := hrel
        clear hb HT2
        have HH : Hid (HoldsP wr (w.heap.size + 1) (tabL fun n => tabAt (l.take k) n)) := hH
        by_cases hlt : k < l.length
        · have hbw : Below w.heap.size w wr := HB.out.trans (hb2.mono (by omega))
          have hPW : SlP wr a l := HP.out.below hbw
          rcases hPW with h' | ⟨b, off, rfl, hbl, hp⟩
          · exact absurd hlt (by simp [h'])
          have hr := (Orangery.inRangeB_iff _).1 ((Orangery.scan0_iff l).1 HS.out |>.1 l[k] (List.getElem_mem hlt))
          have HST : Hid (∀ n : Nat, tabAt (l.take (k + 1)) n = if (n : Int) = l[k].1 then l[k] else tabAt (l.take k) n) := tab_step l k hlt HS.out
          obtain ⟨g0, g1, g2⟩ := hp k hlt
          obtain ⟨m, hm⟩ : ∃ m : Nat, l[k].1 = m := ⟨l[k].1.toNat, by omega⟩
          have hm16 : m < 16 := by omega
          have hc := hH.1 m (by rw [tabL_len]; exact hm16)
          simp only [Nat.zero_add] at hc
          obtain ⟨x0, x1, x2⟩ := hc
          have f0 := hH.2 (m * 3) (by rw [tabL_len]; omega)
          have f1 := hH.2 (m * 3 + 1) (by rw [tabL_len]; omega)
          have f2 := hH.2 (m * 3 + 2) (by rw [tabL_len]; omega)
          have hlt2 : w.heap.size + 1 < wr.heap.size := by have := hb2.size; omega
          rw [hm] at g0
          have HM : Hid (l[k].1 = m) := hm
          clear hH hm hr hp
          go_wp2
          go_roundw
          case rel =>
            have h1 := HH.out.set m (by rw [tabL_len]; exact hm16) ((m : Int), l[k].2.1, l[k].2.2)
            rw [tabL_set _ (fun n => tabAt (l.take (k + 1)) n) m] at h1
            · exact ⟨k + 1, by omega, by go_num, h1.below (by simpa using hlt2) (Go.Joins.below_alloc1 _ _), (((hb2.setCell (by show _ ≤ w.heap.size + 1; omega) _).setCell (by show _ ≤ w.heap.size + 1; omega) _).setCell (by show _ ≤ w.heap.size + 1; omega) _).alloc (by simp; omega) _⟩
            · show tabAt (l.take (k + 1)) (m : Int) = _
              rw [HST.out, if_pos HM.out.symm, ← HM.out]
            · intro n hn
              show tabAt (l.take (k + 1)) (n : Int) = _
              rw [HST.out, if_neg (by rw [HM.out]; omega)]
          case measure => simp [intOf]; omega
        · have hkl : k = l.length := by omega
          subst hkl
          rw [List.take_length] at hH
          have hR : HoldsP wr w.heap.size (tabL fun _ => (0, 0, 0)) := by
            have h1 := HR.out
            exact ⟨fun i hi => by rw [hb2.cell (by show w.heap.size < _; omega), hb2.cell (by show w.heap.size < _; omega), hb2.cell (by show w.heap.size < _; omega)]; exact h1.1 i hi, fun i hi => by rw [hb2.frozen (by show w.heap.size < _; omega)]; exact h1.2 i hi⟩
          have hrg : wr.rangeAt (w.heap.size + 1) 0 ((tabL fun n => tabAt l n).flatMap encPl) := hH.range
          have hth : wr.there w.heap.size 0 ((tabL fun n => tabAt l n).flatMap encPl).length := by
            have := hR.there
            rw [tabL_len] at this
            rw [flat_len, tabL_len]
            exact this
          have HRG : Hid (wr.rangeAt (w.heap.size + 1) 0 ((tabL fun n => tabAt l n).flatMap encPl)) := hrg
          have HTH : Hid (wr.there w.heap.size 0 ((tabL fun n => tabAt l n).flatMap encPl).length) := hth
          have HI : Hid ((Try.prog.info? 118).map (·.size) = some ((tabL fun n => tabAt l n).flatMap encPl).length) := by show _ = _; rw [infoTable, flat_len, tabL_len]
          have HON : Hid (((tabL fun n => tabAt l n).flatMap encPl).toArray.all (·.oneCell') = true) := all_oneCell_toArray (flat_one _)
          have HV : Hid (tabV (fun n => tabAt l n) = .agg ((tabL fun n => tabAt l n).flatMap encPl).toArray) := rfl
          clear hH hrg hth hR HH
          generalize (tabL fun n => tabAt l n).flatMap encPl = cs at *
          go_wp2_with (first | (refine wpList_load_mid rfl 118 _ rfl (w.heap.size + 1) 0 rfl cs _ HRG.out Try.underlying118 rfl HI.out ?_) | (refine wpList_store_mid rfl 118 _ _ rfl w.heap.size 0 cs.toArray rfl rfl HTH.out HI.out HON.out ?_))
          have hld := run_loadVar_mid (P := Try.prog) (wr.setCells w.heap.size 0 cs) w.heap.size 0 118 cs _ (World.rangeAt_setCells_same wr w.heap.size 0 cs HTH.out) Try.underlying118 rfl HI.out
          refine bodyPost_ret (v := .agg cs.toArray) ?_ rfl ⟨by rw [HV.out], ?_⟩
          · simp [results, Try.results88, Act.put, asAddr, hld]
          · exact below_sets (HB.out.trans (hb2.mono (by omega))) _ (by omega) _ _
end Go.Proofs.Ytdkncnfcgcfopab

/- orangeryref.table of places in whatever order: of one node the last one counts. -/
namespace Go.Proofs.Ytdkncnfcgcfopab
open Go.ChangeShapes Go.WideShapes Go.ChangeAt Go.RowKit
open Orangery (Pl Mv Stp outL inL tabLast find scan)

set_option maxHeartbeats 1000000 in
theorem table_gen (w : World) (a : Option Addr) (c : Nat) (l : List Pl) (hl : l.length ≤ 1000) (h : SlP w a l) (hs : ∀ p ∈ l, 0 ≤ p.1 ∧ p.1 ≤ 15) :
    Calls Try.prog 88 #[.slice a l.length c] w
      fun e w' => e = .returned (tabV fun n => tabLast l n) ∧ Below w.heap.size w w' := by
  go_enter Try.func88, Try.ntmps88
  go_wp2
  obtain ⟨W0, hW, h0, h1, hB, hS⟩ := laid2 w ((tabL fun _ => (0, 0, 0)).flatMap encPl) 118 ((tabL fun _ => (0, 0, 0)).flatMap encPl) 118
  replace hW : (w.alloc (Obj.cells #[Value.int IntKind.i64 0, Value.int IntKind.i64 0, Value.int IntKind.i64 0, Value.int IntKind.i64 0, Value.int IntKind.i64 0, Value.int IntKind.i64 0, Value.int IntKind.i64 0, Value.int IntKind.i64 0, Value.int IntKind.i64 0, Value.int IntKind.i64 0, Value.int IntKind.i64 0, Value.int IntKind.i64 0, Value.int IntKind.i64 0, Value.int IntKind.i64 0, Value.int IntKind.i64 0, Value.int IntKind.i64 0, Value.int IntKind.i64 0, Value.int IntKind.i64 0, Value.int IntKind.i64 0, Value.int IntKind.i64 0, Value.int IntKind.i64 0, Value.int IntKind.i64 0, Value.int IntKind.i64 0, Value.int IntKind.i64 0, Value.int IntKind.i64 0, Value.int IntKind.i64 0, Value.int IntKind.i64 0, Value.int IntKind.i64 0, Value.int IntKind.i64 0, Value.int IntKind.i64 0, Value.int IntKind.i64 0, Value.int IntKind.i64 0, Value.int IntKind.i64 0, Value.int IntKind.i64 0, Value.int IntKind.i64 0, Value.int IntKind.i64 0, Value.int IntKind.i64 0, Value.int IntKind.i64 0, Value.int IntKind.i64 0, Value.int IntKind.i64 0, Value.int IntKind.i64 0, Value.int IntKind.i64 0, Value.int IntKind.i64 0, Value.int IntKind.i64 0, Value.int IntKind.i64 0, Value.int IntKind.i64 0, Value.int IntKind.i64 0, Value.int IntKind.i64 0] 118)).alloc (Obj.cells #[Value.int IntKind.i64 0, Value.int IntKind.i64 0, Value.int IntKind.i64 0, Value.int IntKind.i64 0, Value.int IntKind.i64 0, Value.int IntKind.i64 0, Value.int IntKind.i64 0, Value.int IntKind.i64 0, Value.int IntKind.i64 0, Value.int IntKind.i64 0, Value.int IntKind.i64 0, Value.int IntKind.i64 0, Value.int IntKind.i64 0, Value.int IntKind.i64 0, Value.int IntKind.i64 0, Value.int IntKind.i64 0, Value.int IntKind.i64 0, Value.int IntKind.i64 0, Value.int IntKind.i64 0, Value.int IntKind.i64 0, Value.int IntKind.i64 0, Value.int IntKind.i64 0, Value.int IntKind.i64 0, Value.int IntKind.i64 0, Value.int IntKind.i64 0, Value.int IntKind.i64 0, Value.int IntKind.i64 0, Value.int IntKind.i64 0, Value.int IntKind.i64 0, Value.int IntKind.i64 0, Value.int IntKind.i64 0, Value.int IntKind.i64 0, Value.int IntKind.i64 0, Value.int IntKind.i64 0, Value.int IntKind.i64 0, Value.int IntKind.i64 0, Value.int IntKind.i64 0, Value.int IntKind.i64 0, Value.int IntKind.i64 0, Value.int IntKind.i64 0, Value.int IntKind.i64 0, Value.int IntKind.i64 0, Value.int IntKind.i64 0, Value.int IntKind.i64 0, Value.int IntKind.i64 0, Value.int IntKind.i64 0, Value.int IntKind.i64 0, Value.int IntKind.i64 0] 118) = W0 := hW
  rw [hW]
  clear hW
  have HR : Hid (HoldsP W0 w.heap.size (tabL fun _ => (0, 0, 0))) := h0.holds
  have HT : Hid (HoldsP W0 (w.heap.size + 1) (tabL fun _ => (0, 0, 0))) := h1.holds
  have HP : Hid (SlP w a l) := h
  have HB : Hid (Below w.heap.size w W0) := hB
  have HS : Hid (∀ p ∈ l, 0 ≤ p.1 ∧ p.1 ≤ 15) := hs
  clear h0 h1 h hB hs
  go_loopw [7] (fun x W => ∃ k : Nat, k ≤ 16 ∧ x = .int .i64 k ∧ HoldsP W (w.heap.size + 1) (tabL fun n => (0, if n < k then -1 else 0, 0)) ∧ Below (w.heap.size + 1) W0 W) (fun x _ => 16 - (intOf x).toNat)
  case atStart => exact ⟨0, by omega, rfl, HT.out, Below.refl _ _⟩
  case round =>
    obtain ⟨k, hk, rfl, hH, hb⟩ := hrel
    have HH : Hid (HoldsP wr (w.heap.size + 1) (tabL fun n => (0, if n < k then -1 else 0, 0))) := hH
    by_cases hlt : k < 16
    · have hc := (hH.1 k (by rw [tabL_len]; exact hlt)).2.1
      have hf := hH.2 (k * 3 + 1) (by rw [tabL_len]; omega)
      simp only [Nat.zero_add] at hc
      clear hH
      go_wp2
      go_roundw
      case rel =>
        refine ⟨k + 1, by omega, by go_num, ?_, hb.setCell (by show _ ≤ w.heap.size + 1; omega) _⟩
        have h1 := HH.out.set1 k (by rw [tabL_len]; exact hlt) (-1)
        rw [tabL_get] at h1
        rw [tabL_set _ (fun n => (0, if n < k + 1 then -1 else 0, 0)) k] at h1
        · exact h1
        · simp
        · intro n hn
          by_cases h2 : n < k
          · simp [h2, show n < k + 1 by omega]
          · simp [h2, show ¬ n < k + 1 by omega]
      case measure => simp [intOf]; omega
    · have hk16 : k = 16 := by omega
      subst hk16
      clear hH
      have HT2 : Hid (HoldsP wr (w.heap.size + 1) (tabL fun n => tabLast (l.take 0) n)) := by
        show HoldsP _ _ _
        have e : (tabL fun n => tabLast (l.take 0) n) = tabL fun n => (0, if n < 16 then -1 else 0, 0) := by rw [List.take_zero]; decide
        rw [e]
        exact HH.out
      clear HH HT
      go_wp2
      rename World => W1
      go_loopw [16] (fun x W => ∃ k : Nat, k ≤ l.length ∧ x = .int .i64 k ∧ HoldsP W (w.heap.size + 1) (tabL fun n => tabLast (l.take k) n) ∧ Below (w.heap.size + 1) W0 W) (fun x _ => l.length - (intOf x).toNat)
      case atStart => exact ⟨0, by omega, rfl, HT2.out, hb⟩
      case round =>
        obtain ⟨k, hk', rfl, hH, hb2⟩ := hrel
        clear hb HT2
        have HH : Hid (HoldsP wr (w.heap.size + 1) (tabL fun n => tabLast (l.take k) n)) := hH
        by_cases hlt : k < l.length
        · have hbw : Below w.heap.size w wr := HB.out.trans (hb2.mono (by omega))
          have hPW : SlP wr a l := HP.out.below hbw
          rcases hPW with h' | ⟨b, off, rfl, hbl, hp⟩
          · exact absurd hlt (by simp [h'])
          have hr := HS.out l[k] (List.getElem_mem hlt)
          have HST : Hid (∀ n : Nat, tabLast (l.take (k + 1)) n = if (n : Int) = l[k].1 then l[k] else tabLast (l.take k) n) := fun n => Orangery.tabLast_take l k hlt n
          obtain ⟨g0, g1, g2⟩ := hp k hlt
          obtain ⟨m, hm⟩ : ∃ m : Nat, l[k].1 = m := ⟨l[k].1.toNat, by omega⟩
          have hm16 : m < 16 := by omega
          have hc := hH.1 m (by rw [tabL_len]; exact hm16)
          simp only [Nat.zero_add] at hc
          obtain ⟨x0, x1, x2⟩ := hc
          have f0 := hH.2 (m * 3) (by rw [tabL_len]; omega)
          have f1 := hH.2 (m * 3 + 1) (by rw [tabL_len]; omega)
          have f2 := hH.2 (m * 3 + 2) (by rw [tabL_len]; omega)
          have hlt2 : w.heap.size + 1 < wr.heap.size := by have := hb2.size; omega
          rw [hm] at g0
          have HM : Hid (l[k].1 = m) := hm
          clear hH hm hr hp
          go_wp2
          go_roundw
          case rel =>
            have h1 := HH.out.set m (by rw [tabL_len]; exact hm16) ((m : Int), l[k].2.1, l[k].2.2)
            rw [tabL_set _ (fun n => tabLast (l.take (k + 1)) n) m] at h1
            · exact ⟨k + 1, by omega, by go_num, h1.below (by simpa using hlt2) (Go.Joins.below_alloc1 _ _), (((hb2.setCell (by show _ ≤ w.heap.size + 1; omega) _).setCell (by show _ ≤ w.heap.size + 1; omega) _).setCell (by show _ ≤ w.heap.size + 1; omega) _).alloc (by simp; omega) _⟩
            · show tabLast (l.take (k + 1)) (m : Int) = _
              rw [HST.out, if_pos HM.out.symm, ← HM.out]
            · intro n hn
              show tabLast (l.take (k + 1)) (n : Int) = _
              rw [HST.out, if_neg (by rw [HM.out]; omega)]
          case measure => simp [intOf]; omega
        · have hkl : k = l.length := by omega
          subst hkl
          rw [List.take_length] at hH
          have hR : HoldsP wr w.heap.size (tabL fun _ => (0, 0, 0)) := by
            have h1 := HR.out
            exact ⟨fun i hi => by rw [hb2.cell (by show w.heap.size < _; omega), hb2.cell (by show w.heap.size < _; omega), hb2.cell (by show w.heap.size < _; omega)]; exact h1.1 i hi, fun i hi => by rw [hb2.frozen (by show w.heap.size < _; omega)]; exact h1.2 i hi⟩
          have hrg : wr.rangeAt (w.heap.size + 1) 0 ((tabL fun n => tabLast l n).flatMap encPl) := hH.range
          have hth : wr.there w.heap.size 0 ((tabL fun n => tabLast l n).flatMap encPl).length := by
            have := hR.there
            rw [tabL_len] at this
            rw [flat_len, tabL_len]
            exact this
          have HRG : Hid (wr.rangeAt (w.heap.size + 1) 0 ((tabL fun n => tabLast l n).flatMap encPl)) := hrg
          have HTH : Hid (wr.there w.heap.size 0 ((tabL fun n => tabLast l n).flatMap encPl).length) := hth
          have HI : Hid ((Try.prog.info? 118).map (·.size) = some ((tabL fun n => tabLast l n).flatMap encPl).length) := by show _ = _; rw [infoTable, flat_len, tabL_len]
          have HON : Hid (((tabL fun n => tabLast l n).flatMap encPl).toArray.all (·.oneCell') = true) := all_oneCell_toArray (flat_one _)
          have HV : Hid (tabV (fun n => tabLast l n) = .agg ((tabL fun n => tabLast l n).flatMap encPl).toArray) := rfl
          clear hH hrg hth hR HH
          generalize (tabL fun n => tabLast l n).flatMap encPl = cs at *
          go_wp2_with (first | (refine wpList_load_mid rfl 118 _ rfl (w.heap.size + 1) 0 rfl cs _ HRG.out Try.underlying118 rfl HI.out ?_) | (refine wpList_store_mid rfl 118 _ _ rfl w.heap.size 0 cs.toArray rfl rfl HTH.out HI.out HON.out ?_))
          have hld := run_loadVar_mid (P := Try.prog) (wr.setCells w.heap.size 0 cs) w.heap.size 0 118 cs _ (World.rangeAt_setCells_same wr w.heap.size 0 cs HTH.out) Try.underlying118 rfl HI.out
          refine bodyPost_ret (v := .agg cs.toArray) ?_ rfl ⟨by rw [HV.out], ?_⟩
          · simp [results, Try.results88, Act.put, asAddr, hld]
          · exact below_sets (HB.out.trans (hb2.mono (by omega))) _ (by omega) _ _
end Go.Proofs.Ytdkncnfcgcfopab

/- orangeryref.places: the places of a table. -/
namespace Go.Proofs.Ytdkncnfcgcfopab
open Go.ChangeShapes Go.WideShapes Go.ChangeAt Go.RowKit
open Orangery (Pl rows)

theorem flat_part (l : List Pl) : ∀ i, (h : i < l.length) → ((l.flatMap encPl).drop (i * 3)).take 3 = encPl l[i] := by
  induction l with
  | nil => intro i h; simp at h
  | cons p l ih =>
    intro i h
    cases i with
    | zero => simp [encPl]
    | succ i =>
      have e : (i + 1) * 3 = (encPl p).length + i * 3 := by simp [encPl]; omega
      have e2 : (encPl p).drop ((encPl p).length + i * 3) = [] := List.drop_of_length_le (by omega)
      rw [List.flatMap_cons, e, List.drop_append, e2, List.nil_append, Nat.add_sub_cancel_left]
      simpa using ih i (by simpa using h)

theorem run_index_tab (t : Nat → Pl) (k : Nat) (hk : k < 16) (w : World) : (Instr.index 118 (tabV t) (.int .i64 k)).run Try.prog w = .ok (plV (t k)) w := by
  have hu := Try.underlying118
  have ha := Try.isAgg45
  have hz := Try.sizeOf45
  have hx : ((((tabL t).flatMap encPl).drop (k * 3)).take 3) = [.int .i64 (t k).1, .int .i64 (t k).2.1, .int .i64 (t k).2.2] := by
    have h1 := flat_part (tabL t) k (by rw [tabL_len]; exact hk)
    rw [tabL_get] at h1
    exact h1
  have hlt : (0 : Int) ≤ k ∧ (k : Int) < 16 := by omega
  unfold Instr.index tabV
  go_simp

set_option maxHeartbeats 1000000 in
set_option maxRecDepth 100000 in
theorem places_any (w : World) (t : Nat → Pl) :
    Calls Try.prog 87 #[tabV t] w
      fun e w' => ∃ v, e = .returned v ∧ OwnS w' w.heap.size v (rows t 16) ∧ Below w.heap.size w w' := by
  have hlen : ((tabL t).flatMap encPl).length = 48 := by rw [flat_len, tabL_len]
  unfold tabV
  generalize hcs : (tabL t).flatMap encPl = cs at *
  have HCS : Hid ((tabL t).flatMap encPl = cs) := hcs
  clear hcs
  have hix : ∀ (k : Nat) (W : World), k < 16 → (Instr.index 118 (.agg cs.toArray) (.int .i64 k)).run Try.prog W = .ok (plV (t k)) W := fun k W hk => by
    rw [← HCS.out]
    exact run_index_tab t k hk W
  have HI : Hid ((Try.prog.info? 118).map (·.size) = some cs.length) := by show _ = _; rw [infoTable, hlen]
  have hN := Blk.new w cs 118
  have hB := Go.Joins.below_alloc1 w (Obj.cells cs.toArray 118)
  have HN : Hid ((w.alloc (Obj.cells cs.toArray 118)).rangeAt w.heap.size 0 cs) := fun j v hv => by rw [Nat.zero_add]; exact hN.at j hv
  clear hN
  go_enter Try.func87, Try.ntmps87
  obtain ⟨i0, hi, hz0, hz1, hz2⟩ := info_parts infoPlace
  go_wp2_with (first | (refine wpList_load_mid rfl 118 _ rfl w.heap.size 0 rfl cs _ HN.out Try.underlying118 rfl HI.out ?_))
  generalize hW : w.alloc (Obj.cells cs.toArray 118) = W0 at hB
  have hS : W0.heap.size = w.heap.size + 1 := by subst hW; simp
  clear hW HN HI HCS hlen
  go_loopw [3, 7] (fun v i W => ∃ k : Nat, k ≤ 16 ∧ i = .int .i64 k ∧ W.ownsRow W0.heap.size 45 3 v (rows t k).length ((rows t k).flatMap encPl) ∧ Below W0.heap.size W0 W) (fun _ i _ => 16 - (intOf i).toNat)
  case atStart => exact ⟨0, by omega, rfl, World.ownsRow_nil _ _ _ _, Below.refl _ _⟩
  case round =>
    obtain ⟨k, hk, rfl, hown, hb⟩ := hrel
    have hkl := Orangery.rows_len t k
    by_cases hlt : k < 16
    · have HS : Hid (rows t (k + 1) = rows t k ++ if 0 < k ∧ 0 ≤ (t k).2.1 then [t k] else []) := Orangery.rows_succ t k
      have hixk : ∀ W, (Instr.index 118 (.agg cs.toArray) (.int .i64 k)).run Try.prog W = .ok (plV (t k)) W := fun W => hix k W hlt
      have HIX : Hid (∀ (k : Nat) (W : World), k < 16 → (Instr.index 118 (.agg cs.toArray) (.int .i64 k)).run Try.prog W = .ok (plV (t k)) W) := hix
      clear hix
      generalize hq : t k = q at *
      obtain ⟨q0, q1, q2⟩ := q
      clear hq
      generalize rows t k = K at *
      have hown1 := hown.alloc (Obj.cells #[Value.int IntKind.i64 q0, Value.int IntKind.i64 q1, Value.int IntKind.i64 q2] 45)
      have hb1 := hb.alloc hb.size (Obj.cells #[Value.int IntKind.i64 q0, Value.int IntKind.i64 q1, Value.int IntKind.i64 q2] 45)
      by_cases h0 : 0 < k
      · have d0 : decide ((k : Int) > 0) = true := by simp; omega
        by_cases h1 : 0 ≤ q1
        · have d1 : decide (q1 ≥ 0) = true := by simpa using h1
          have HF : Hid ((if 0 < k ∧ 0 ≤ ((q0, q1, q2) : Pl).2.1 then [((q0, q1, q2) : Pl)] else []) = [(q0, q1, q2)]) := by show _ = _; rw [if_pos ⟨h0, h1⟩]
          have hown2 := hown1.alloc (Obj.cells #[Value.int IntKind.i64 q0, Value.int IntKind.i64 q1, Value.int IntKind.i64 q2] 45)
          have hb3 := hb1.alloc (by simp; exact Nat.le_succ_of_le hb.size) (Obj.cells #[Value.int IntKind.i64 q0, Value.int IntKind.i64 q1, Value.int IntKind.i64 q2] 45)
          clear hown hown1
          go_wp2_with (at_builtin; refine wpList_append_own _ rfl _ _ 24 rfl W0.heap.size 45 i0 _ 3 24 Try.underlying24 hi hz0 hz1 hz2 rfl (by decide) _ _ _ rfl hown2 ⟨wr.heap.size + 1, 0, none⟩ 1 1 [.int .i64 q0, .int .i64 q1, .int .i64 q2] rfl rfl ?c1 ?c2 ?c3 ?c4 ?c5 ?_)
          case c2 => exact ⟨rfl, rfl, rfl⟩
          case c3 => unfold maxLen; omega
          case c4 => omega
          case c5 => have := hb.size; omega
          · intro v' w4 hown' hgrow _
            have hb4 := hb3.trans (below_grown hown2 hb3.size hgrow)
            clear hgrow hown2
            go_wp2
            go_roundw
            case rel =>
              refine ⟨k + 1, hlt, by go_num, ?_, hb4⟩
              rw [HS.out, HF.out, hS]
              simpa [encPl] using hown'
            case measure => simp [intOf]; omega
        · have d1 : decide (q1 ≥ 0) = false := by simpa using h1
          have HF : Hid ((if 0 < k ∧ 0 ≤ ((q0, q1, q2) : Pl).2.1 then [((q0, q1, q2) : Pl)] else []) = []) := by show _ = _; rw [if_neg (fun hh => h1 hh.2)]
          go_wp2
          go_roundw
          case rel =>
            refine ⟨k + 1, hlt, by go_num, ?_, hb1⟩
            rw [HS.out, HF.out, List.append_nil]
            exact hown1
          case measure => simp [intOf]; omega
      · have d0 : decide ((k : Int) > 0) = false := by simp; omega
        have HF : Hid ((if 0 < k ∧ 0 ≤ ((q0, q1, q2) : Pl).2.1 then [((q0, q1, q2) : Pl)] else []) = []) := by show _ = _; rw [if_neg (fun hh => h0 hh.1)]
        go_wp2
        go_roundw
        case rel =>
          refine ⟨k + 1, hlt, by go_num, ?_, hb1⟩
          rw [HS.out, HF.out, List.append_nil]
          exact hown1
        case measure => simp [intOf]; omega
    · have hk' : k = 16 := by omega
      subst hk'
      have hO := own_pls hown
      clear hown
      go_wp2
      go_ret
      exact ⟨_, rfl, hO.mono (by omega), hB.trans (hb.mono (by omega))⟩
end Go.Proofs.Ytdkncnfcgcfopab

/- slices.Contains at ints, orangeryref.CheckRoots, orangeryref.AllOf. -/
namespace Go.Proofs.Ytdkncnfcgcfopab
open Go.ChangeShapes Go.WideShapes Go.ChangeAt Go.RowKit
open Orangery (Pl isNodeB rootsE rootsOk hasB togL scan tabLast rows)

theorem indexI_nil (w : World) (a : Option Addr) (c : Nat) (x : Int) :
    Calls Try.prog 65 #[.slice a 0 c, .int .i64 x] w fun e w' => e = .returned (.int .i64 (-1)) ∧ w' = w := by
  go_enter Try.func65, Try.ntmps65
  go_wp2
  go_loop [8] (fun i => i = .int .i64 0) (fun _ => 0)
  case atStart => rfl
  case round =>
    subst hrel
    go_wp2
    go_ret
    exact ⟨rfl, rfl⟩

theorem containsI_any (w : World) (a : Option Addr) (c : Nat) (x : Int) (l : List Int) (hl : l.length ≤ maxLen) (h : SlI w a l) :
    Calls Try.prog 34 #[.slice a l.length c, .int .i64 x] w fun e w' => e = .returned (.bool (hasB x l)) ∧ w' = w := by
  rcases h with rfl | ⟨b, off, rfl, _, hp⟩
  · go_enter Try.func34, Try.ntmps34
    go_wp2_with fail
    refine (indexI_nil w a c x).mono ?_
    rintro e w1 ⟨rfl, rfl⟩
    go_wp2
    go_ret
    exact ⟨rfl, rfl⟩
  · exact contains_ints w b off c l.length x l rfl hl hp

set_option maxHeartbeats 1000000 in
theorem rroots_any (w : World) (a : Option Addr) (c : Nat) (l : List Int) (hl : l.length ≤ maxLen) (h : SlI w a l) :
    Calls Try.prog 24 #[.slice a l.length c] w fun e w' => e = .returned (.int .i64 (rootsOk l)) ∧ w' = w := by
  have hl' : l.length ≤ 9223372036854775807 := hl
  by_cases h4 : 4 < l.length
  · have d4 : decide ((l.length : Int) > 4) = true := by simp; omega
    have HE : Hid (rootsOk l = 2) := by show _ = _; unfold rootsOk; rw [if_pos h4]
    clear h4
    go_enter Try.func24, Try.ntmps24
    go_wp2
    go_ret
    exact ⟨ret_int HE.out.symm, rfl⟩
  · have d4 : decide ((l.length : Int) > 4) = false := by simp; omega
    have HE : Hid (rootsOk l = rootsE (-1) l) := by show _ = _; unfold rootsOk; rw [if_neg h4]
    go_enter Try.func24, Try.ntmps24
    go_wp2
    go_loop [3, 11] (fun x i => ∃ (k : Nat) (m : Int), k ≤ l.length ∧ x = .int .i64 m ∧ i = .int .i64 k ∧ rootsE m (l.drop k) = rootsE (-1) l) (fun _ i => l.length - (intOf i).toNat)
    case atStart => exact ⟨0, -1, Nat.zero_le _, rfl, rfl, rfl⟩
    case round =>
      obtain ⟨k, m, hk, rfl, rfl, hf⟩ := hrel
      by_cases hlt : k < l.length
      · obtain ⟨s1, s2, s3⟩ := Orangery.rootsE_step l k _ hlt hf
        have H1 : Hid (isNodeB l[k] = false → rootsE (-1) l = 5) := s1
        have H2 : Hid (isNodeB l[k] = true → l[k] ≤ m → rootsE (-1) l = 6) := s2
        have H3 : Hid (isNodeB l[k] = true → ¬ l[k] ≤ m → rootsE l[k] (l.drop (k + 1)) = rootsE (-1) l) := s3
        clear s1 s2 s3 hf
        obtain ⟨b, off, rfl, hbl, g0⟩ := h.at k hlt
        generalize l[k] = x at *
        by_cases hn : isNodeB x = true
        · have hn' := (Orangery.isNodeB_iff _).1 hn
          obtain ⟨n1, n2⟩ := hn'
          by_cases hq : x ≤ m
          · have HF : Hid (rootsE (-1) l = 6) := H2.out hn hq
            clear H1 H2 H3 hn
            go_wp2
            go_ret
            exact ⟨ret_int (by rw [HE.out, HF.out]), rfl⟩
          · have HF : Hid (rootsE x (l.drop (k + 1)) = rootsE (-1) l) := H3.out hn hq
            clear H1 H2 H3 hn
            go_wp2
            go_round
            case rel => exact ⟨k + 1, x, hlt, rfl, by go_num, HF.out⟩
            case measure => simp [intOf]; omega
        · have hn' : isNodeB x = false := by simpa using hn
          have HF : Hid (rootsE (-1) l = 5) := H1.out hn'
          have hx : ¬ (0 ≤ x ∧ x ≤ 16) := fun e => hn ((Orangery.isNodeB_iff _).2 e)
          clear H1 H2 H3 hn hn'
          by_cases h0 : 0 ≤ x
          · have h1 : ¬ x ≤ 16 := fun e => hx ⟨h0, e⟩
            clear hx
            go_wp2
            go_ret
            exact ⟨ret_int (by rw [HE.out, HF.out]), rfl⟩
          · clear hx
            go_wp2
            go_ret
            exact ⟨ret_int (by rw [HE.out, HF.out]), rfl⟩
      · have hk' : l.drop k = [] := by simp; omega
        rw [hk'] at hf
        have HF : Hid (rootsE (-1) l = 0) := hf.symm
        clear hf hk'
        go_wp2
        go_ret
        exact ⟨ret_int (by rw [HE.out, HF.out]), rfl⟩

set_option maxHeartbeats 2000000 in
set_option maxRecDepth 100000 in
theorem rallof_any (w : World) (aK aV : Option Addr) (cK cV : Nat) (K V : List Pl) (r : Value) (hK : scan 0 K = 0) (hV : scan 0 V = 0) (hc1 : aK = none → cK = 0) (hc2 : aV = none → cV = 0) (h1 : SlP w aK K) (h2 : SlP w aV V) :
    Calls Try.prog 60 #[viV r (.slice aK K.length cK) (.slice aV V.length cV)] w
      fun e w' => ∃ v, e = .returned (.agg #[v]) ∧ OwnS w' w.heap.size v (togL K V) ∧ Below w.heap.size w w' := by
  have hKl : K.length ≤ 15 := by have := Orangery.scan_len K 0 hK (by omega); omega
  have hVl : V.length ≤ 15 := by have := Orangery.scan_len V 0 hV (by omega); omega
  have HN : Hid (∀ p ∈ K ++ V, 0 ≤ p.1 ∧ p.1 ≤ 15) := by
    intro p hp
    rcases List.mem_append.1 hp with hp | hp
    · have := (Orangery.inRangeB_iff p).1 (Orangery.scan_range K 0 hK p hp).1; omega
    · have := (Orangery.inRangeB_iff p).1 (Orangery.scan_range V 0 hV p hp).1; omega
  have HT : Hid (rows (fun n => tabLast (K ++ V) n) 16 = togL K V) := Orangery.tog_rows K V hK hV
  obtain ⟨W0, hW0, hX, hR, hQ, hB, hS⟩ := laid3 w [r, Value.slice aK K.length cK, Value.slice aV V.length cV] 55 [Value.slice none 0 0] 26 [Value.slice aK K.length cK, Value.slice aV V.length cV] 24
  have hP1 := h1.below hB
  have hP2 := h2.below hB
  have HB : Hid (Below w.heap.size w W0) := hB
  clear h1 h2 hK hV hB hX
  go_enter Try.func60, Try.ntmps60
  go_wp2_with fail
  clear hW0
  refine (concatPls_any W0 (w.heap.size + 1 + 1) aK aV cK cV K V (by omega) (by omega) hc1 hc2 (hQ.at 0 rfl) (hQ.at 1 rfl) hP1 hP2).mono ?_
  rintro e w1 ⟨v1, rfl, hO1, hb1⟩
  obtain ⟨a1, c1, rfl, hp1, _⟩ := hO1.val
  have hr1 := hO1.reads.1
  have hJl : (K ++ V).length ≤ 1000 := by simp; omega
  generalize K ++ V = J at *
  have hR1 := hR.keep hb1
  have HB1 : Hid (Below w.heap.size w w1) := HB.out.trans (hb1.mono HB.out.size)
  clear hP1 hP2 hR hQ hO1 hp1 HB
  go_wp2_with fail
  refine (table_gen w1 a1 c1 J hJl hr1 HN.out).mono ?_
  rintro e w2 ⟨rfl, hb2⟩
  have hR2 := hR1.keep hb2
  have HB2 : Hid (Below w.heap.size w w2) := HB1.out.trans (hb2.mono HB1.out.size)
  have hsz2 : W0.heap.size ≤ w2.heap.size := Nat.le_trans hb1.size hb2.size
  clear hR1 HB1 hb2 hr1 hb1
  have HPL : Hid (Calls Try.prog 87 #[tabV fun n => tabLast J n] w2 fun e w' => ∃ v, e = .returned v ∧ OwnS w' w2.heap.size v (rows (fun n => tabLast J n) 16) ∧ Below w2.heap.size w2 w') := places_any w2 _
  generalize (tabV fun n => tabLast J n) = tv at *
  go_wp2_with fail
  refine HPL.out.mono ?_
  rintro e w3 ⟨v3, rfl, hO3, hb3⟩
  rw [HT.out] at hO3
  have hO4 := hO3.mono (base' := w.heap.size + 1 + 1) (by omega)
  obtain ⟨a3, c3, rfl⟩ := hO4.val
  have hR3 := hR2.keep hb3
  have HB3 : Hid (Below w.heap.size w w3) := HB2.out.trans (hb3.mono HB2.out.size)
  have HO : Hid (OwnS w3 (w.heap.size + 1 + 1) (.slice a3 (togL K V).length c3) (togL K V)) := hO4
  have HRf : Hid (Blk (w3.setCell ⟨w.heap.size + 1, 0, none⟩ (.slice a3 (togL K V).length c3)) (w.heap.size + 1) [.slice a3 (togL K V).length c3]) := hR3.set 0 (by simp) _
  have r0 := hR3.at 0 rfl
  have rf := hR3.frz
  clear hO3 hO4 hR2 hR3 hb3 HB2
  go_wp2
  refine ret_cell Try.results60 rfl HRf.out.tree ⟨_, rfl, ?_, ?_⟩
  · exact (HO.out.other _ (by omega) _ _).mono (by omega)
  · exact HB3.out.setCell (by show _ ≤ w.heap.size + 1; omega) _
end Go.Proofs.Ytdkncnfcgcfopab

