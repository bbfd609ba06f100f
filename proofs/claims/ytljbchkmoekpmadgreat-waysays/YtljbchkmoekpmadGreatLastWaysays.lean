/- WaySays returns true for every list of mail, every mail, number and Boolean, and every other list of mail: any mail is checked, sent, taken, held against other mail, as the reference says, errors too. Its condition: no list of an argument weighs more than the reach that every row has (the sized builder). -/
import Derived.SizedLaws
import Derived.Test.YtljbchkmoekpmadGreatP18
import Derived.Test.YtljbchkmoekpmadGreatP10
/- Mail that came in as an argument: its lists, and what they weigh. -/
namespace Go.Proofs.YtljbchkmoekpmadGreat
open Go.ChangeShapes Go.WideShapes Go.ChangeAt Go.RowKit
open Orangery (Pl Mv Vw Dl Ml noVw noDl noMl)

theorem weights_mem_all {H : Type} {P : Program} {e : TypeId} {d : DataW H} {n : Nat} (hn : n ∈ d.weights P e) : ∀ {l : List (DataW H)}, d ∈ l → n ∈ DataW.weightsAll P e l
  | [], h => by simp at h
  | x :: l, h => by
    simp only [DataW.weightsAll, List.mem_append]
    rcases List.mem_cons.1 h with rfl | h
    · exact Or.inl hn
    · exact Or.inr (weights_mem_all hn h)
/-- a slice of such elements that came in, where each weighs no more than the reach -/
theorem open_slZ {α : Type} [Inhabited α] {enc : α → List Value} {k : Nat} {H : Type} {en : TypeId × Value → H} {w : World} {base fuel : Nat} {spare : Nat → Bool} {held : Bool} {v : Value} {x : DataW H × List MemPlace} {t e : TypeId}
    (hk : ∀ x, (enc x).length = k) (hpos : 0 < k) (ht : Tryz.prog.underlying t = some (.slice e)) (hC : Tryz.prog.cellsOf e = k)
    (hel : ∀ (n : Nat) (cs : List Value) (y : DataW H × List MemPlace), DataW.trod en Tryz.prog w base spare held n e cs = some y → (y.1.weights Tryz.prog e).all (· ≤ reachBytes) = true → ∃ z : α, cs = enc z)
    (h : DataW.trod en Tryz.prog w base spare held fuel t [v] = some x) (hz : (x.1.weights Tryz.prog t).all (· ≤ reachBytes) = true) : ∃ a c, ∃ l : List α, v = .slice a l.length c ∧ l.length ≤ maxLen ∧ l.length ≤ c ∧ c ≤ maxLen ∧ SlE enc w a l := by
  rcases Go.Deep.open_slice ht h with ⟨hcs, _⟩ | ⟨a, len, cap, m, n, D, Pq, hcs, _, hle, hm, hmm, hxx, hx⟩
  · simp at hcs
    subst hcs
    exact ⟨none, 0, [], rfl, by simp, by simp, by simp, Or.inl rfl⟩
  · simp at hcs
    subst hcs
    have hlm : len ≤ m := by rw [hmm]; split <;> omega
    have key : ∀ i, i < len → ∃ z : α, ∀ (j : Nat) (v : Value), (enc z)[j]? = some v → w.cell? ((a.add (i * k)).add j) = some v := by
      intro i hi
      obtain ⟨cs', h1, h2⟩ := hx i (by omega)
      rw [hC] at h1
      obtain ⟨z, rfl⟩ := hel _ _ _ h2 (List.all_eq_true.2 fun q hq => List.all_eq_true.1 hz q (by
        subst hxx
        simp only [DataW.weights, ht]
        refine List.mem_cons_of_mem _ (List.mem_append.2 (Or.inl ?_))
        exact weights_mem_all hq (List.mem_map.2 ⟨i, List.mem_range.2 hi, rfl⟩)))
      exact ⟨z, (cells_range h1).2⟩
    obtain ⟨f, hf⟩ := Go.Deep.choose_lt key
    refine ⟨some a, cap, (List.range len).map f, by simp, by simp; omega, by simp; omega, hm, ?_⟩
    by_cases hz : len = 0
    · exact Or.inl (by simp [hz])
    · right
      obtain ⟨u, hu⟩ : ∃ u, (enc (f 0))[0]? = some u := ⟨_, List.getElem?_eq_getElem (by rw [hk]; exact hpos)⟩
      have h0 := hf 0 (by omega) 0 u hu
      obtain ⟨b, off, spot⟩ := a
      have hspot : spot = none := by simpa [Addr.add] using World.cell?_spot h0
      subst hspot
      have hb : b < w.heap.size := by
        have := World.block_lt_of_cell? w _ h0
        rw [Addr.add_mid, Addr.add_mid] at this
        exact this
      refine ⟨b, off, rfl, hb, fun j v hv => ?_⟩
      have hj : j < len * k := by
        have := (List.getElem?_eq_some_iff.1 hv).1
        rw [flatE_len hk] at this
        simpa using this
      have hi : j / k < len := (Nat.div_lt_iff_lt_mul hpos).2 hj
      have hc : j % k < k := Nat.mod_lt _ hpos
      have e1 : j / k * k + j % k = j := by rw [Nat.mul_comm]; exact Nat.div_add_mod j k
      have e2 := flatE_get hk ((List.range len).map f) (j / k) (by simpa using hi) (j % k) hc
      rw [e1, hv] at e2
      have e3 := hf (j / k) hi (j % k) v (by simpa using e2.symm)
      rw [Addr.add_mid, Addr.add_mid] at e3
      rw [show off + j = off + j / k * k + j % k by omega]
      exact e3
theorem list21 {cs : List Value} (h : cs.length = 21) : ∃ a0 a1 a2 a3 a4 a5 a6 a7 a8 a9 b0 b1 b2 b3 b4 b5 b6 b7 b8 b9 c0, cs = [a0, a1, a2, a3, a4, a5, a6, a7, a8, a9, b0, b1, b2, b3, b4, b5, b6, b7, b8, b9, c0] := by
  match cs, h with
  | [a0, a1, a2, a3, a4, a5, a6, a7, a8, a9, b0, b1, b2, b3, b4, b5, b6, b7, b8, b9, c0], _ => exact ⟨a0, a1, a2, a3, a4, a5, a6, a7, a8, a9, b0, b1, b2, b3, b4, b5, b6, b7, b8, b9, c0, rfl⟩
theorem few_of {n k : Nat} {l : List Nat} (hk : 8 ≤ k) (hz : l.all (· ≤ reachBytes) = true) {m : Nat} (hm : n ≤ m) (hw : m * k ∈ l) : n ≤ 17592186043904 := by
  have h := List.all_eq_true.1 hz _ hw
  have h2 : m * k ≤ reachBytes := by simpa using h
  have h3 : m * 8 ≤ m * k := Nat.mul_le_mul_left m hk
  unfold reachBytes at h2
  omega

set_option maxHeartbeats 2000000 in
set_option maxRecDepth 100000 in
theorem open_mlC {H : Type} {enc : TypeId × Value → H} {w : World} {base fuel : Nat} {spare : Nat → Bool} {held : Bool} {cs : List Value} {x : DataW H × List MemPlace}
    (h : DataW.trod enc Tryz.prog w base spare held fuel 74 cs = some x) (hz : (x.1.weights Tryz.prog 74).all (· ≤ reachBytes) = true) : ∃ z : Mm, cs = mlC z ∧ MlIn w z := by
  obtain ⟨xs, n, _, hd, hl, hlen, hg⟩ := DataW.trod_struct Tryz.underlying74 h
  have hC : Tryz.prog.cellsOf 74 = 21 := by kernel_rfl
  have hI : Tryz.prog.cellsOf 3 = 1 := by kernel_rfl
  have hD : Tryz.prog.cellsOf 31 = 1 := by kernel_rfl
  have hF : Tryz.prog.cellsOf 23 = 1 := by kernel_rfl
  have hO : Tryz.prog.cellsOf 35 = 7 := by kernel_rfl
  have hV : Tryz.prog.cellsOf 42 = 3 := by kernel_rfl
  have hE : Tryz.prog.cellsOf 72 = 4 := by kernel_rfl
  have hbI : Tryz.prog.bytesOf 3 = 8 := by kernel_rfl
  have hbP : Tryz.prog.bytesOf 64 = 24 := by kernel_rfl
  rw [hC] at hl
  obtain ⟨a0, a1, a2, a3, a4, a5, a6, a7, a8, a9, b0, b1, b2, b3, b4, b5, b6, b7, b8, b9, c0, rfl⟩ := list21 hl
  have hx : xs.length = 10 := hlen
  have g0 := hg 0 _ rfl
  have g1 := hg 1 _ rfl
  have g2 := hg 2 _ rfl
  have g3 := hg 3 _ rfl
  have g4 := hg 4 _ rfl
  have g5 := hg 5 _ rfl
  have g6 := hg 6 _ rfl
  have g7 := hg 7 _ rfl
  have g8 := hg 8 _ rfl
  have g9 := hg 9 _ rfl
  clear hg h
  simp [hI, hO, hV, hE] at g0 g1 g2 g3 g4 g5 g6 g7 g8 g9
  rw [List.getElem?_eq_getElem (by omega)] at g0 g1 g2 g3 g4 g5 g6 g7 g8 g9
  obtain ⟨k, e0, _, _⟩ := DataW.trod_int Tryz.underlying3 g0
  obtain ⟨u, e1, _, _⟩ := DataW.trod_int Tryz.underlying3 g1
  obtain ⟨f, e2, _, _⟩ := DataW.trod_int Tryz.underlying3 g2
  obtain ⟨s, e3, _, _⟩ := DataW.trod_int Tryz.underlying3 g3
  obtain ⟨t, e4, _, _⟩ := DataW.trod_int Tryz.underlying3 g4
  obtain ⟨nn, e5, _, _⟩ := DataW.trod_int Tryz.underlying3 g5
  obtain ⟨p, e6, _, _⟩ := DataW.trod_int Tryz.underlying3 g6
  simp at e0 e1 e2 e3 e4 e5 e6
  subst e0 e1 e2 e3 e4 e5 e6
  obtain ⟨o, ho⟩ := open_opC g7
  simp [opC] at ho
  obtain ⟨rfl, rfl, rfl, rfl, rfl, rfl, rfl⟩ := ho
  obtain ⟨ys, n8, _, hd8, _, hlen8, hg8⟩ := DataW.trod_struct Tryz.underlying42 g8
  obtain ⟨zs, n9, _, hd9, _, hlen9, hg9⟩ := DataW.trod_struct Tryz.underlying72 g9
  have hy : ys.length = 3 := hlen8
  have hzl : zs.length = 4 := hlen9
  have h0 := hg8 0 _ rfl
  have h1 := hg8 1 _ rfl
  have h2 := hg8 2 _ rfl
  have h3 := hg9 0 _ rfl
  have h4 := hg9 1 _ rfl
  have h5 := hg9 2 _ rfl
  have h6 := hg9 3 _ rfl
  clear hg8 hg9
  simp [hD, hF] at h0 h1 h2 h3 h4 h5 h6
  rw [List.getElem?_eq_getElem (by omega)] at h0 h1 h2 h3 h4 h5 h6
  have e : x.1 = .agg (xs.map (·.1)) := congrArg Prod.fst hd
  have e8' : (xs[8]'(by omega)).1 = .agg (ys.map (·.1)) := congrArg Prod.fst hd8
  have e9' : (xs[9]'(by omega)).1 = .agg (zs.map (·.1)) := congrArg Prod.fst hd9
  have mR : ∀ q ∈ (ys[0]'(by omega)).1.weights Tryz.prog 31, q ∈ x.1.weights Tryz.prog 74 := by
    intro q hq
    rw [e]
    simp only [DataW.weights, Tryz.underlying74]
    refine DataW.weights_mem_each (j := 8) (d := (xs[8]'(by omega)).1) rfl (by rw [List.getElem?_map, List.getElem?_eq_getElem (by omega)]; rfl) _ ?_
    rw [e8']
    simp only [DataW.weights, Tryz.underlying42]
    exact DataW.weights_mem_each (j := 0) (d := (ys[0]'(by omega)).1) rfl (by rw [List.getElem?_map, List.getElem?_eq_getElem (by omega)]; rfl) _ hq
  have mK : ∀ q ∈ (ys[1]'(by omega)).1.weights Tryz.prog 23, q ∈ x.1.weights Tryz.prog 74 := by
    intro q hq
    rw [e]
    simp only [DataW.weights, Tryz.underlying74]
    refine DataW.weights_mem_each (j := 8) (d := (xs[8]'(by omega)).1) rfl (by rw [List.getElem?_map, List.getElem?_eq_getElem (by omega)]; rfl) _ ?_
    rw [e8']
    simp only [DataW.weights, Tryz.underlying42]
    exact DataW.weights_mem_each (j := 1) (d := (ys[1]'(by omega)).1) rfl (by rw [List.getElem?_map, List.getElem?_eq_getElem (by omega)]; rfl) _ hq
  have mV : ∀ q ∈ (ys[2]'(by omega)).1.weights Tryz.prog 23, q ∈ x.1.weights Tryz.prog 74 := by
    intro q hq
    rw [e]
    simp only [DataW.weights, Tryz.underlying74]
    refine DataW.weights_mem_each (j := 8) (d := (xs[8]'(by omega)).1) rfl (by rw [List.getElem?_map, List.getElem?_eq_getElem (by omega)]; rfl) _ ?_
    rw [e8']
    simp only [DataW.weights, Tryz.underlying42]
    exact DataW.weights_mem_each (j := 2) (d := (ys[2]'(by omega)).1) rfl (by rw [List.getElem?_map, List.getElem?_eq_getElem (by omega)]; rfl) _ hq
  have mG : ∀ q ∈ (zs[0]'(by omega)).1.weights Tryz.prog 31, q ∈ x.1.weights Tryz.prog 74 := by
    intro q hq
    rw [e]
    simp only [DataW.weights, Tryz.underlying74]
    refine DataW.weights_mem_each (j := 9) (d := (xs[9]'(by omega)).1) rfl (by rw [List.getElem?_map, List.getElem?_eq_getElem (by omega)]; rfl) _ ?_
    rw [e9']
    simp only [DataW.weights, Tryz.underlying72]
    exact DataW.weights_mem_each (j := 0) (d := (zs[0]'(by omega)).1) rfl (by rw [List.getElem?_map, List.getElem?_eq_getElem (by omega)]; rfl) _ hq
  have mHh : ∀ q ∈ (zs[1]'(by omega)).1.weights Tryz.prog 23, q ∈ x.1.weights Tryz.prog 74 := by
    intro q hq
    rw [e]
    simp only [DataW.weights, Tryz.underlying74]
    refine DataW.weights_mem_each (j := 9) (d := (xs[9]'(by omega)).1) rfl (by rw [List.getElem?_map, List.getElem?_eq_getElem (by omega)]; rfl) _ ?_
    rw [e9']
    simp only [DataW.weights, Tryz.underlying72]
    exact DataW.weights_mem_each (j := 1) (d := (zs[1]'(by omega)).1) rfl (by rw [List.getElem?_map, List.getElem?_eq_getElem (by omega)]; rfl) _ hq
  have mX : ∀ q ∈ (zs[2]'(by omega)).1.weights Tryz.prog 31, q ∈ x.1.weights Tryz.prog 74 := by
    intro q hq
    rw [e]
    simp only [DataW.weights, Tryz.underlying74]
    refine DataW.weights_mem_each (j := 9) (d := (xs[9]'(by omega)).1) rfl (by rw [List.getElem?_map, List.getElem?_eq_getElem (by omega)]; rfl) _ ?_
    rw [e9']
    simp only [DataW.weights, Tryz.underlying72]
    exact DataW.weights_mem_each (j := 2) (d := (zs[2]'(by omega)).1) rfl (by rw [List.getElem?_map, List.getElem?_eq_getElem (by omega)]; rfl) _ hq
  have mY : ∀ q ∈ (zs[3]'(by omega)).1.weights Tryz.prog 23, q ∈ x.1.weights Tryz.prog 74 := by
    intro q hq
    rw [e]
    simp only [DataW.weights, Tryz.underlying74]
    refine DataW.weights_mem_each (j := 9) (d := (xs[9]'(by omega)).1) rfl (by rw [List.getElem?_map, List.getElem?_eq_getElem (by omega)]; rfl) _ ?_
    rw [e9']
    simp only [DataW.weights, Tryz.underlying72]
    exact DataW.weights_mem_each (j := 3) (d := (zs[3]'(by omega)).1) rfl (by rw [List.getElem?_map, List.getElem?_eq_getElem (by omega)]; rfl) _ hq
  obtain ⟨qR, cR, R, rfl, _, _, ⟨_, nR⟩, lR, wR⟩ := open_slW intC_len (by omega) Tryz.underlying31 (by kernel_rfl) (fun n cs y hy => open_intC hy) h0
  obtain ⟨qK, cK, K, rfl, _, _, ⟨_, nK⟩, lK, wK⟩ := open_slW encPl_len (by omega) Tryz.underlying23 (by kernel_rfl) (fun n cs y hy => open_plC hy) h1
  obtain ⟨qV, cV, V, rfl, _, _, ⟨_, nV⟩, lV, wV⟩ := open_slW encPl_len (by omega) Tryz.underlying23 (by kernel_rfl) (fun n cs y hy => open_plC hy) h2
  obtain ⟨qG, cG, G, rfl, _, _, ⟨_, nG⟩, lG, wG⟩ := open_slW intC_len (by omega) Tryz.underlying31 (by kernel_rfl) (fun n cs y hy => open_intC hy) h3
  obtain ⟨qHh, cHh, Hh, rfl, _, _, ⟨_, nHh⟩, lHh, wHh⟩ := open_slW encPl_len (by omega) Tryz.underlying23 (by kernel_rfl) (fun n cs y hy => open_plC hy) h4
  obtain ⟨qX, cX, X, rfl, _, _, ⟨_, nX⟩, lX, wX⟩ := open_slW intC_len (by omega) Tryz.underlying31 (by kernel_rfl) (fun n cs y hy => open_intC hy) h5
  obtain ⟨qY, cY, Y, rfl, _, _, ⟨_, nY⟩, lY, wY⟩ := open_slW encPl_len (by omega) Tryz.underlying23 (by kernel_rfl) (fun n cs y hy => open_plC hy) h6
  have fR : R.length ≤ 17592186043904 := by
    rcases wR with rfl | ⟨m, hm, hw⟩
    · simp
    · rw [hbI] at hw
      exact few_of (by omega) hz hm (mR _ hw)
  have fK : K.length ≤ 17592186043904 := by
    rcases wK with rfl | ⟨m, hm, hw⟩
    · simp
    · rw [hbP] at hw
      exact few_of (by omega) hz hm (mK _ hw)
  have fV : V.length ≤ 17592186043904 := by
    rcases wV with rfl | ⟨m, hm, hw⟩
    · simp
    · rw [hbP] at hw
      exact few_of (by omega) hz hm (mV _ hw)
  have fG : G.length ≤ 17592186043904 := by
    rcases wG with rfl | ⟨m, hm, hw⟩
    · simp
    · rw [hbI] at hw
      exact few_of (by omega) hz hm (mG _ hw)
  have fHh : Hh.length ≤ 17592186043904 := by
    rcases wHh with rfl | ⟨m, hm, hw⟩
    · simp
    · rw [hbP] at hw
      exact few_of (by omega) hz hm (mHh _ hw)
  have fX : X.length ≤ 17592186043904 := by
    rcases wX with rfl | ⟨m, hm, hw⟩
    · simp
    · rw [hbI] at hw
      exact few_of (by omega) hz hm (mX _ hw)
  have fY : Y.length ≤ 17592186043904 := by
    rcases wY with rfl | ⟨m, hm, hw⟩
    · simp
    · rw [hbP] at hw
      exact few_of (by omega) hz hm (mY _ hw)
  exact ⟨(((k, u, f, s, t, nn, p), (_, _, (_, _, _), _, _), (R, K, V), (G, Hh, X, Y)), ((qR, cR), (qK, cK), (qV, cV)), (qG, cG), (qHh, cHh), (qX, cX), (qY, cY)), rfl,
    ⟨sli_of lR, slp_of lK, slp_of lV, sli_of lG, slp_of lHh, sli_of lX, slp_of lY, ⟨fR, fK, fV, fG, fHh, fX, fY⟩, ⟨nK, nV⟩⟩⟩

set_option maxRecDepth 100000 in
/-- one mail that came in -/
theorem open_mail {H : Type} {enc : TypeId × Value → H} {w : World} {r : Reach} {b0 base : Nat} {spare : Nat → Bool} {held : Bool} {v : Value} {d : DataW H} {p : List MemPlace}
    (hv : Value.okWide Tryz.prog w r b0 74 v) (h : DataW.Trod enc Tryz.prog w base spare held 74 v d p) (hz : (d.weights Tryz.prog 74).all (· ≤ reachBytes) = true) : ∃ x : Mm, v = x.val ∧ MlIn w x := by
  obtain ⟨cs, rfl, hsz⟩ := okWide_struct Tryz.underlying74 hv
  obtain ⟨fuel, hf⟩ := h
  obtain ⟨x, e, hx⟩ := open_mlC hf hz
  refine ⟨x, ?_, hx⟩
  have e' : cs.toList = mlC x := e
  have : cs = (mlC x).toArray := by rw [← e']
  rw [this]
set_option maxRecDepth 100000 in
/-- a list of mail that came in -/
theorem open_mails {H : Type} {enc : TypeId × Value → H} {w : World} {r : Reach} {b0 base : Nat} {spare : Nat → Bool} {held : Bool} {v : Value} {d : DataW H} {p : List MemPlace}
    (hv : Value.okWide Tryz.prog w r b0 70 v) (h : DataW.Trod enc Tryz.prog w base spare held 70 v d p) (hz : (d.weights Tryz.prog 70).all (· ≤ reachBytes) = true) :
    ∃ a c, ∃ X : List Mm, v = .slice a X.length c ∧ X.length ≤ maxLen ∧ X.length ≤ c ∧ c ≤ maxLen ∧ SlM w a X := by
  obtain ⟨a', n', c', rfl⟩ := okWide_slice Tryz.underlying70 hv
  obtain ⟨fuel, hf⟩ := h
  haveI : Inhabited {z : Mm // MlIn w z} := ⟨⟨((((0, 0, 0, 0, 0, 0, 0), Orangery.noOp, noVw, noDl), ((none, 0), (none, 0), (none, 0)), ((none, 0), (none, 0), (none, 0), (none, 0))) : Mm), ⟨Or.inl rfl, Or.inl rfl, Or.inl rfl, Or.inl rfl, Or.inl rfl, Or.inl rfl, Or.inl rfl, by simp [noVw, noDl], ⟨fun _ => rfl, fun _ => rfl⟩⟩⟩⟩
  obtain ⟨a, c, l, ev, m0, r0, k0, hS⟩ := open_slZ (enc := fun z : {z : Mm // MlIn w z} => mlC z.1) (fun z => mlC_len z.1) (by omega) Tryz.underlying70 (by kernel_rfl) (fun n cs y hy hz => by
    obtain ⟨z, e, hz⟩ := open_mlC hy hz
    exact ⟨⟨z, hz⟩, e⟩) hf hz
  refine ⟨a, c, l.map (·.1), by rw [ev]; simp, by simpa using m0, by simpa using r0, k0, ?_, ?_⟩
  · rcases hS with rfl | ⟨b, off, e, hb, hr⟩
    · exact Or.inl rfl
    · refine Or.inr ⟨b, off, e, hb, ?_⟩
      rw [List.flatMap_map]
      exact hr
  · intro x hx
    obtain ⟨z, _, rfl⟩ := List.mem_map.1 hx
    exact z.2
theorem sized_at {H : Type} {ts : List TypeId} {ds : List (DataW H)} (h : (DataW.weightsEach Tryz.prog ts ds).all (· ≤ reachBytes) = true) {j : Nat} {ty : TypeId} {d : DataW H} (ht : ts[j]? = some ty) (hd : ds[j]? = some d) : (d.weights Tryz.prog ty).all (· ≤ reachBytes) = true :=
  List.all_eq_true.2 fun x hx => List.all_eq_true.1 h x (DataW.weights_mem_each ht hd _ hx)
end Go.Proofs.YtljbchkmoekpmadGreat

/- WaySays returns true for every list of mail, every mail, number and Boolean, and every other list of mail: any mail is checked, sent, taken, held against other mail, as the reference says, errors too. Its condition: no list of an argument weighs more than the reach that every row has (the sized builder). -/
namespace Go.Proofs.YtljbchkmoekpmadGreat.waySays
open Go.ChangeShapes Go.WideShapes Go.ChangeAt Go.RowKit
set_option linter.unusedVariables false

theorem own : ownKnob Tryz.prog.godebug = none := by kernel_rfl
theorem laidOut : laidOutB Tryz.prog = true := by kernel_rfl

set_option maxHeartbeats 2000000 in
set_option maxRecDepth 100000 in
theorem lifted (os : Os) (started : os.Started) (H : Type) (enc : TypeId × Value → H) :
    ReturnsInHanded {} Tryz.checked os 7 .any (Rows.waySaysSpec.pre6 enc Tryz.prog Tryz.f7 Rows.waySaysRow.domain false) (Rows.waySaysSpec.post enc Tryz.prog Tryz.f7 false true false false) := by
  refine returnsInHanded_of_change_sized (C := Tryz.checked) own started (by kernel_rfl) Tryz.func7
    (ChangeSpec.witness6 (enc := enc) (C := Tryz.checked) false ⟨#[], #[.slice none 0 0, .agg #[.int .i64 0, .int .i64 0, .int .i64 0, .int .i64 0, .int .i64 0, .int .i64 0, .int .i64 0, .int .i64 0, .int .i64 0, .int .i64 0, .int .i64 0, .int .i64 0, .int .i64 0, .int .i64 0, .slice none 0 0, .slice none 0 0, .slice none 0 0, .slice none 0 0, .slice none 0 0, .slice none 0 0, .slice none 0 0], .int .i64 0, .bool false, .slice none 0 0], []⟩ 8 (by kernel_rfl) (by kernel_rfl) (by kernel_rfl) (by kernel_rfl)) ?_
  intro W base args ds gs before hval0 hW hcnd hsz0 _
  have hval : ∀ (j : Nat) t v, Tryz.f7.params[j]? = some t → args[j]? = some v → Value.okWide Tryz.prog W .any base t v := hval0
  have hW' := hW
  obtain ⟨p, q, hA0, hV, rfl, hfz, hnd⟩ := hW
  have hA : DataW.TrodAll enc Tryz.prog W 0 (fun _ => true) true Tryz.f7.params.toList args.toList ds p := hA0
  have hsz : (DataW.weightsEach Tryz.prog (Tryz.f7.params.toList ++ Rows.waySaysSpec.plain.varTypes Tryz.prog) (ds ++ gs)).all (· ≤ reachBytes) = true := hsz0
  rw [Tryz.params7] at hA hval hsz
  obtain ⟨v0, vs0, d0, ds0, p0, q0, hargs, rfl, rfl, h0, r0⟩ := trodAll_cons hA
  obtain ⟨v1, vs1, d1, ds1, p1, q1, rfl, rfl, rfl, h1, r1⟩ := trodAll_cons r0
  obtain ⟨v2, vs2, d2, ds2, p2, q2, rfl, rfl, rfl, h2, r2⟩ := trodAll_cons r1
  obtain ⟨v3, vs3, d3, ds3, p3, q3, rfl, rfl, rfl, h3, r3⟩ := trodAll_cons r2
  obtain ⟨v4, vs4, d4, ds4, p4, q4, rfl, rfl, rfl, h4, r4⟩ := trodAll_cons r3
  obtain ⟨rfl, rfl, rfl⟩ := trodAll_nil r4
  obtain rfl : args = #[v0, v1, v2, v3, v4] := by cases args; simp_all
  obtain ⟨rfl, rfl⟩ := trodVars_none hV
  have k0 := h0
  have lt0 : ∀ x ∈ p0, x.block < W.heap.size := by obtain ⟨m, hm⟩ := k0; exact DataW.trod_lt m _ _ _ hm
  obtain ⟨a0, c0, X0, rfl, m0, rr0, qq0, P0⟩ := open_mails (hval 0 70 v0 rfl rfl) h0 (sized_at hsz (j := 0) rfl rfl)
  have k1 := h1
  have lt1 : ∀ x ∈ p1, x.block < W.heap.size := by obtain ⟨m, hm⟩ := k1; exact DataW.trod_lt m _ _ _ hm
  obtain ⟨x1, rfl, P1⟩ := open_mail (hval 1 74 v1 rfl rfl) h1 (sized_at hsz (j := 1) rfl rfl)
  obtain ⟨x2, rfl, rfl, rfl, g2⟩ := open_int Tryz.underlying3 (hval 2 3 v2 rfl rfl) h2
  obtain ⟨x3, rfl, rfl, rfl⟩ := open_bool Tryz.underlying4 (hval 3 4 v3 rfl rfl) h3
  have k4 := h4
  have lt4 : ∀ x ∈ p4, x.block < W.heap.size := by obtain ⟨m, hm⟩ := k4; exact DataW.trod_lt m _ _ _ hm
  obtain ⟨a4, c4, X4, rfl, m4, rr4, qq4, P4⟩ := open_mails (hval 4 70 v4 rfl rfl) h4 (sized_at hsz (j := 4) rfl rfl)
  clear hA0 hval0
  refine (waySays_any W a0 c0 X0 x1 x2 x3 a4 c4 X4 m0 rr0 P0 P1 P4).mono fun e W' ⟨he, bel⟩ => ?_
  subst he
  exact ⟨_, rfl, _, _, _, [], _, [], hW', trodAll_mk1 (shut_bool Tryz.underlying4 _), (trodAll_cons_mk (Below.trod laidOut (by kernel_rfl) (of_decide_eq_true (by kernel_rfl)) k0 bel lt0) (trodAll_cons_mk (Below.trod laidOut (by kernel_rfl) (of_decide_eq_true (by kernel_rfl)) k1 bel lt1) (trodAll_cons_mk (shut_int Tryz.underlying3 g2) (trodAll_cons_mk (shut_bool Tryz.underlying4 _) (trodAll_cons_mk (Below.trod laidOut (by kernel_rfl) (of_decide_eq_true (by kernel_rfl)) k4 bel lt4) trodAll_mk0))))), rfl, bel.frame _, fun h => by cases h⟩

theorem over : Rows.waySaysRow.holds Tryz.pinned (OpenSpec.ofChange Rows.waySaysSpec) :=
  OpenClaim.holds_of_wide 7 Tryz.f7 rfl rfl rfl rfl rfl rfl rfl ⟨rfl, rfl, rfl, rfl, rfl⟩ rfl rfl rfl rfl rfl (by kernel_rfl) Tryz.func7 (by kernel_rfl)
    (of_decide_eq_true (by kernel_rfl)) (by unfold Func.isWrapper; first | (rw [if_pos (by decide +kernel)]; kernel_rfl) | (rw [if_neg (by decide +kernel)]; exact ⟨rfl, rfl⟩))
    (fun os started H enc _ => lifted os started H enc)

/-- The statement. -/
theorem proved : Rows.WaySaysSaid :=
  over
#print axioms proved
end Go.Proofs.YtljbchkmoekpmadGreat.waySays

