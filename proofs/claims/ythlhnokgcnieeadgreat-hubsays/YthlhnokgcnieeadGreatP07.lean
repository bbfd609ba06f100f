/- 6 texts of the proof: package hub: within, checkPeer; orangeryref's and hub's ways to hold peers against each other; slices.EqualFunc at peers. A hub that is worked into: its box, its row of peers; slices.Clone at steps and at peers; hub.clone. Regions that draw their order, walked step by step: an operation that is not wanted is taken too. An append in a region that draws its order. hub.Same, orangeryref.SameHub; hub. -/
import Derived.Deep.RegionHeld3
import Derived.Laws.AppendOwn
import Derived.Shelf.SlSortFuncK.RowK2
import Derived.Test.YthlhnokgcnieeadGreatP06
import Derived.Test.YthlhnokgcnieeadGreatP05
import Derived.Test.YthlhnokgcnieeadGreatP01
import Derived.Test.YthlhnokgcnieeadGreatP02
/- package hub: within, checkPeer; orangeryref's and hub's ways to hold peers against each other; slices.EqualFunc at peers. -/
namespace Go.Proofs.YthlhnokgcnieeadGreat
open Go.ChangeShapes Go.WideShapes Go.ChangeAt Go.RowKit
open Orangery (Pl Mv Stp Rc Pr Hb peerE peersE rootsOk)

set_option maxHeartbeats 400000 in
theorem uwithin_any (w : World) (n m : Int) :
    Calls Tryz.prog 42 #[.int .i64 n, .int .i64 m] w fun e w' => e = .returned (.bool (decide (0 ≤ n ∧ n ≤ m))) ∧ w' = w := by
  by_cases h1 : 0 ≤ n
  · by_cases h2 : n ≤ m
    · have e : (decide (0 ≤ n ∧ n ≤ m)) = true := by simp; omega
      rw [e]
      go_enter Tryz.func42, Tryz.ntmps42
      go_wp2
      go_ret
      exact ⟨rfl, rfl⟩
    · have e : (decide (0 ≤ n ∧ n ≤ m)) = false := by simp; omega
      rw [e]
      go_enter Tryz.func42, Tryz.ntmps42
      go_wp2
      go_ret
      exact ⟨rfl, rfl⟩
  · have e : (decide (0 ≤ n ∧ n ≤ m)) = false := by simp; omega
    rw [e]
    go_enter Tryz.func42, Tryz.ntmps42
    go_wp2
    go_ret
    exact ⟨rfl, rfl⟩

/-- what peerE says, case by case -/
theorem peerE_life {f q : Int} {R : List Int} (h : ¬ (0 ≤ f ∧ f ≤ 50)) : peerE (f, q, R) = 3 := by
  unfold peerE; rw [if_pos (Or.inl h)]
theorem peerE_seq {f q : Int} {R : List Int} (h : ¬ (0 ≤ q ∧ q ≤ 30)) : peerE (f, q, R) = 3 := by
  unfold peerE; rw [if_pos (Or.inr h)]
theorem peerE_form {f q : Int} {R : List Int} (h1 : 0 ≤ f ∧ f ≤ 50) (h2 : 0 ≤ q ∧ q ≤ 30) (h0 : f = 0) (h : q ≠ 0 ∨ R ≠ []) : peerE (f, q, R) = 4 := by
  unfold peerE; rw [if_neg (by simp only [not_or, Decidable.not_not]; exact ⟨h1, h2⟩), if_pos ⟨h0, h⟩]
theorem peerE_rest {f q : Int} {R : List Int} (h1 : 0 ≤ f ∧ f ≤ 50) (h2 : 0 ≤ q ∧ q ≤ 30) (h : ¬ (f = 0 ∧ (q ≠ 0 ∨ R ≠ []))) : peerE (f, q, R) = rootsOk R := by
  unfold peerE; rw [if_neg (by simp only [not_or, Decidable.not_not]; exact ⟨h1, h2⟩), if_neg h]

set_option maxHeartbeats 1000000 in
theorem ucheckPeer_any (w : World) (x : Pm) (h : PIn w x) :
    Calls Tryz.prog 43 #[x.val] w fun e w' => e = .returned (.int .i64 (peerE x.1)) ∧ Below w.heap.size w w' := by
  obtain ⟨⟨f, q, R⟩, a, c⟩ := x
  obtain ⟨h, hl⟩ := h
  simp only at h hl
  have hl' : R.length ≤ 9223372036854775807 := hl
  have HB : Hid (Below w.heap.size w (w.alloc (Obj.cells #[Value.int IntKind.i64 f, .int .i64 q, .slice a R.length c] 52))) := Go.Joins.below_alloc1 w _
  have HH := Lib.hid (h.below HB.out)
  have HL := Lib.hid hl
  clear h hl
  go_enter Tryz.func43, Tryz.ntmps43
  go_wp2_with fail
  refine (uwithin_any _ f 50).mono ?_
  rintro e w1 ⟨rfl, rfl⟩
  by_cases h1 : 0 ≤ f ∧ f ≤ 50
  case neg =>
    have d1 : decide (0 ≤ f ∧ f ≤ 50) = false := decide_eq_false h1
    have HE := Lib.hid (peerE_life (q := q) (R := R) h1)
    rw [d1]
    clear h1 d1
    go_wp2
    go_ret
    exact ⟨ret_int HE.out.symm, HB.out⟩
  have d1 : decide (0 ≤ f ∧ f ≤ 50) = true := decide_eq_true h1
  rw [d1]
  clear d1
  go_wp2_with fail
  refine (uwithin_any _ q 30).mono ?_
  rintro e w1 ⟨rfl, rfl⟩
  by_cases h2 : 0 ≤ q ∧ q ≤ 30
  case neg =>
    have d1 : decide (0 ≤ q ∧ q ≤ 30) = false := decide_eq_false h2
    have HE := Lib.hid (peerE_seq (f := f) (R := R) h2)
    rw [d1]
    clear h2 d1
    go_wp2
    go_ret
    exact ⟨ret_int HE.out.symm, HB.out⟩
  have d1 : decide (0 ≤ q ∧ q ≤ 30) = true := decide_eq_true h2
  rw [d1]
  clear d1
  by_cases h3 : f = 0 ∧ (q ≠ 0 ∨ R ≠ [])
  · have HE := Lib.hid (peerE_form h1 h2 h3.1 h3.2)
    obtain ⟨h4, h5⟩ := h3
    subst h4
    by_cases h6 : q = 0
    · subst h6
      have h7 : 0 < R.length := by
        cases R with
        | nil => simp at h5
        | cons x R => simp
      have d7 : decide ((R.length : Int) > 0) = true := by simp; omega
      clear h1 h2 h5
      go_wp2
      go_ret
      exact ⟨ret_int HE.out.symm, HB.out⟩
    · have d6 : (q != 0) = true := by simpa using h6
      clear h1 h2 h5
      go_wp2
      go_ret
      exact ⟨ret_int HE.out.symm, HB.out⟩
  · have HE := Lib.hid (peerE_rest h1 h2 h3)
    by_cases h4 : f = 0
    · subst h4
      simp only [true_and, not_or, Decidable.not_not, ne_eq] at h3
      obtain ⟨rfl, rfl⟩ := h3
      clear h1 h2
      go_wp2_with fail
      refine (vroots_any _ a c [] HL.out HH.out).mono ?_
      rintro e w2 ⟨rfl, rfl⟩
      go_wp2
      go_ret
      exact ⟨ret_int HE.out.symm, HB.out⟩
    · have d4 : (f == 0) = false := by simpa using h4
      clear h1 h2 h3
      go_wp2_with fail
      refine (vroots_any _ a c R HL.out HH.out).mono ?_
      rintro e w2 ⟨rfl, rfl⟩
      go_wp2
      go_ret
      exact ⟨ret_int HE.out.symm, HB.out⟩

theorem sameP_no1 {f q f' q' : Int} {R R' : List Int} (h : f ≠ f') : sameP (f, q, R) (f', q', R') = false := by simp [sameP, h]
theorem sameP_no2 {f q f' q' : Int} {R R' : List Int} (h : q ≠ q') : sameP (f, q, R) (f', q', R') = false := by simp [sameP, h]
theorem sameP_eq {f q : Int} {R R' : List Int} : sameP (f, q, R) (f, q, R') = eqIs R R' := by
  cases hq : eqIs R R'
  · have : R ≠ R' := by
      intro e
      subst e
      rw [eqIs_yes rfl] at hq
      simp at hq
    simp [sameP, this]
  · have : R = R' := by simpa [eqIs] using hq
    subst this
    simp [sameP]

set_option maxHeartbeats 1000000 in
theorem usame1_any (w : World) (x y : Pm) (hx : PIn w x) (hy : PIn w y) :
    Calls Tryz.prog 44 #[x.val, y.val] w fun e w' => e = .returned (.bool (sameP x.1 y.1)) ∧ Below w.heap.size w w' := by
  obtain ⟨⟨f, q, R⟩, a, c⟩ := x
  obtain ⟨⟨f', q', R'⟩, a', c'⟩ := y
  obtain ⟨hx, hl⟩ := hx
  obtain ⟨hy, -⟩ := hy
  simp only at hx hy hl
  by_cases h1 : f = f'
  case neg =>
    have HE := Lib.hid (sameP_no1 (q := q) (q' := q') (R := R) (R' := R') h1)
    have d1 : (f == f') = false := by simpa using h1
    clear h1
    go_enter Tryz.func44, Tryz.ntmps44
    go_wp2
    go_ret
    exact ⟨ret_bool HE.out.symm, (Go.Joins.below_alloc1 w _).alloc (by simp) _⟩
  subst h1
  by_cases h2 : q = q'
  case neg =>
    have HE := Lib.hid (sameP_no2 (f := f) (f' := f) (R := R) (R' := R') h2)
    have d1 : (q == q') = false := by simpa using h2
    clear h2
    go_enter Tryz.func44, Tryz.ntmps44
    go_wp2
    go_ret
    exact ⟨ret_bool HE.out.symm, (Go.Joins.below_alloc1 w _).alloc (by simp) _⟩
  subst h2
  have HE := Lib.hid (sameP_eq (f := f) (q := q) (R := R) (R' := R'))
  go_enter Tryz.func44, Tryz.ntmps44
  go_wp2_with fail
  obtain ⟨W0, hW, -, -, hB, -⟩ := laid2 w [Value.int IntKind.i64 f, .int .i64 q, .slice a R.length c] 52 [Value.int IntKind.i64 f, .int .i64 q, .slice a' R'.length c'] 52
  rw [hW]
  clear hW
  refine (equal_is W0 a a' c c' R R' hl (hx.below hB) (hy.below hB)).mono ?_
  rintro e w1 ⟨rfl, n, rfl⟩
  have HB1 : Hid (Below w.heap.size w (W0.drewN n)) := hB.trans (below_drewN_any _ _ _)
  clear hx hy hB
  generalize W0.drewN n = W1 at *
  go_wp2
  go_ret
  exact ⟨ret_bool HE.out.symm, HB1.out⟩

set_option maxHeartbeats 1000000 in
theorem rsameHub1_any (w : World) (x y : Pm) (hx : PIn w x) (hy : PIn w y) :
    Calls Tryz.prog 48 #[x.val, y.val] w fun e w' => e = .returned (.bool (sameP x.1 y.1)) ∧ Below w.heap.size w w' := by
  obtain ⟨⟨f, q, R⟩, a, c⟩ := x
  obtain ⟨⟨f', q', R'⟩, a', c'⟩ := y
  obtain ⟨hx, hl⟩ := hx
  obtain ⟨hy, -⟩ := hy
  simp only at hx hy hl
  by_cases h1 : f = f'
  case neg =>
    have HE := Lib.hid (sameP_no1 (q := q) (q' := q') (R := R) (R' := R') h1)
    have d1 : (f == f') = false := by simpa using h1
    clear h1
    go_enter Tryz.func48, Tryz.ntmps48
    go_wp2
    go_ret
    exact ⟨ret_bool HE.out.symm, (Go.Joins.below_alloc1 w _).alloc (by simp) _⟩
  subst h1
  by_cases h2 : q = q'
  case neg =>
    have HE := Lib.hid (sameP_no2 (f := f) (f' := f) (R := R) (R' := R') h2)
    have d1 : (q == q') = false := by simpa using h2
    clear h2
    go_enter Tryz.func48, Tryz.ntmps48
    go_wp2
    go_ret
    exact ⟨ret_bool HE.out.symm, (Go.Joins.below_alloc1 w _).alloc (by simp) _⟩
  subst h2
  have HE := Lib.hid (sameP_eq (f := f) (q := q) (R := R) (R' := R'))
  go_enter Tryz.func48, Tryz.ntmps48
  go_wp2_with fail
  obtain ⟨W0, hW, -, -, hB, -⟩ := laid2 w [Value.int IntKind.i64 f, .int .i64 q, .slice a R.length c] 52 [Value.int IntKind.i64 f, .int .i64 q, .slice a' R'.length c'] 52
  rw [hW]
  clear hW
  refine (equal_is W0 a a' c c' R R' hl (hx.below hB) (hy.below hB)).mono ?_
  rintro e w1 ⟨rfl, n, rfl⟩
  have HB1 : Hid (Below w.heap.size w (W0.drewN n)) := hB.trans (below_drewN_any _ _ _)
  clear hx hy hB
  generalize W0.drewN n = W1 at *
  go_wp2
  go_ret
  exact ⟨ret_bool HE.out.symm, HB1.out⟩

set_option maxHeartbeats 2000000 in
set_option maxRecDepth 100000 in
theorem eqFuncP_any (w : World) (a a' : Option Addr) (c c' : Nat) (X Y : List Pm) (g : Nat) (hl : X.length ≤ maxLen) (hx : SlH w a X) (hy : SlH w a' Y)
    (eg : ∀ args w, (callFunc g args).run Tryz.prog w = .ok (.enter g args) w)
    (hg : ∀ W (x y : Pm), PIn W x → PIn W y → Calls Tryz.prog g #[x.val, y.val] W fun e w' => e = .returned (.bool (sameP x.1 y.1)) ∧ Below W.heap.size W w') :
    Calls Tryz.prog 46 #[.slice a X.length c, .slice a' Y.length c', .func (.func g) #[] #[]] w
      fun e w' => e = .returned (.bool (eqPs X Y)) ∧ Below w.heap.size w w' := by
  have hl' : X.length ≤ 9223372036854775807 := hl
  have HX := Lib.hid hx
  have HY := Lib.hid hy
  have HG := Lib.hid hg
  clear hx hy hg hl
  by_cases hlen : X.length = Y.length
  case neg =>
    have d1 : ((X.length : Int) != (Y.length : Int)) = true := by simp; omega
    have HE : Hid (eqPs X Y = false) := eqPs_no (by intro e; have := congrArg List.length e; simp at this; omega)
    clear hlen
    go_enter Tryz.func46, Tryz.ntmps46
    go_wp2
    go_ret
    exact ⟨ret_bool HE.out.symm, Below.refl _ _⟩
  have d1 : ((X.length : Int) != (Y.length : Int)) = false := by simp; omega
  have hl2 : Y.length ≤ 9223372036854775807 := by omega
  have HLEN : Hid (X.length = Y.length) := hlen
  clear hlen
  go_enter Tryz.func46, Tryz.ntmps46
  go_wp2
  go_loopw [17] (fun i W => ∃ k : Nat, k ≤ X.length ∧ i = .int .i64 k ∧ (X.take k).map (·.1) = (Y.take k).map (·.1) ∧ Below w.heap.size w W) (fun i _ => X.length - (intOf i).toNat)
  case atStart => exact ⟨0, Nat.zero_le _, rfl, rfl, Below.refl _ _⟩
  case round =>
    obtain ⟨j, hj, rfl, hpre, hb⟩ := hrel
    have HP : Hid ((X.take j).map (·.1) = (Y.take j).map (·.1)) := hpre
    have HB := Lib.hid hb
    clear hpre hb
    by_cases hlt : j < X.length
    case neg =>
      have HE : Hid (eqPs X Y = true) := by
        refine eqPs_yes ?_
        have e := HP.out
        rw [List.take_of_length_le (by omega), List.take_of_length_le (by have := HLEN.out; omega)] at e
        exact e
      go_wp2
      go_ret
      exact ⟨ret_bool HE.out.symm, HB.out⟩
    have hlt2 : j < Y.length := by have := HLEN.out; omega
    have hXr := HX.out.keep HB.out
    have hYr := HY.out.keep HB.out
    obtain ⟨bx, ox, rfl, hbx, hrx⟩ := hXr.reads.at prC_len j hlt
    obtain ⟨by', oy, rfl, hby, hry⟩ := hYr.reads.at prC_len j hlt2
    have HRX := Lib.hid (hXr.roots _ (List.getElem_mem hlt))
    have HRY := Lib.hid (hYr.roots _ (List.getElem_mem hlt2))
    have HT1 : Hid ((X.take (j + 1)).map (·.1) = (X.take j).map (·.1) ++ [X[j].1]) := by show _ = _; rw [List.take_succ_eq_append_getElem hlt, List.map_append]; rfl
    have HT2 : Hid ((Y.take (j + 1)).map (·.1) = (Y.take j).map (·.1) ++ [Y[j].1]) := by show _ = _; rw [List.take_succ_eq_append_getElem hlt2, List.map_append]; rfl
    have HNE : Hid (X[j].1 ≠ Y[j].1 → X.map (·.1) ≠ Y.map (·.1)) := mapP_ne hlt hlt2
    obtain ⟨g0, g1, g2⟩ := pr_cells hrx
    obtain ⟨y0, y1, y2⟩ := pr_cells hry
    clear hrx hry hXr hYr
    generalize X[j] = x at *
    generalize Y[j] = y at *
    obtain ⟨⟨f1, q1, R1⟩, a1, c1⟩ := x
    obtain ⟨⟨f2, q2, R2⟩, a2, c2⟩ := y
    simp only at g0 g1 g2 y0 y1 y2
    have hlti : (j : Int) < (Y.length : Int) := by omega
    go_wp2_with fail
    obtain ⟨W2, hW, -, -, hB2, -⟩ := laid2 wr [Value.int IntKind.i64 f1, .int .i64 q1, .slice a1 R1.length c1] 52 [Value.int IntKind.i64 f2, .int .i64 q2, .slice a2 R2.length c2] 52
    rw [hW]
    clear hW g0 g1 g2 y0 y1 y2
    refine (HG.out W2 ((f1, q1, R1), a1, c1) ((f2, q2, R2), a2, c2) (HRX.out.keep hB2) (HRY.out.keep hB2)).mono ?_
    rintro e w3 ⟨rfl, hb3⟩
    have HB3 := Lib.hid (HB.out.trans ((hB2.trans (hb3.mono hB2.size)).mono HB.out.size))
    clear hB2 hb3 HRX HRY
    by_cases hq : (f1, q1, R1) = (f2, q2, R2)
    · rw [(sameP_iff _ _).2 hq]
      have HQ : Hid ((f1, q1, R1) = (f2, q2, R2)) := hq
      clear hq
      go_wp2
      go_roundw
      case rel => exact ⟨j + 1, hlt, by go_num, by rw [HT1.out, HT2.out, HP.out, HQ.out], HB3.out⟩
      case measure => simp [intOf]; omega
    · have hs : sameP (f1, q1, R1) (f2, q2, R2) = false := by simpa [sameP] using hq
      rw [hs]
      have HE : Hid (eqPs X Y = false) := eqPs_no (HNE.out hq)
      clear hq hs
      go_wp2
      go_ret
      exact ⟨ret_bool HE.out.symm, HB3.out⟩
end Go.Proofs.YthlhnokgcnieeadGreat

/- A hub that is worked into: its box, its row of peers; slices.Clone at steps and at peers; hub.clone. -/
namespace Go.Proofs.YthlhnokgcnieeadGreat
open Go.ChangeShapes Go.WideShapes Go.ChangeAt Go.RowKit
open Orangery (Pl Mv Stp Rc Pr Hb peerE peersE rootsOk hubE histE)

/-- what is read there is not in block g -/
def OffL {α : Type} (g : Nat) (a : Option Addr) (l : List α) : Prop := l = [] ∨ ∀ b off, a = some ⟨b, off, none⟩ → b ≠ g
theorem SlE.off {α : Type} {enc : α → List Value} {w : World} {a : Option Addr} {l : List α} {g : Nat} (h : SlE enc w a l) (hg : w.heap.size ≤ g) : OffL g a l := by
  rcases h with h | ⟨b, off, ha, hb, _⟩
  · exact Or.inl h
  · refine Or.inr (fun b' off' e => ?_)
    rw [ha] at e
    obtain ⟨rfl, _⟩ : b = b' ∧ off = off' := by simpa using e
    omega
theorem SlI.off {w : World} {a : Option Addr} {l : List Int} {g : Nat} (h : SlI w a l) (hg : w.heap.size ≤ g) : OffL g a l := by
  rcases h with h | ⟨b, off, ha, hb, _⟩
  · exact Or.inl h
  · refine Or.inr (fun b' off' e => ?_)
    rw [ha] at e
    obtain ⟨rfl, _⟩ : b = b' ∧ off = off' := by simpa using e
    omega
theorem SlP.off {w : World} {a : Option Addr} {l : List Pl} {g : Nat} (h : SlP w a l) (hg : w.heap.size ≤ g) : OffL g a l := by
  rcases h with h | ⟨b, off, ha, hb, _⟩
  · exact Or.inl h
  · refine Or.inr (fun b' off' e => ?_)
    rw [ha] at e
    obtain ⟨rfl, _⟩ : b = b' ∧ off = off' := by simpa using e
    omega
theorem row_off {α : Type} {w : World} {base n k c : Nat} {e : TypeId} {a : Option Addr} {cs : List Value} {l : List α} {g : Nat} (h : w.ownsRow base e k (.slice a n c) n cs) (hg : g < base) : OffL g a l := by
  refine Or.inr (fun b off ha => ?_)
  rcases h.2 with ⟨h', _⟩ | ⟨g', cap, cur, h', hb, _⟩
  · simp [ha] at h'
  · rw [ha] at h'
    obtain ⟨⟨rfl, _⟩, _⟩ : (b = g' ∧ off = 0) ∧ _ := by simpa using h'
    omega
theorem sets_heap (b g : Nat) (hne : b ≠ g) : ∀ (us : List Value) (o : Nat) (w : World), (w.setCells g o us).heap[b]? = w.heap[b]?
  | [], _, _ => rfl
  | u :: us, o, w => by
    show ((w.setCell ⟨g, o, none⟩ u).setCells g (o + 1) us).heap[b]? = _
    rw [sets_heap b g hne us (o + 1) _]
    exact heap_setCell_other w ⟨g, o, none⟩ b u hne
theorem SlE.sets {α : Type} {enc : α → List Value} {w : World} {a : Option Addr} {l : List α} {g : Nat} (h : SlE enc w a l) (ho : OffL g a l) (us : List Value) (o : Nat) : SlE enc (w.setCells g o us) a l := by
  rcases ho with rfl | ho
  · exact Or.inl rfl
  · exact h.apartH (by simp [Go.Sort.size_setCells]) (fun b off ha _ => sets_heap b g (ho b off ha) us o w)
theorem SlI.setsO {w : World} {a : Option Addr} {l : List Int} {g : Nat} (h : SlI w a l) (ho : OffL g a l) (us : List Value) (o : Nat) : SlI (w.setCells g o us) a l := by
  rcases ho with rfl | ho
  · exact Or.inl rfl
  · exact h.apartH (by simp [Go.Sort.size_setCells]) (fun b off ha _ => sets_heap b g (ho b off ha) us o w)
theorem SlP.sets {w : World} {a : Option Addr} {l : List Pl} {g : Nat} (h : SlP w a l) (ho : OffL g a l) (us : List Value) (o : Nat) : SlP (w.setCells g o us) a l := by
  rcases ho with rfl | ho
  · exact Or.inl rfl
  · exact h.apartH (by simp [Go.Sort.size_setCells]) (fun b off ha _ => sets_heap b g (ho b off ha) us o w)
theorem set_sets (w : World) (g o : Nat) (u : Value) : w.setCell ⟨g, o, none⟩ u = w.setCells g o [u] := rfl

/-- what is read there is in a block of D -/
def InL {α : Type} (D : Nat → Prop) (a : Option Addr) (l : List α) : Prop := l = [] ∨ ∀ b off, a = some ⟨b, off, none⟩ → D b
theorem InL.off {α : Type} {D : Nat → Prop} {a : Option Addr} {l : List α} {g : Nat} (h : InL D a l) (hg : ∀ b, D b → b ≠ g) : OffL g a l := by
  rcases h with h | h
  · exact Or.inl h
  · exact Or.inr (fun b off e => hg b (h b off e))
theorem InL.imp {α : Type} {D D' : Nat → Prop} {a : Option Addr} {l : List α} (h : InL D a l) (hg : ∀ b, D b → D' b) : InL D' a l := by
  rcases h with h | h
  · exact Or.inl h
  · exact Or.inr (fun b off e => hg b (h b off e))
theorem InL.and {α : Type} {D D' : Nat → Prop} {a : Option Addr} {l : List α} (h : InL D a l) (h' : InL D' a l) : InL (fun b => D b ∧ D' b) a l := by
  rcases h with h | h
  · exact Or.inl h
  · rcases h' with h' | h'
    · exact Or.inl h'
    · exact Or.inr (fun b off e => ⟨h b off e, h' b off e⟩)
theorem SlE.isin {α : Type} {enc : α → List Value} {w : World} {a : Option Addr} {l : List α} (h : SlE enc w a l) : InL (· < w.heap.size) a l := by
  rcases h with h | ⟨b, off, ha, hb, _⟩
  · exact Or.inl h
  · refine Or.inr (fun b' off' e => ?_)
    rw [ha] at e
    obtain ⟨rfl, _⟩ : b = b' ∧ off = off' := by simpa using e
    exact hb
theorem SlI.isin {w : World} {a : Option Addr} {l : List Int} (h : SlI w a l) : InL (· < w.heap.size) a l := by
  rcases h with h | ⟨b, off, ha, hb, _⟩
  · exact Or.inl h
  · refine Or.inr (fun b' off' e => ?_)
    rw [ha] at e
    obtain ⟨rfl, _⟩ : b = b' ∧ off = off' := by simpa using e
    exact hb
theorem SlP.isin {w : World} {a : Option Addr} {l : List Pl} (h : SlP w a l) : InL (· < w.heap.size) a l := by
  rcases h with h | ⟨b, off, ha, hb, _⟩
  · exact Or.inl h
  · refine Or.inr (fun b' off' e => ?_)
    rw [ha] at e
    obtain ⟨rfl, _⟩ : b = b' ∧ off = off' := by simpa using e
    exact hb
theorem row_in {α : Type} {w : World} {base n k c : Nat} {e : TypeId} {a : Option Addr} {cs : List Value} {l : List α} (h : w.ownsRow base e k (.slice a n c) n cs) : InL (base ≤ ·) a l := by
  refine Or.inr (fun b off ha => ?_)
  rcases h.2 with ⟨h', _⟩ | ⟨g', cap, cur, h', hb, _⟩
  · simp [ha] at h'
  · rw [ha] at h'
    obtain ⟨⟨rfl, _⟩, _⟩ : (b = g' ∧ off = 0) ∧ _ := by simpa using h'
    exact hb

/-- a row of three peers in a block -/
structure Row3 (W : World) (g : Nat) (X : List Pm) : Prop where
  blk : Blk W g (X.flatMap prC)
  len : X.length = 3
  roots : ∀ x ∈ X, PIn W x
  off : ∀ x ∈ X, OffL g x.2.1 x.1.2.2
theorem Row3.keep {W W' : World} {g : Nat} {X : List Pm} (h : Row3 W g X) (hb : Below W.heap.size W W') : Row3 W' g X :=
  ⟨h.blk.keep hb, h.len, fun x hx => (h.roots x hx).keep hb, h.off⟩
/-- another block is written -/
theorem Row3.other {W : World} {g b : Nat} {X : List Pm} (h : Row3 W g X) (hne : g ≠ b) (ho : ∀ x ∈ X, OffL b x.2.1 x.1.2.2) (us : List Value) (o : Nat) : Row3 (W.setCells b o us) g X :=
  ⟨h.blk.others hne us o, h.len, fun x hx => ⟨(h.roots x hx).1.setsO (ho x hx) us o, (h.roots x hx).2⟩, h.off⟩
theorem Row3.three {W : World} {g : Nat} {X : List Pm} (h : Row3 W g X) : ∃ x y z, X = [x, y, z] := by
  have := h.len
  match X, this with
  | [x, y, z], _ => exact ⟨x, y, z, rfl⟩
/-- one peer of it set, cell by cell or whole -/
theorem Row3.set {W : World} {g : Nat} {X : List Pm} (h : Row3 W g X) (k : Nat) (hk : k < 3) (x : Pm) (hx : PIn W x) (ho : OffL g x.2.1 x.1.2.2) : Row3 (W.setCells g (k * 3) (prC x)) g (X.set k x) := by
  have hroots : ∀ y ∈ X.set k x, PIn (W.setCells g (k * 3) (prC x)) y := by
    intro y hy
    rcases List.mem_or_eq_of_mem_set hy with hy | rfl
    · exact ⟨(h.roots y hy).1.setsO (h.off y hy) _ _, (h.roots y hy).2⟩
    · exact ⟨hx.1.setsO ho _ _, hx.2⟩
  have hoff : ∀ y ∈ X.set k x, OffL g y.2.1 y.1.2.2 := by
    intro y hy
    rcases List.mem_or_eq_of_mem_set hy with hy | rfl
    · exact h.off y hy
    · exact ho
  refine ⟨?_, by simpa using h.len, hroots, hoff⟩
  obtain ⟨x0, x1, x2, rfl⟩ := h.three
  have hb := h.blk
  match k, hk with
  | 0, _ => exact (((hb.set 0 (by simp [prC]) _).set 1 (by simp [prC]) _).set 2 (by simp [prC]) _)
  | 1, _ => exact (((hb.set 3 (by simp [prC]) _).set 4 (by simp [prC]) _).set 5 (by simp [prC]) _)
  | 2, _ => exact (((hb.set 6 (by simp [prC]) _).set 7 (by simp [prC]) _).set 8 (by simp [prC]) _)
theorem Row3.setSeq {W : World} {g : Nat} {X : List Pm} (h : Row3 W g X) (k : Nat) (hk : k < X.length) (q : Int) : Row3 (W.setCell ⟨g, k * 3 + 1, none⟩ (.int .i64 q)) g (X.set k ((X[k].1.1, q, X[k].1.2.2), X[k].2)) := by
  have hm : X[k] ∈ X := List.getElem_mem hk
  have hroots : ∀ y ∈ X.set k ((X[k].1.1, q, X[k].1.2.2), X[k].2), PIn (W.setCell ⟨g, k * 3 + 1, none⟩ (.int .i64 q)) y := by
    intro y hy
    rcases List.mem_or_eq_of_mem_set hy with hy | rfl
    · exact ⟨(h.roots y hy).1.setsO (h.off y hy) [_] _, (h.roots y hy).2⟩
    · exact ⟨(h.roots _ hm).1.setsO (h.off _ hm) [_] _, (h.roots _ hm).2⟩
  have hoff : ∀ y ∈ X.set k ((X[k].1.1, q, X[k].1.2.2), X[k].2), OffL g y.2.1 y.1.2.2 := by
    intro y hy
    rcases List.mem_or_eq_of_mem_set hy with hy | rfl
    · exact h.off y hy
    · exact h.off X[k] hm
  refine ⟨?_, by simpa using h.len, hroots, hoff⟩
  have hb := h.blk
  clear hroots hoff hm
  obtain ⟨x0, x1, x2, rfl⟩ := h.three
  match k, hk with
  | 0, _ => exact hb.set 1 (by simp [prC]) _
  | 1, _ => exact hb.set 4 (by simp [prC]) _
  | 2, _ => exact hb.set 7 (by simp [prC]) _
theorem Row3.setRoots {W : World} {g : Nat} {X : List Pm} (h : Row3 W g X) (k : Nat) (hk : k < X.length) (R : List Int) (a : Option Addr) (c : Nat) (hr : SlI W a R) (hl : R.length ≤ maxLen) (ho : OffL g a R) :
    Row3 (W.setCell ⟨g, k * 3 + 2, none⟩ (.slice a R.length c)) g (X.set k ((X[k].1.1, X[k].1.2.1, R), a, c)) := by
  have hroots : ∀ y ∈ X.set k ((X[k].1.1, X[k].1.2.1, R), a, c), PIn (W.setCell ⟨g, k * 3 + 2, none⟩ (.slice a R.length c)) y := by
    intro y hy
    rcases List.mem_or_eq_of_mem_set hy with hy | rfl
    · exact ⟨(h.roots y hy).1.setsO (h.off y hy) [_] _, (h.roots y hy).2⟩
    · exact ⟨hr.setsO ho [_] _, hl⟩
  have hoff : ∀ y ∈ X.set k ((X[k].1.1, X[k].1.2.1, R), a, c), OffL g y.2.1 y.1.2.2 := by
    intro y hy
    rcases List.mem_or_eq_of_mem_set hy with hy | rfl
    · exact h.off y hy
    · exact ho
  refine ⟨?_, by simpa using h.len, hroots, hoff⟩
  have hb := h.blk
  clear hroots hoff
  obtain ⟨x0, x1, x2, rfl⟩ := h.three
  match k, hk with
  | 0, _ => exact hb.set 2 (by simp [prC]) _
  | 1, _ => exact hb.set 5 (by simp [prC]) _
  | 2, _ => exact hb.set 8 (by simp [prC]) _
theorem Row3.reads {W : World} {g : Nat} {X : List Pm} (h : Row3 W g X) : SlH W (some ⟨g, 0, none⟩) X := ⟨Or.inr ⟨g, 0, rfl, h.blk.lt, h.blk.range⟩, h.roots⟩
theorem Row3.cells {W : World} {g : Nat} {X : List Pm} (h : Row3 W g X) (k : Nat) (hk : k < X.length) :
    W.cell? ⟨g, k * 3, none⟩ = some (.int .i64 X[k].1.1) ∧ W.cell? ⟨g, k * 3 + 1, none⟩ = some (.int .i64 X[k].1.2.1) ∧ W.cell? ⟨g, k * 3 + 2, none⟩ = some (.slice X[k].2.1 X[k].1.2.2.length X[k].2.2) := by
  obtain ⟨b, off, e, _, hr⟩ := h.reads.reads.at prC_len k hk
  obtain ⟨rfl, rfl⟩ : g = b ∧ 0 = off := by simpa using e
  rw [Nat.zero_add] at hr
  exact pr_cells hr
/-- a row of the call's own -/
theorem own_blk {α : Type} {enc : α → List Value} {k : Nat} {e : TypeId} {w : World} {base g cap : Nat} {l : List α} (h : OwnE enc k e w base (.slice (some ⟨g, 0, none⟩) l.length cap) l) : Blk w g (l.flatMap enc) ∧ base ≤ g := by
  rcases h.2 with ⟨h', _⟩ | ⟨g', cap', cur, h', hb, hg, hn, hm, hs, ht⟩
  · simp at h'
  · obtain ⟨rfl, rfl⟩ : g = g' ∧ cap = cap' := by simpa using h'
    refine ⟨⟨blk_lt hg, fun j => ?_, fun i v hv => ?_⟩, hb⟩
    · unfold World.frozen?
      simp only [hg]
      simp
    · rw [← ht] at hv
      rw [Go.Joins.cell_of_block hg]
      have hi : i < l.length * k := by
        have := (List.getElem?_eq_some_iff.1 hv).1
        simp at this
        omega
      rw [List.getElem?_take_of_lt hi] at hv
      simpa using hv

set_option maxHeartbeats 1000000 in
theorem cloneSteps_any (w : World) (a : Option Addr) (c : Nat) (l : List Stp) (hl : l.length ≤ 1000) (h : SlE stC w a l) :
    Calls Tryz.prog 67 #[.slice a l.length c] w
      fun e w' => ∃ v, e = .returned v ∧ OwnE stC 11 95 w' w.heap.size v l ∧ Below w.heap.size w w' := by
  obtain ⟨i0, hi, hz0, hz1, hz2⟩ := info_parts infoStep
  have hq := fun (W : World) (a : Option Addr) (n c : Nat) => Lib.run_eql_slice_nil (P := Tryz.prog) W 22 95 a n c 0 0 Tryz.underlying22
  cases a with
  | none =>
    have hl0 : l = [] := by
      rcases h with h | ⟨b, off, h, _⟩
      · exact h
      · simp at h
    subst hl0
    go_enter Tryz.func67, Tryz.ntmps67
    go_wp2
    go_ret
    exact ⟨_, rfl, OwnE.nil _ _, Below.refl _ _⟩
  | some ad =>
    have hB := Go.Joins.below_alloc1 w (Obj.cells #[] 95)
    have hP := h.below hB
    have hown : (w.alloc (Obj.cells #[] 95)).ownsRow w.heap.size 95 11 (.slice (some ⟨w.heap.size, 0, none⟩) 0 0) 0 [] :=
      ⟨rfl, Or.inr ⟨w.heap.size, 0, #[], rfl, Nat.le_refl _, blk_new rfl, Nat.le_refl _, by unfold maxLen; omega, rfl, rfl⟩⟩
    have hnews : ∀ j u, (l.flatMap stC)[j]? = some u → (w.alloc (Obj.cells #[] 95)).cell? (ad.add j) = some u := by
      rcases hP with hP | ⟨b, off, ha, _, hp⟩
      · intro j u hj; subst hP; simp at hj
      · simp at ha
        subst ha
        intro j u hj
        rw [Addr.add_mid]
        exact hp j u hj
    have HN : Hid (∀ j u, (l.flatMap stC)[j]? = some u → (w.alloc (Obj.cells #[] 95)).cell? (ad.add j) = some u) := hnews
    clear hP h hnews
    go_enter Tryz.func67, Tryz.ntmps67
    go_wp2_with (at_builtin; refine wpList_append_own _ rfl _ _ 22 rfl w.heap.size 95 i0 _ 11 88 Tryz.underlying22 hi hz0 hz1 hz2 rfl (by decide) _ _ _ rfl hown ad l.length c (l.flatMap stC) rfl (flatE_len stC_len l) ?c1 ?c2 ?c3 ?c4 ?c5 ?_)
    case c1 => exact HN.out
    case c2 => exact flat_oneE stC_one l
    case c3 => unfold maxLen; omega
    case c4 => omega
    case c5 => exact hB.size
    · intro v' w1 hown' hgrow _
      have hb1 := hB.trans (below_grown hown hB.size hgrow)
      have hO : OwnE stC 11 95 w1 w.heap.size v' l := by simpa [OwnE] using hown'
      clear hgrow hown hown'
      go_wp2
      go_ret
      exact ⟨_, rfl, hO, hb1⟩

set_option maxHeartbeats 1000000 in
theorem clonePeers_any (w : World) (a : Option Addr) (c : Nat) (l : List Pm) (hl : l.length = 3) (h : SlE prC w a l) :
    Calls Tryz.prog 69 #[.slice a l.length c] w
      fun e w' => ∃ g cap, e = .returned (.slice (some ⟨g, 0, none⟩) l.length cap) ∧ OwnE prC 3 52 w' w.heap.size (.slice (some ⟨g, 0, none⟩) l.length cap) l ∧ Below w.heap.size w w' := by
  obtain ⟨i0, hi, hz0, hz1, hz2⟩ := info_parts infoPeer
  have hq := fun (W : World) (a : Option Addr) (n c : Nat) => Lib.run_eql_slice_nil (P := Tryz.prog) W 28 52 a n c 0 0 Tryz.underlying28
  cases a with
  | none =>
    exfalso
    rcases h with h | ⟨b, off, h, _⟩
    · subst h; simp at hl
    · simp at h
  | some ad =>
    have hB := Go.Joins.below_alloc1 w (Obj.cells #[] 52)
    have hP := h.below hB
    have hown : (w.alloc (Obj.cells #[] 52)).ownsRow w.heap.size 52 3 (.slice (some ⟨w.heap.size, 0, none⟩) 0 0) 0 [] :=
      ⟨rfl, Or.inr ⟨w.heap.size, 0, #[], rfl, Nat.le_refl _, blk_new rfl, Nat.le_refl _, by unfold maxLen; omega, rfl, rfl⟩⟩
    have hnews : ∀ j u, (l.flatMap prC)[j]? = some u → (w.alloc (Obj.cells #[] 52)).cell? (ad.add j) = some u := by
      rcases hP with hP | ⟨b, off, ha, _, hp⟩
      · intro j u hj; subst hP; simp at hj
      · simp at ha
        subst ha
        intro j u hj
        rw [Addr.add_mid]
        exact hp j u hj
    have HN : Hid (∀ j u, (l.flatMap prC)[j]? = some u → (w.alloc (Obj.cells #[] 52)).cell? (ad.add j) = some u) := hnews
    have HL := Lib.hid hl
    have hl2 : l.length ≤ 1000 := by omega
    clear hP h hnews hl
    go_enter Tryz.func69, Tryz.ntmps69
    go_wp2_with (at_builtin; refine wpList_append_own _ rfl _ _ 28 rfl w.heap.size 52 i0 _ 3 40 Tryz.underlying28 hi hz0 hz1 hz2 rfl (by decide) _ _ _ rfl hown ad l.length c (l.flatMap prC) rfl (flatE_len prC_len l) ?c1 ?c2 ?c3 ?c4 ?c5 ?_)
    case c1 => exact HN.out
    case c2 => exact flat_oneE prC_one l
    case c3 => unfold maxLen; omega
    case c4 => omega
    case c5 => exact hB.size
    · intro v' w1 hown' hgrow _
      have hb1 := hB.trans (below_grown hown hB.size hgrow)
      have hO : OwnE prC 3 52 w1 w.heap.size v' l := by simpa [OwnE] using hown'
      clear hgrow hown hown'
      go_wp2
      go_ret
      have hl := HL.out
      have hO2 := hO
      rcases hO2.2 with ⟨h', hn⟩ | ⟨g', cap', cur, h', _⟩
      · omega
      · subst h'
        exact ⟨_, _, rfl, hO, hb1⟩
theorem clonePeers3_any (w : World) (a : Option Addr) (c : Nat) (l : List Pm) (hl : l.length = 3) (h : SlE prC w a l) :
    Calls Tryz.prog 69 #[.slice a 3 c] w
      fun e w' => ∃ g cap, e = .returned (.slice (some ⟨g, 0, none⟩) 3 cap) ∧ Blk w' g (l.flatMap prC) ∧ w.heap.size ≤ g ∧ Below w.heap.size w w' := by
  have h1 := clonePeers_any w a c l hl h
  rw [hl] at h1
  refine h1.mono ?_
  rintro e w' ⟨g, cap, rfl, ho, hb⟩
  rw [← hl] at ho
  exact ⟨g, cap, rfl, (own_blk ho).1, (own_blk ho).2, hb⟩
end Go.Proofs.YthlhnokgcnieeadGreat

/- Regions that draw their order, walked step by step: an operation that is not wanted is taken too. -/
namespace Go.Proofs.YthlhnokgcnieeadGreat
open Go.ChangeShapes Go.WideShapes Go.ChangeAt Go.RowKit

/-- a wanted operation is taken first -/
theorem take_yes {P : Program} {md : Region.Mode} {ops : Array Oper} {Q : Exit → Act → World → Prop} {S : World → Prop} (i : Nat) (d : Nat) {oi : Oper} {v : Value} {fuel : Nat} {listed : Array Bool} {a : Act} {w : World} (hi : ops[i]? = some oi) (hd : oi.dst = some d)
    (hs : Region.noSelect ops = true) (hf : Region.free md ops listed i = true) (hr : (Region.ready md ops listed).contains i = true)
    (hQ : ∀ c a w, Q (.panic c) (a.put oi.dst v) w → Q (.panic c) a w) (hw : Region.wanted oi (yielded ops a.tmps) = true) (hy : ∀ w, S w → (execOp a.eval oi).run P w = .ok (.value v) w) (hS : S w)
    (h : wpAnyH P md ops Q S fuel (listed.setIfInBounds i true) (a.put (some d) v) w) : wpAnyH P md ops Q S (fuel + 1) listed a w :=
  wpAnyH_take hi hs hf hr hQ (Or.inl ⟨hw, hy⟩) hS (by rw [hd]; exact h)

/-- an operation that is not wanted is passed by -/
theorem take_no {P : Program} {md : Region.Mode} {ops : Array Oper} {Q : Exit → Act → World → Prop} {S : World → Prop} (i : Nat) (d : Nat) {oi : Oper} {fuel : Nat} {listed : Array Bool} {a : Act} {w : World} (hi : ops[i]? = some oi) (hd : oi.dst = some d)
    (hs : Region.noSelect ops = true) (hf : Region.free md ops listed i = true) (hr : (Region.ready md ops listed).contains i = true)
    (hQ : ∀ c a w, Q (.panic c) (a.put oi.dst undef) w → Q (.panic c) a w) (hw : Region.wanted oi (yielded ops a.tmps) = false) (hS : S w)
    (h : wpAnyH P md ops Q S fuel (listed.setIfInBounds i true) (a.put (some d) undef) w) : wpAnyH P md ops Q S (fuel + 1) listed a w :=
  wpAnyH_take hi hs hf hr hQ (Or.inr ⟨hw, rfl⟩) hS (by rw [hd]; exact h)
/-- a load of a whole row or struct is taken first -/
theorem take_load {P : Program} {md : Region.Mode} {ops : Array Oper} {Q : Exit → Act → World → Prop} {S : World → Prop} (i : Nat) (d : Nat) {oi : Oper} (ty : TypeId) {x : Operand} (b : Nat) (cs : List Value) {dd : TypeDesc} {fuel : Nat} {listed : Array Bool} {a : Act} {w : World} (hi : ops[i]? = some oi) (hd : oi.dst = some d)
    (hs : Region.noSelect ops = true) (hf : Region.free md ops listed i = true) (hr : (Region.ready md ops listed).contains i = true)
    (hQ : ∀ c a w, Q (.panic c) (a.put oi.dst (.agg cs.toArray)) w → Q (.panic c) a w) (hw : Region.wanted oi (yielded ops a.tmps) = true)
    (ho : oi.op = .load ty x) (hx : a.eval x = .pointer (some ⟨b, 0, none⟩)) (hc : ∀ w, S w → w.rangeAt b 0 cs)
    (hu : P.underlying ty = some dd) (hdd : dd.isRow = true) (hz : (P.info? ty).map (·.size) = some cs.length) (hS : S w)
    (h : wpAnyH P md ops Q S fuel (listed.setIfInBounds i true) (a.put (some d) (.agg cs.toArray)) w) : wpAnyH P md ops Q S (fuel + 1) listed a w :=
  wpAnyH_take hi hs hf hr hQ (yieldsIf_load_mid hw ty x ho b 0 hx cs dd hc hu hdd hz) hS (by rw [hd]; exact h)
/-- a store of a whole row or struct, the only one that may come up -/
theorem step_store {P : Program} {md : Region.Mode} {ops : Array Oper} {Q : Exit → Act → World → Prop} {S : World → Prop} (i : Nat) {oi : Oper} (ty : TypeId) {x y : Operand} (b : Nat) (cs : List Value) {fuel : Nat} {listed : Array Bool} {a : Act} {w : World} (hr : Region.ready md ops listed = [i]) (hi : ops[i]? = some oi) (hd : oi.dst = none)
    (hw : Region.wanted oi (yielded ops a.tmps) = true) (ho : oi.op = .store ty x y) (hx : a.eval x = .pointer (some ⟨b, 0, none⟩)) (hy : a.eval y = .agg cs.toArray)
    (ht : w.there b 0 cs.length) (hz : (P.info? ty).map (·.size) = some cs.length) (h1 : ∀ v ∈ cs, v.oneCell' = true) (hS : S (w.setCells b 0 cs))
    (h : wpAnyH P md ops Q S fuel (listed.setIfInBounds i true) a (w.setCells b 0 cs)) : wpAnyH P md ops Q S (fuel + 1) listed a w := by
  refine wpAnyH_ready hr (by simp) (AllReadyH.cons hi (fun K hK => ?_) AllReadyH.nil)
  rw [if_pos hw]
  refine wp_store_mid ty x y ho b 0 cs.toArray hx hy (by simpa using ht) (by simpa using hz) (all_oneCell_toArray h1) ?_
  rw [hd]
  have e : cs.toArray.toList = cs := rfl
  rw [e]
  exact hK.out _ _ hS (fun _ => h)
/-- a store of a whole struct anywhere in a block, the only operation that may come up -/
theorem step_store_at {P : Program} {md : Region.Mode} {ops : Array Oper} {Q : Exit → Act → World → Prop} {S : World → Prop} (i : Nat) {oi : Oper} (ty : TypeId) {x y : Operand} (b o : Nat) (cs : List Value) {fuel : Nat} {listed : Array Bool} {a : Act} {w : World} (hr : Region.ready md ops listed = [i]) (hi : ops[i]? = some oi) (hd : oi.dst = none)
    (hw : Region.wanted oi (yielded ops a.tmps) = true) (ho : oi.op = .store ty x y) (hx : a.eval x = .pointer (some ⟨b, o, none⟩)) (hy : a.eval y = .agg cs.toArray)
    (ht : w.there b o cs.length) (hz : (P.info? ty).map (·.size) = some cs.length) (h1 : ∀ v ∈ cs, v.oneCell' = true) (hS : S (w.setCells b o cs))
    (h : wpAnyH P md ops Q S fuel (listed.setIfInBounds i true) a (w.setCells b o cs)) : wpAnyH P md ops Q S (fuel + 1) listed a w := by
  refine wpAnyH_ready hr (by simp) (AllReadyH.cons hi (fun K hK => ?_) AllReadyH.nil)
  rw [if_pos hw]
  refine wp_store_mid ty x y ho b o cs.toArray hx hy (by simpa using ht) (by simpa using hz) (all_oneCell_toArray h1) ?_
  rw [hd]
  have e : cs.toArray.toList = cs := rfl
  rw [e]
  exact hK.out _ _ hS (fun _ => h)
end Go.Proofs.YthlhnokgcnieeadGreat

/- An append in a region that draws its order. -/
namespace Go.Proofs.YthlhnokgcnieeadGreat
open Go.ChangeShapes Go.WideShapes Go.ChangeAt Go.RowKit

/-- an append to a slice of the call's own, the only operation that may come up -/
theorem step_append {P : Program} {md : Region.Mode} {ops : Array Oper} {Q : Exit → Act → World → Prop} {S : World → Prop} (i d : Nat) {oi : Oper} {s x : Operand} (t : TypeId) {fuel : Nat} {listed : Array Bool} {a : Act} {w : World} (hr : Region.ready md ops listed = [i]) (hi : ops[i]? = some oi) (hd : oi.dst = some d)
    (hw : Region.wanted oi (yielded ops a.tmps) = true) (ho : oi.op = .call { callee := .builtin .append, args := #[s, x], argTypes := #[t, t] })
    (base : Nat) (e : TypeId) (inf : TypeInfo) (z : Value) (size bytes : Nat) (ht : P.underlying t = some (.slice e)) (hinf : P.info? e = some inf) (hz : inf.zero = some z)
    (hsize : inf.size = size) (hby : inf.bytes = bytes) (hzs : z.cells.size = size) (hsz : 0 < size)
    (v : Value) (n : Nat) (xs : List Value) (hs : a.eval s = v) (hown : w.ownsRow base e size v n xs)
    (ad : Addr) (m c : Nat) (news : List Value) (hx : a.eval x = .slice (some ad) m c) (hl : news.length = m * size) (hnews : ∀ j u, news[j]? = some u → w.cell? (ad.add j) = some u) (h1 : ∀ u ∈ news, u.oneCell' = true)
    (h63 : n + m ≤ maxLen) (hbytes : (n + m) * bytes ≤ 140737488355328) (hbase : base ≤ w.heap.size)
    (h : ∀ v' w', w'.ownsRow base e size v' (n + m) (xs ++ news) → w.grownBy w' v.ownBlock → S w' ∧ wpAnyH P md ops Q S fuel (listed.setIfInBounds i true) (a.put (some d) v') w') : wpAnyH P md ops Q S (fuel + 1) listed a w := by
  refine wpAnyH_ready hr (by simp) (AllReadyH.cons hi (fun K hK => ?_) AllReadyH.nil)
  rw [if_pos hw]
  refine wp_append_own w s x t ho base e inf z size bytes ht hinf hz hsize hby hzs hsz v n xs hs hown ad m c news hx hl hnews h1 h63 hbytes hbase (fun v' w' h2 h3 _ => ?_)
  rw [hd]
  exact hK.out _ _ (h v' w' h2 h3).1 (fun _ => (h v' w' h2 h3).2)
end Go.Proofs.YthlhnokgcnieeadGreat

/- hub.Same, orangeryref.SameHub; hub.New, orangeryref.FreshHub; hub.clone. -/
namespace Go.Proofs.YthlhnokgcnieeadGreat
open Go.ChangeShapes Go.WideShapes Go.ChangeAt Go.RowKit
open Orangery (Pl Mv Stp Rc Pr Hb peerE peersE rootsOk hubE histE sameB sameB_iff)

def sameH (h k : Hb) : Bool := sameB h.1.1 k.1.1 h.1.2 k.1.2 && decide (h.2.1 = k.2.1) && decide (h.2.2 = k.2.2)
theorem sameH_iff (h k : Hb) : sameH h k = true ↔ h = k := by
  unfold sameH
  rw [Bool.and_eq_true, Bool.and_eq_true, sameB_iff, decide_eq_true_eq, decide_eq_true_eq]
  obtain ⟨⟨h1, h2⟩, h3, h4⟩ := h
  obtain ⟨⟨k1, k2⟩, k3, k4⟩ := k
  constructor
  · rintro ⟨⟨⟨e1, e2⟩, e3⟩, e4⟩
    simp only at e1 e2 e3 e4
    subst e1 e2 e3 e4
    rfl
  · intro e
    simp only [Prod.mk.injEq] at e
    exact ⟨⟨⟨e.1.1, e.1.2⟩, e.2.1⟩, e.2.2⟩
theorem sameH_refl (h : Hb) : sameH h h = true := (sameH_iff h h).2 rfl
theorem sameH_no {h k : Hb} (e : h ≠ k) : sameH h k = false := by
  cases hq : sameH h k
  · rfl
  · exact absurd ((sameH_iff h k).1 hq) e
theorem sameH_hist {h k : Hb} (e : sameB h.1.1 k.1.1 h.1.2 k.1.2 = false) : sameH h k = false := by
  refine sameH_no ?_
  rintro rfl
  rw [(sameB_iff _ _ _ _).2 ⟨rfl, rfl⟩] at e
  simp at e
theorem sameH_peers {h k : Hb} {X Y : List Pm} (hX : X.map (·.1) = h.2.2) (hY : Y.map (·.1) = k.2.2) (e : sameB h.1.1 k.1.1 h.1.2 k.1.2 = true) (e2 : h.2.1 = k.2.1) : sameH h k = eqPs X Y := by
  obtain ⟨e3, e4⟩ := (sameB_iff _ _ _ _).1 e
  cases hq : eqPs X Y
  · refine sameH_no ?_
    rintro rfl
    rw [eqPs_yes (by rw [hX, hY])] at hq
    simp at hq
  · rw [sameH_iff]
    have e5 := (eqPs_iff _ _).1 hq
    rw [hX, hY] at e5
    obtain ⟨⟨h1, h2⟩, h3, h4⟩ := h
    obtain ⟨⟨k1, k2⟩, k3, k4⟩ := k
    simp only at e3 e4 e2 e5
    subst e3 e4 e2 e5
    rfl
theorem enters_uSame1 : ∀ args w, (callFunc 44 args).run Tryz.prog w = .ok (.enter 44 args) w := Go.Proofs.enters_of Tryz.func44 (by kernel_rfl) rfl
theorem enters_rSameHub1 : ∀ args w, (callFunc 48 args).run Tryz.prog w = .ok (.enter 48 args) w := Go.Proofs.enters_of Tryz.func48 (by kernel_rfl) rfl

set_option maxHeartbeats 2000000 in
set_option maxRecDepth 100000 in
theorem usame_any (w : World) (v v' : Value) (h k : Hb) (hh : HuIs w v h) (hk : HuIs w v' k) :
    Calls Tryz.prog 13 #[v, v'] w fun e w' => e = .returned (.bool (sameH h k)) ∧ Below w.heap.size w w' := by
  obtain ⟨a, c, p, d, q, g, X, rfl, hX⟩ := hh
  obtain ⟨a', c', p', d', q', g', Y, rfl, hY⟩ := hk
  have HX := Lib.hid hX
  have HY := Lib.hid hY
  clear hX hY
  have HNO := Lib.hid (@sameH_hist h k)
  have HEQ := Lib.hid (@sameH_peers h k X Y HX.out.are HY.out.are)
  have HN2 : Hid (h.2.1 ≠ k.2.1 → sameH h k = false) := fun e => sameH_no (by rintro rfl; exact e rfl)
  obtain ⟨⟨L, T⟩, n, P⟩ := h
  obtain ⟨⟨L', T'⟩, n', P'⟩ := k
  have hl : L.length ≤ maxLen := by have := HX.out.few1; simp only at this; unfold maxLen; omega
  have ht : T.length ≤ maxLen := HX.out.few2
  go_enter Tryz.func13, Tryz.ntmps13
  go_wp2_with fail
  obtain ⟨W0, hW, hA, hC, hB, -⟩ := laid2 w [Value.slice a L.length c, .slice p T.length d, .int .i64 n, .slice q X.length g] 30 [Value.slice a' L'.length c', .slice p' T'.length d', .int .i64 n', .slice q' Y.length g'] 30
  rw [hW]
  clear hW
  refine (same_any W0 a a' p p' c c' d d' L L' T T' hl ht (HX.out.keep hB).steps (HY.out.keep hB).steps (HX.out.keep hB).places (HY.out.keep hB).places).mono ?_
  rintro e w1 ⟨rfl, hb1⟩
  have hA1 := hA.keep hb1
  have hC1 := hC.keep hb1
  have HB1 : Hid (Below w.heap.size w w1) := hB.trans (hb1.mono hB.size)
  clear hA hC hB hb1
  have x2 := hA1.at 2 rfl
  have x3 := hA1.at 3 rfl
  have y2 := hC1.at 2 rfl
  have y3 := hC1.at 3 rfl
  clear hA1 hC1
  cases hq : sameB L L' T T'
  · have HE := Lib.hid (HNO.out hq)
    clear hq HNO HEQ HN2
    go_wp2
    go_ret
    exact ⟨ret_bool HE.out.symm, HB1.out⟩
  by_cases hn : n = n'
  case neg =>
    have d1 : (n == n') = false := by simpa using hn
    have HE := Lib.hid (HN2.out hn)
    clear hq HNO HEQ HN2 hn
    go_wp2
    go_ret
    exact ⟨ret_bool HE.out.symm, HB1.out⟩
  have HE := Lib.hid (HEQ.out hq hn)
  subst hn
  clear hq HNO HEQ HN2
  go_wp2_with fail
  refine (eqFuncP_any w1 q q' g g' X Y 44 HX.out.few3 (HX.out.peers.keep HB1.out) (HY.out.peers.keep HB1.out) enters_uSame1 (fun W x y hx hy => usame1_any W x y hx hy)).mono ?_
  rintro e w2 ⟨rfl, hb2⟩
  have HB2 : Hid (Below w.heap.size w w2) := HB1.out.trans (hb2.mono HB1.out.size)
  clear HB1 hb2 x2 x3 y2 y3
  go_wp2
  go_ret
  exact ⟨ret_bool HE.out.symm, HB2.out⟩

set_option maxHeartbeats 2000000 in
set_option maxRecDepth 100000 in
theorem rsameHub_any (w : World) (v v' : Value) (h k : Hb) (hh : HuIs w v h) (hk : HuIs w v' k) :
    Calls Tryz.prog 14 #[v, v'] w fun e w' => e = .returned (.bool (sameH h k)) ∧ Below w.heap.size w w' := by
  obtain ⟨a, c, p, d, q, g, X, rfl, hX⟩ := hh
  obtain ⟨a', c', p', d', q', g', Y, rfl, hY⟩ := hk
  have HX := Lib.hid hX
  have HY := Lib.hid hY
  clear hX hY
  have HNO := Lib.hid (@sameH_hist h k)
  have HEQ := Lib.hid (@sameH_peers h k X Y HX.out.are HY.out.are)
  have HN2 : Hid (h.2.1 ≠ k.2.1 → sameH h k = false) := fun e => sameH_no (by rintro rfl; exact e rfl)
  obtain ⟨⟨L, T⟩, n, P⟩ := h
  obtain ⟨⟨L', T'⟩, n', P'⟩ := k
  have hl : L.length ≤ maxLen := by have := HX.out.few1; simp only at this; unfold maxLen; omega
  have ht : T.length ≤ maxLen := HX.out.few2
  go_enter Tryz.func14, Tryz.ntmps14
  go_wp2_with fail
  obtain ⟨W0, hW, hA, hC, hB, -⟩ := laid2 w [Value.slice a L.length c, .slice p T.length d, .int .i64 n, .slice q X.length g] 30 [Value.slice a' L'.length c', .slice p' T'.length d', .int .i64 n', .slice q' Y.length g'] 30
  rw [hW]
  clear hW
  refine (rsame_any W0 a a' p p' c c' d d' L L' T T' hl ht (HX.out.keep hB).steps (HY.out.keep hB).steps (HX.out.keep hB).places (HY.out.keep hB).places).mono ?_
  rintro e w1 ⟨rfl, hb1⟩
  have hA1 := hA.keep hb1
  have hC1 := hC.keep hb1
  have HB1 : Hid (Below w.heap.size w w1) := hB.trans (hb1.mono hB.size)
  clear hA hC hB hb1
  have x2 := hA1.at 2 rfl
  have x3 := hA1.at 3 rfl
  have y2 := hC1.at 2 rfl
  have y3 := hC1.at 3 rfl
  clear hA1 hC1
  cases hq : sameB L L' T T'
  · have HE := Lib.hid (HNO.out hq)
    clear hq HNO HEQ HN2
    go_wp2
    go_ret
    exact ⟨ret_bool HE.out.symm, HB1.out⟩
  by_cases hn : n = n'
  case neg =>
    have d1 : (n == n') = false := by simpa using hn
    have HE := Lib.hid (HN2.out hn)
    clear hq HNO HEQ HN2 hn
    go_wp2
    go_ret
    exact ⟨ret_bool HE.out.symm, HB1.out⟩
  have HE := Lib.hid (HEQ.out hq hn)
  subst hn
  clear hq HNO HEQ HN2
  go_wp2_with fail
  refine (eqFuncP_any w1 q q' g g' X Y 48 HX.out.few3 (HX.out.peers.keep HB1.out) (HY.out.peers.keep HB1.out) enters_rSameHub1 (fun W x y hx hy => rsameHub1_any W x y hx hy)).mono ?_
  rintro e w2 ⟨rfl, hb2⟩
  have HB2 : Hid (Below w.heap.size w w2) := HB1.out.trans (hb2.mono HB1.out.size)
  clear HB1 hb2 x2 x3 y2 y3
  go_wp2
  go_ret
  exact ⟨ret_bool HE.out.symm, HB2.out⟩
end Go.Proofs.YthlhnokgcnieeadGreat

/- slices.DeleteFunc at places, on a slice of the call's own. -/
namespace Go.Proofs.YthlhnokgcnieeadGreat
open Go.ChangeShapes Go.WideShapes Go.ChangeAt Go.RowKit
open Orangery (Pl idxF Kept)

theorem HoldsP.set {w : World} {g : Nat} {m : List Pl} (h : HoldsP w g m) (i : Nat) (hi : i < m.length) (x : Pl) :
    HoldsP (((w.setCell ⟨g, i * 3, none⟩ (.int .i64 x.1)).setCell ⟨g, i * 3 + 1, none⟩ (.int .i64 x.2.1)).setCell ⟨g, i * 3 + 2, none⟩ (.int .i64 x.2.2)) g (m.set i x) := by
  obtain ⟨hp, hf⟩ := h
  refine ⟨?_, ?_⟩
  · intro k hk
    have hk' : k < m.length := by simpa using hk
    have h0 := hp i hi
    have h1 := hp k hk'
    simp only [Nat.zero_add] at h0 h1 ⊢
    by_cases hik : i = k
    · subst hik
      simp only [List.getElem_set_self]
      refine ⟨?_, ?_, ?_⟩
      · rw [World.cell?_setCell_other _ _ _ _ (by simp), World.cell?_setCell_other _ _ _ _ (by simp), World.cell?_setCell_same _ _ _ h0.1]
      · rw [World.cell?_setCell_other _ _ _ _ (by simp), World.cell?_setCell_same _ _ _ (u := .int .i64 m[i].2.1)]
        rw [World.cell?_setCell_other _ _ _ _ (by simp), h0.2.1]
      · rw [World.cell?_setCell_same _ _ _ (u := .int .i64 m[i].2.2)]
        rw [World.cell?_setCell_other _ _ _ _ (by simp), World.cell?_setCell_other _ _ _ _ (by simp), h0.2.2]
    · rw [List.getElem_set_ne hik]
      refine ⟨?_, ?_, ?_⟩
      all_goals
        rw [World.cell?_setCell_other _ _ _ _ (by simp <;> omega), World.cell?_setCell_other _ _ _ _ (by simp <;> omega), World.cell?_setCell_other _ _ _ _ (by simp <;> omega)]
      · exact h1.1
      · exact h1.2.1
      · exact h1.2.2
  · intro k hk
    simp only [World.frozen?_setCell]
    exact hf k (by simpa using hk)

theorem HoldsP.below {w w' : World} {g : Nat} {m : List Pl} (h : HoldsP w g m) (hg : g < w.heap.size) (hb : Below w.heap.size w w') : HoldsP w' g m :=
  ⟨fun i hi => by rw [hb.cell hg, hb.cell hg, hb.cell hg]; exact h.1 i hi, fun i hi => by rw [hb.frozen hg]; exact h.2 i hi⟩

theorem zeroPlaces (n : Nat) : ∀ v ∈ (Builtin.zeroCells #[Value.int IntKind.i64 0, Value.int IntKind.i64 0, Value.int IntKind.i64 0] n).toList, v.oneCell' = true := by
  intro v hv
  simp [Builtin.zeroCells] at hv
  obtain ⟨a, _, rfl⟩ := hv
  have : a % 3 = 0 ∨ a % 3 = 1 ∨ a % 3 = 2 := by omega
  rcases this with h | h | h <;> rw [h] <;> rfl

/-- 'clear' of the end of a row -/
theorem run_clear_places (w : World) (ty : TypeId) (g i n c : Nat) (m : List Pl) (h : HoldsP w g m) (hn : i + n = m.length) (hp : 0 < n) :
    ∃ vs, vs.length = n * 3 ∧ (Builtin.clear_ #[23] ty #[.slice (some ⟨g, i * 3, none⟩) n c]).run Tryz.prog w = .ok (.tuple #[]) (w.setCells g (i * 3) vs) := by
  refine ⟨(Builtin.zeroCells #[Value.int IntKind.i64 0, Value.int IntKind.i64 0, Value.int IntKind.i64 0] n).toList, by simp [size_zeroCells], ?_⟩
  have hst := run_storeCells_cells (P := Tryz.prog) g (i * 3) (Builtin.zeroCells #[Value.int IntKind.i64 0, Value.int IntKind.i64 0, Value.int IntKind.i64 0] n).toList 0 w
    (by
      intro j hj
      have hj' : j < n * 3 := by simpa [size_zeroCells] using hj
      have hc := h.1 ((i * 3 + j) / 3) (by omega)
      have hm : (i * 3 + j) % 3 = 0 ∨ (i * 3 + j) % 3 = 1 ∨ (i * 3 + j) % 3 = 2 := by omega
      rcases hm with hm | hm | hm
      · rw [show i * 3 + 0 + j = 0 + (i * 3 + j) / 3 * 3 by omega, hc.1]; rfl
      · rw [show i * 3 + 0 + j = 0 + (i * 3 + j) / 3 * 3 + 1 by omega, hc.2.1]; rfl
      · rw [show i * 3 + 0 + j = 0 + (i * 3 + j) / 3 * 3 + 2 by omega, hc.2.2]; rfl)
    (by
      intro j hj
      have hj' : j < n * 3 := by simpa [size_zeroCells] using hj
      exact h.2 _ (by omega))
    (zeroPlaces n)
  simp only [Nat.add_zero] at hst
  obtain ⟨k, rfl⟩ : ∃ k, n = k + 1 := ⟨n - 1, by omega⟩
  have hz := Tryz.zeroValue64
  simp [Builtin.clear_, run_underlying Tryz.underlying23, hz, Value.cells, hst]

theorem HoldsP.cleared {w : World} {g i : Nat} {m : List Pl} (h : HoldsP w g m) (vs : List Value) (hi : i ≤ m.length) : HoldsP (w.setCells g (i * 3) vs) g (m.take i) := by
  refine ⟨fun k hk => ?_, fun k hk => ?_⟩
  · have hk' : k < i := by simp at hk; omega
    have := h.1 k (by omega)
    rw [List.getElem_take]
    rw [World.cell?_setCells_out _ _ _ _ _ (by simp; omega), World.cell?_setCells_out _ _ _ _ _ (by simp; omega), World.cell?_setCells_out _ _ _ _ _ (by simp; omega)]
    exact this
  · rw [World.frozen?_setCells]
    exact h.2 k (by simp at hk; omega)

theorem below_setCells {B : Nat} {w : World} (g : Nat) (hg : B ≤ g) : ∀ (vs : List Value) (o : Nat) (W : World), Below B w W → Below B w (W.setCells g o vs)
  | [], _, _, h => h
  | v :: r, o, W, h => below_setCells g hg r (o + 1) _ (h.setCell (by exact hg) v)

set_option maxHeartbeats 2000000 in
theorem delete_any (w : World) (base : Nat) (sv : Value) (l : List Pl) (k : Nat) (v : Value) (f : Pl → Bool) (hl : l.length ≤ 1000) (h : OwnS w base sv l)
    (hbase : base ≤ w.heap.size)
    (eg : ∀ args w, (callFunc k args).run Tryz.prog w = .ok (.enter k args) w)
    (hg : ∀ W p, Below base w W → Calls Tryz.prog k #[plV p, v] W fun e w' => e = .returned (.bool (f p)) ∧ Below W.heap.size W w') :
    Calls Tryz.prog 130 #[sv, .func (.func k) #[] #[v]] w
      fun e w' => ∃ rv, e = .returned rv ∧ OwnS w' base rv (l.filter fun p => !f p) ∧ Below base w w' := by
  obtain ⟨a, c, rfl, hP⟩ := h.slp
  go_enter Tryz.func130, Tryz.ntmps130
  go_wp2_with fail
  refine (indexFunc_any w a c l k v f (by unfold maxLen; omega) hP eg (fun W p hb => hg W p (hb.mono hbase))).mono ?_
  rintro e w1 ⟨rfl, hb1⟩
  have hO1 := h.below hb1
  have hB1 : Below base w w1 := hb1.mono hbase
  have hS1 : base ≤ w1.heap.size := Nat.le_trans hbase hb1.size
  clear hP h
  rcases Orangery.idxF_first f l 0 with ⟨h1, h2⟩ | ⟨i, hi, h1, h2⟩
  · rw [h1]
    have HE : Hid (l.filter (fun p => !f p) = l) := h2
    clear h1 h2
    go_wp2
    go_ret
    exact ⟨_, rfl, by rw [HE.out]; exact hO1, hB1⟩
  · rw [h1, Nat.zero_add]
    have hK := Kept.start f l i hi h2
    clear h1 h2
    rcases hO1 with ⟨_, hO1⟩ | ⟨g, cap, hv, hgb, hgl, hcap, hcm, hH, hrow⟩
    · exact absurd hi (by simp [hO1])
    have hv' : a = some ⟨g, 0, none⟩ ∧ c = cap := by simpa using hv
    obtain ⟨rfl, rfl⟩ := hv'
    clear hv
    have HH : Hid (HoldsP w1 g l) := hH
    have HROW : Hid (RowAt w1 g c) := hrow
    clear hrow
    have HK : Hid (Kept f l l i (i + 1)) := hK
    clear hH hK
    have hi' : ((i : Int) == -1) = false := by simp <;> omega
    go_wp2
    go_loopw [5, 6] (fun x y W => ∃ (i j : Nat) (m : List Pl), x = .int .i64 i ∧ y = .int .i64 j ∧ Kept f l m i j ∧ HoldsP W g m ∧ (g < W.heap.size ∧ RowAt W g c) ∧ Below base w W) (fun _ y _ => l.length - (intOf y).toNat)
    case atStart => exact ⟨i, i + 1, l, rfl, by go_num, HK.out, HH.out, ⟨hgl, HROW.out⟩, hB1⟩
    case round =>
      clear hgl HH HK hi' HROW
      obtain ⟨i, j, m, rfl, rfl, hK, hH, ⟨hgl, hrow⟩, hb⟩ := hrel
      have HROW : Hid (RowAt wr g c) := hrow
      clear hrow
      have HH : Hid (HoldsP wr g m) := hH
      have HK : Hid (Kept f l m i j) := hK
      have hml : m.length = l.length := hK.1
      have hij : i < j := hK.2.1
      have hjl : j ≤ l.length := hK.2.2.1
      by_cases hlt : j < l.length
      · obtain ⟨hjm, hmj⟩ := hK.get hlt
        have gg := hH.1 j hjm
        rw [hmj] at gg
        simp only [Nat.zero_add] at gg
        obtain ⟨g0, g1, g2⟩ := gg
        have hx := hH.1 i (by omega)
        simp only [Nat.zero_add] at hx
        obtain ⟨x0, x1, x2⟩ := hx
        have hfr : ∀ t, t < m.length * 3 → wr.frozen? ⟨g, t, none⟩ = false := hH.2
        have K1 := hK.skip hlt
        have K2 := hK.keep hlt
        have HK1 : Hid (f l[j] = true → Kept f l m i (j + 1)) := K1
        have HK2 : Hid (f l[j] = false → Kept f l (m.set i l[j]) (i + 1) (j + 1)) := K2
        have HQ0 : Hid (m[j] = l[j]) := hmj
        clear hH hK K1 K2 hmj
        generalize hq : l[j] = q at *
        obtain ⟨q0, q1, q2⟩ := q
        have HQ : Hid (l[j] = (q0, q1, q2)) := hq
        clear hq
        simp only at g0 g1 g2
        go_wp2_with fail
        refine (hg _ (q0, q1, q2) (hb.alloc (Nat.le_trans hbase hb.size) _)).mono ?_
        rintro e w2 ⟨rfl, hb2⟩
        have hb3 : Below base w w2 := (hb.alloc (Nat.le_trans hbase hb.size) _).trans (hb2.mono (by simp; exact Nat.le_succ_of_le (Nat.le_trans hbase hb.size)))
        have hB2 : Below wr.heap.size wr w2 := (Go.Joins.below_alloc1 wr _).trans (hb2.mono (by simp))
        have z0 : w2.cell? ⟨wr.heap.size, 0, none⟩ = some (.int .i64 q0) := by rw [hb2.cell (by simp)]; simp
        have z1 : w2.cell? ⟨wr.heap.size, 1, none⟩ = some (.int .i64 q1) := by rw [hb2.cell (by simp)]; simp
        have z2 : w2.cell? ⟨wr.heap.size, 2, none⟩ = some (.int .i64 q2) := by rw [hb2.cell (by simp)]; simp
        have H2 : HoldsP w2 g m := HH.out.below hgl hB2
        have hgl2 : g < w2.heap.size := Nat.lt_of_lt_of_le hgl hB2.size
        have HROW2 : Hid (RowAt w2 g c) := HROW.out.below hB2 hgl
        have hne : ¬ wr.heap.size = g := by omega
        clear hb2 hB2 g0 g1 g2 x0 x1 x2 hfr hb HH
        cases hr : f (q0, q1, q2)
        · have HH2 : Hid (HoldsP w2 g m) := H2
          have hx := H2.1 i (by omega)
          simp only [Nat.zero_add] at hx
          obtain ⟨x0, x1, x2⟩ := hx
          have f0 := H2.2 (i * 3) (by omega)
          have f1 := H2.2 (i * 3 + 1) (by omega)
          have f2 := H2.2 (i * 3 + 2) (by omega)
          clear H2
          go_wp2
          go_roundw
          case rel =>
            refine ⟨i + 1, j + 1, m.set i (q0, q1, q2), by go_num, by go_num, HK2.out hr, HH2.out.set i (by omega) (q0, q1, q2), ⟨by simpa using hgl2, ((HROW2.out.set _ _ _).set _ _ _).set _ _ _⟩, ((hb3.setCell hgb _).setCell hgb _).setCell hgb _⟩
          case measure => simp [intOf]; omega
        · go_wp2
          go_roundw
          case rel => exact ⟨i, j + 1, m, rfl, by go_num, HK1.out hr, H2, ⟨hgl2, HROW2.out⟩, hb3⟩
          case measure => simp [intOf]; omega
      · have e := hK.done hlt
        have HE : Hid (m.take i = l.filter fun p => !f p) := e
        obtain ⟨vs, hvs, hrun⟩ := run_clear_places wr 0 g i (l.length - i) (c - i) m hH (by omega) (by omega)
        have HH2 : Hid (HoldsP (wr.setCells g (i * 3) vs) g (m.take i)) := hH.cleared vs (by omega)
        have hb2 := below_setCells g hgb vs (i * 3) wr hb
        have hlen : (m.take i).length = i := by simp; omega
        have hsz : (wr.setCells g (i * 3) vs).heap.size = wr.heap.size := by simp [Go.Sort.size_setCells]
        clear e hH hK
        go_wp2
        go_ret
        refine ⟨_, rfl, ?_, hb2⟩
        rw [← HE.out]
        refine Or.inr ⟨g, c, by rw [hlen]; rfl, hgb, by rw [hsz]; exact hgl, by omega, hcm, HH2.out, RowAt.sets g _ _ _ HROW.out⟩
end Go.Proofs.YthlhnokgcnieeadGreat

