/- 4 texts of the proof: move.with: a place put in by its node. orangerylaw.small; the fields of values that are no variables. view.together, view.Same, orangeryref.SameView. view.Check. -/
import Derived.Laws.AppendOwnNone
import Derived.Test.YtkjgoikcibgonacP06
import Derived.Test.YtkjgoikcibgonacP07
import Derived.Test.YtkjgoikcibgonacP04
import Derived.Test.YtkjgoikcibgonacP03
import Derived.Test.YtkjgoikcibgonacP05
/- move.with: a place put in by its node. -/
namespace Go.Proofs.Ytkjgoikcibgonac
open Go.ChangeShapes Go.WideShapes Go.ChangeAt Go.RowKit
open Orangery (Pl Mv Stp outL inL cmpI byNode)

def cmpN (p q : Pl) : Int := cmpI p.1 q.1
theorem cmpN_lt (p q : Pl) : cmpN p q < 0 ↔ p.1 < q.1 := by
  unfold cmpN cmpI
  by_cases h1 : p.1 < q.1
  · simp [h1]
  · by_cases h2 : q.1 < p.1 <;> simp [h1, h2]
theorem swoNode : Go.Sort.SWO (Go.Proofs.ltOf cmpN) := by
  refine ⟨fun x => ?_, fun x y z h1 h2 => ?_, fun x y z h1 h2 => ?_⟩
  · have : ¬ cmpN x x < 0 := by rw [cmpN_lt]; omega
    simpa [Go.Proofs.ltOf] using this
  · simp only [Go.Proofs.ltOf, decide_eq_true_eq, cmpN_lt] at *
    omega
  · simp only [Go.Proofs.ltOf, decide_eq_false_iff_not, cmpN_lt] at *
    omega

theorem sort_node (w : World) (base : Nat) (sv : Value) (l : List Pl) (hl : l.length ≤ 1000) (hbase : base ≤ w.heap.size) (h : OwnS w base sv l) :
    Calls Try.prog 47 #[sv, .func (.func 57) #[] #[]] w
      fun e w' => e = .returned (.tuple #[]) ∧ ∃ l', l'.Perm l ∧ (l'.Pairwise fun p q => p.1 ≤ q.1) ∧ OwnS w' base sv l' ∧ Below base w w' ∧ w.grownBy w' sv.ownBlock := by
  refine (sort_gen 57 cmpN swoNode (Go.Proofs.enters_of Try.func57 (by kernel_rfl) rfl) (fun w p q => with1_any w p q) w base sv l hl hbase h).mono ?_
  rintro e w' ⟨he, l', h1, h2, h3, h4, h5⟩
  exact ⟨he, l', h1, h2.imp (fun {p q} hh => by rw [cmpN_lt] at hh; omega), h3, h4, h5⟩

/-- an own slice, behind the writing of a block of another type -/
theorem OwnS.apart {w : World} {base : Nat} {v : Value} {l : List Pl} (h : OwnS w base v l) {b : Nat} {cs : Array Value} {t : TypeId} {fr : Nat × Nat} (hb : w.heap[b]? = some (.cells cs t fr)) (ht : t ≠ 53) :
    some b ≠ v.ownBlock ∧ ∀ j u, OwnS (w.setCell ⟨b, j, none⟩ u) base v l := by
  rcases h with ⟨rfl, rfl⟩ | ⟨g, cap, rfl, h1, hl, h2, h3, ⟨hp, hf⟩, hr⟩
  · exact ⟨by simp [Value.ownBlock], fun j u => Or.inl ⟨rfl, rfl⟩⟩
  · have hne : ¬ b = g := by
      rintro rfl
      obtain ⟨cur, hc, _⟩ := hr
      rw [hb] at hc
      simp at hc
      exact ht hc.2.1
    refine ⟨by simp [Value.ownBlock, hne], fun j u => ?_⟩
    refine Or.inr ⟨g, cap, rfl, h1, by simpa using hl, h2, h3, ⟨fun i hi => ?_, fun i hi => ?_⟩, hr.set _ _ _⟩
    · rw [World.cell?_setCell_other _ _ _ _ (by simp <;> omega), World.cell?_setCell_other _ _ _ _ (by simp <;> omega), World.cell?_setCell_other _ _ _ _ (by simp <;> omega)]
      exact hp i hi
    · simp only [World.frozen?_setCell]
      exact hf i hi

set_option maxHeartbeats 1000000 in
set_option maxRecDepth 100000 in
theorem with_any (w : World) (a : Option Addr) (c : Nat) (l : List Pl) (p : Pl) (hl : l.length ≤ 900) (h : SlP w a l) (hs : byNode l) :
    Calls Try.prog 39 #[.agg #[.slice a l.length c], plV p] w
      fun e w' => ∃ v, e = .returned (.agg #[v]) ∧ OwnS w' w.heap.size v (inL l p) ∧ Below w.heap.size w w' := by
  obtain ⟨p0, p1, p2⟩ := p
  obtain ⟨i0, hi, hz0, hz1, hz2⟩ := info_parts infoPlace
  go_enter Try.func39, Try.ntmps39
  go_wp2_with fail
  obtain ⟨W0, hW, _, hN, hR, hB, hS⟩ := laid3 w [Value.slice a l.length c] 24 [Value.int IntKind.i64 p0, Value.int IntKind.i64 p1, Value.int IntKind.i64 p2] 53 [Value.slice none 0 0] 24
  rw [hW]
  clear hW
  have hP := h.below hB
  clear h
  refine (without_any W0 a c l p0 (by omega) hP).mono ?_
  rintro e w1 ⟨v1, rfl, hO1, hb1⟩
  have hN1 := hN.keep hb1
  have hR1 := hR.keep hb1
  have HB1 : Hid (Below w.heap.size w w1) := hB.trans (hb1.mono hB.size)
  obtain ⟨a1, c1, rfl⟩ := hO1.val
  clear hN hR hB hP
  have x0 := hN1.at 0 rfl
  have x1 := hN1.at 1 rfl
  have x2 := hN1.at 2 rfl
  have n0 : ¬ w1.heap.size = w.heap.size + 1 := by have := hN1.lt; omega
  have n1 : w.heap.size + 1 < w1.heap.size := hN1.lt
  have hsz1 : w.heap.size + 3 ≤ w1.heap.size := by have := hb1.size; omega
  have hU := Blk.new w1 [Value.slice a1 (outL l p0).length c1] 24
  have hU2 := hU.alloc (Obj.cells #[Value.int IntKind.i64 p0, Value.int IntKind.i64 p1, Value.int IntKind.i64 p2] 53)
  have hR2 := (hR1.alloc (Obj.cells #[Value.slice a1 (outL l p0).length c1] 24)).alloc (Obj.cells #[Value.int IntKind.i64 p0, Value.int IntKind.i64 p1, Value.int IntKind.i64 p2] 53)
  have hown := (hO1.row.alloc (Obj.cells #[Value.slice a1 (outL l p0).length c1] 24)).alloc (Obj.cells #[Value.int IntKind.i64 p0, Value.int IntKind.i64 p1, Value.int IntKind.i64 p2] 53)
  have hB2 := ((Below.refl w1.heap.size w1).alloc (Nat.le_refl _) (Obj.cells #[Value.slice a1 (outL l p0).length c1] 24)).alloc (by simp) (Obj.cells #[Value.int IntKind.i64 p0, Value.int IntKind.i64 p1, Value.int IntKind.i64 p2] 53)
  have hlt1 := hO1.row.lt
  have hlen : (outL l p0).length ≤ 900 := Nat.le_trans (List.length_filter_le _ _) hl
  have HU2 : Hid (Blk ((w1.alloc (Obj.cells #[Value.slice a1 (outL l p0).length c1] 24)).alloc (Obj.cells #[Value.int IntKind.i64 p0, Value.int IntKind.i64 p1, Value.int IntKind.i64 p2] 53)) w1.heap.size [Value.slice a1 (outL l p0).length c1]) := hU2
  have HR2 : Hid (Blk ((w1.alloc (Obj.cells #[Value.slice a1 (outL l p0).length c1] 24)).alloc (Obj.cells #[Value.int IntKind.i64 p0, Value.int IntKind.i64 p1, Value.int IntKind.i64 p2] 53)) (w.heap.size + 1 + 1) [Value.slice none 0 0]) := hR2
  have HL : Hid (∀ k, (Value.slice a1 (outL l p0).length c1).ownBlock = some k → W0.heap.size ≤ k ∧ k < w1.heap.size) := hlt1
  clear hU hU2 hR2 hO1 hR1 hN1 hlt1
  go_wp2_with (at_builtin; refine wpList_append_own _ rfl _ _ 22 rfl W0.heap.size 53 i0 _ 3 24 Try.underlying22 hi hz0 hz1 hz2 rfl (by decide) _ _ _ rfl hown ⟨w1.heap.size + 1, 0, none⟩ 1 1 [.int .i64 p0, .int .i64 p1, .int .i64 p2] rfl rfl ?c1 ?c2 ?c3 ?c4 ?c5 ?_)
  case c1 =>
    intro t u ht
    match t, ht with
    | 0, ht => simp at ht; subst ht; simp [Addr.add]
    | 1, ht => simp at ht; subst ht; simp [Addr.add]
    | 2, ht => simp at ht; subst ht; simp [Addr.add]
    | t + 3, ht => simp at ht
  case c2 => intro u hu; simp at hu; rcases hu with rfl | rfl | rfl <;> rfl
  case c3 => unfold maxLen; omega
  case c4 => omega
  case c5 => simp; omega
  · intro v2 w2 hown' hgrow _
    have hO2 : OwnS w2 (w.heap.size + 3) v2 (outL l p0 ++ [(p0, p1, p2)]) := own_pls (by simpa [encPl] using hown')
    have hne : ∀ k, k = w1.heap.size ∨ k < W0.heap.size → some k ≠ (Value.slice a1 (outL l p0).length c1).ownBlock := by
      intro k hk e
      have := HL.out k e.symm
      omega
    have hU3 := HU2.out.grown hgrow (hne _ (Or.inl rfl))
    have hR3 := HR2.out.grown hgrow (hne _ (Or.inr (by omega)))
    have hblk : w2.heap[w1.heap.size]? = some (Obj.cells #[Value.slice a1 (outL l p0).length c1] 24) := by
      rw [hgrow.block w1.heap.size (by simp; omega) (hne _ (Or.inl rfl)), blk_old (by simp)]
      exact blk_new rfl
    have hb2 : Below W0.heap.size w1 w2 := (hB2.mono hb1.size).grown hgrow (by simp; have := hb1.size; omega) (fun k hk => (HL.out k hk).1)
    have hsz2 : w1.heap.size ≤ w2.heap.size := hb2.size
    have HB2 : Hid (Below w.heap.size w w2) := HB1.out.trans (hb2.mono (by omega))
    obtain ⟨hown3, happ⟩ := hO2.apart hblk (by decide)
    obtain ⟨a2, c2, rfl⟩ := hO2.val
    generalize hK : outL l p0 ++ [(p0, p1, p2)] = K at *
    have HIN : Hid (∀ l', l'.Perm K → (l'.Pairwise fun p q => p.1 ≤ q.1) → l' = inL l (p0, p1, p2)) := fun l' h1 h2 => Orangery.in_unique l l' (p0, p1, p2) hs (by rw [← hK] at h1; exact h1) h2
    have hKl : K.length ≤ 1000 := by rw [← hK]; simp; omega
    have u0 := hU3.at 0 rfl
    have uf := hU3.frz
    have hU4 := hU3.set 0 (by simp) (.slice a2 K.length c2)
    have hR4 := hR3.other (g := w1.heap.size) (by omega) 0 (.slice a2 K.length c2)
    have hO4 := happ 0 (.slice a2 K.length c2)
    have HB4 : Hid (Below w.heap.size w (w2.setCell ⟨w1.heap.size, 0, none⟩ (.slice a2 K.length c2))) := HB2.out.setCell (by show w.heap.size ≤ w1.heap.size; omega) _
    have HBK : Hid (Blk (w2.setCell ⟨w1.heap.size, 0, none⟩ (.slice a2 K.length c2)) w1.heap.size [.slice a2 K.length c2] ∧ Blk (w2.setCell ⟨w1.heap.size, 0, none⟩ (.slice a2 K.length c2)) (w.heap.size + 1 + 1) [Value.slice none 0 0] ∧ some w1.heap.size ≠ (Value.slice a2 K.length c2).ownBlock) := ⟨hU4, hR4, hown3⟩
    clear hgrow hown hown' hne hU3 hR3 HU2 HR2 hB2 x0 x1 x2 hO2 HB1 hK hblk happ hU4 hR4 hown3 HB2
    go_wp2_with fail
    refine (sort_node _ (w.heap.size + 3) _ K hKl (by simp; omega) hO4).mono ?_
    rintro e w3 ⟨rfl, l', hp', hs', hO5, hb5, hg5⟩
    have hl' := HIN.out l' hp' hs'
    subst hl'
    have hU5 := HBK.out.1.grown hg5 HBK.out.2.2
    have hR5 := HBK.out.2.1.below hb5 (by omega)
    have u5 := hU5.at 0 rfl
    have r5 := hR5.at 0 rfl
    have rf := hR5.frz
    have HO5 : Hid (OwnS w3 (w.heap.size + 3) (.slice a2 K.length c2) (inL l (p0, p1, p2))) := hO5
    have HB5 : Hid (Below w.heap.size w w3) := HB4.out.trans (hb5.mono (by omega))
    have hne : ¬ w1.heap.size = w.heap.size + 1 + 1 := by omega
    clear hO4 hO5 hb5 hg5 hU5 hR5 HBK HB4 u0 uf
    go_wp2
    have z1 : (w3.setCell ⟨w.heap.size + 1 + 1, 0, none⟩ (.slice a2 K.length c2)).cell? ⟨w.heap.size + 1 + 1, 0, none⟩ = some (.slice a2 K.length c2) := World.cell?_setCell_same _ _ _ r5
    refine bodyPost_ret (v := .agg #[.slice a2 K.length c2]) (by simp [results, Try.results39, go_sem, z1]) rfl ⟨_, rfl, ?_, ?_⟩
    · exact (HO5.out.other _ (by omega) _ _).mono (by omega)
    · exact HB5.out.setCell (by show _ ≤ w.heap.size + 1 + 1; omega) _
end Go.Proofs.Ytkjgoikcibgonac

/- orangerylaw.small; the fields of values that are no variables. -/
namespace Go.Proofs.Ytkjgoikcibgonac
open Go.ChangeShapes Go.WideShapes Go.ChangeAt Go.RowKit
open Orangery (Pl smallL)

set_option maxHeartbeats 1000000 in
theorem small_any (w : World) :
    Calls Try.prog 15 #[] w fun e w' => (∃ a, e = .returned (.agg #[.slice a smallL.length 4]) ∧ SlP w' a smallL) ∧ Below w.heap.size w w' := by
  go_enter Try.func15, Try.ntmps15
  go_wp2
  refine bodyPost_ret (v := .agg #[.slice (some ⟨w.heap.size + 1, 0, none⟩) 4 4]) (by simp [results, Try.results15, go_sem]) rfl ⟨⟨_, rfl, ?_⟩, ?_⟩
  · refine Or.inr ⟨w.heap.size + 1, 0, rfl, by simp, ?_⟩
    intro i hi
    have hi' : i < 4 := hi
    have : i = 0 ∨ i = 1 ∨ i = 2 ∨ i = 3 := by omega
    rcases this with rfl | rfl | rfl | rfl <;> simp [smallL]
  · exact Go.Joins.below_alloc2 w _ _

/-- the fields of a place that is no variable -/
theorem run_field_pl (x0 x1 x2 : Int) (w : World) :
    (Instr.field 53 (.agg #[.int .i64 x0, .int .i64 x1, .int .i64 x2]) 0).run Try.prog w = .ok (.int .i64 x0) w ∧
    (Instr.field 53 (.agg #[.int .i64 x0, .int .i64 x1, .int .i64 x2]) 1).run Try.prog w = .ok (.int .i64 x1) w ∧
    (Instr.field 53 (.agg #[.int .i64 x0, .int .i64 x1, .int .i64 x2]) 2).run Try.prog w = .ok (.int .i64 x2) w := by
  have h1 := Try.underlying53
  have h2 := Try.isAgg3
  have h3 := Try.sizeOf3
  refine ⟨?_, ?_, ?_⟩
  all_goals
    unfold Instr.field
    go_simp
    simp [asAgg]

/-- the places of a tree that is no variable -/
theorem run_field_tree (v : Value) (w : World) : (Instr.field 24 (.agg #[v]) 0).run Try.prog w = .ok v w := by
  have h1 := Try.underlying24
  have h2 := Try.isAgg22
  have h3 := Try.sizeOf22
  unfold Instr.field
  go_simp
  simp [asAgg]
end Go.Proofs.Ytkjgoikcibgonac

/- view.together, view.Same, orangeryref.SameView. -/
namespace Go.Proofs.Ytkjgoikcibgonac
open Go.ChangeShapes Go.WideShapes Go.ChangeAt Go.RowKit
open Orangery (Pl check scan find inPl togL sameV cmpI)

theorem together2_any (w : World) (p q : Pl) :
    Calls Try.prog 59 #[plV p, plV q] w fun e w' => e = .returned (.int .i64 (cmpI p.1 q.1)) ∧ ∃ n os, w' = Go.Sort.grow (w.drewN n) os := by
  obtain ⟨a0, a1, a2⟩ := p
  obtain ⟨b0, b1, b2⟩ := q
  go_enter Try.func59, Try.ntmps59
  go_wp2_with fail
  refine (compare_any _ a0 b0).mono ?_
  rintro e w1 ⟨rfl, rfl⟩
  go_wp2
  go_ret
  exact ⟨rfl, 0, _, by rw [Go.Sort.alloc_eq_grow, Go.Sort.alloc_eq_grow, Go.Sort.grow_grow]; rfl⟩

theorem sort_tog (w : World) (base : Nat) (sv : Value) (l : List Pl) (hl : l.length ≤ 1000) (hbase : base ≤ w.heap.size) (h : OwnS w base sv l) :
    Calls Try.prog 47 #[sv, .func (.func 59) #[] #[]] w
      fun e w' => e = .returned (.tuple #[]) ∧ ∃ l', l'.Perm l ∧ (l'.Pairwise fun p q => p.1 ≤ q.1) ∧ OwnS w' base sv l' ∧ Below base w w' ∧ w.grownBy w' sv.ownBlock := by
  refine (sort_gen 59 cmpN swoNode (Go.Proofs.enters_of Try.func59 (by kernel_rfl) rfl) (fun w p q => together2_any w p q) w base sv l hl hbase h).mono ?_
  rintro e w' ⟨he, l', h1, h2, h3, h4, h5⟩
  exact ⟨he, l', h1, h2.imp (fun {p q} hh => by rw [cmpN_lt] at hh; omega), h3, h4, h5⟩

set_option maxHeartbeats 1000000 in
set_option maxRecDepth 100000 in
theorem together1_any (w : World) (p : Pl) (b : Nat) (v : Value) (a : Option Addr) (c : Nat) (W : List Pl) (hl : W.length ≤ maxLen) (h : SlP w a W) (hB : Blk w b [v, .slice a W.length c]) :
    Calls Try.prog 58 #[plV p, .pointer (some ⟨b, 0, none⟩)] w fun e w' => e = .returned (.bool (inPl W p.1)) ∧ Below w.heap.size w w' := by
  obtain ⟨p0, p1, p2⟩ := p
  obtain ⟨W0, hW, hN, hB0, hS⟩ := laid1 w [Value.int IntKind.i64 p0, Value.int IntKind.i64 p1, Value.int IntKind.i64 p2] 53
  have hX := hB.keep hB0
  have hP := h.below hB0
  have HB0 : Hid (Below w.heap.size w W0) := hB0
  clear h hB hB0
  go_enter Try.func58, Try.ntmps58
  go_upto_region 1 with fail
  clear hW
  have x1 := hX.at 1 rfl
  have n0 := hN.at 0 rfl
  have HQ : Hid (inPl W p0 = decide ((find W p0).1 = p0)) := rfl
  have HF := fun w' => find_any w' a c W p0 hl
  have HFF : Hid (∀ w', SlP w' a W → Calls Try.prog 37 #[.agg #[.slice a W.length c], .int .i64 p0] w' fun e w'' => e = .returned (plV (find W p0)) ∧ Below w'.heap.size w' w'') := HF
  have hfd := fun x0 x1 x2 W => (run_field_pl x0 x1 x2 W).1
  clear HF
  generalize find W p0 = q at *
  obtain ⟨q0, q1, q2⟩ := q
  go_region_held3 (fun w' => w'.cell? ⟨b, 1, none⟩ = some (.slice a W.length c) ∧ w'.cell? ⟨w.heap.size, 0, none⟩ = some (.int .i64 p0)) (go_keep)
    (first | (go_at_call 37; refine (HFF.out _ ?_).mono ?_; exact hP; rintro e w1 ⟨rfl, hb1⟩; have hb1' : Below W0.heap.size W0 w1 := ((Below.refl _ W0).drew).trans hb1; have x11 := (hX.keep hb1').at 1 rfl; have n10 := (hN.keep hb1').at 0 rfl))
  have HB1 : Hid (Below w.heap.size w w1) := HB0.out.trans (hb1'.mono HB0.out.size)
  clear hb1 hb1' x11 n10 x1 n0
  go_wp2
  go_ret
  exact ⟨ret_bool (by rw [HQ.out]; rfl), HB1.out⟩

set_option maxHeartbeats 2000000 in
set_option maxRecDepth 100000 in
theorem together_any (w : World) (aK aW : Option Addr) (cK cW : Nat) (K W : List Pl) (hK : scan 0 K = 0) (hW : scan 0 W = 0) (hc : aW = none → cW = 0) (h1 : SlP w aK K) (h2 : SlP w aW W) :
    Calls Try.prog 41 #[.agg #[.slice aK K.length cK, .slice aW W.length cW]] w
      fun e w' => ∃ v, e = .returned (.agg #[v]) ∧ OwnS w' w.heap.size v (togL K W) ∧ Below w.heap.size w w' := by
  obtain ⟨i0, hi, hz0, hz1, hz2⟩ := info_parts infoPlace
  have hKl : K.length ≤ 15 := by have := Orangery.scan_len K 0 hK (by omega); omega
  have hWl : W.length ≤ 15 := by have := Orangery.scan_len W 0 hW (by omega); omega
  obtain ⟨W0, hW0, hX, hR, hB, hS⟩ := laid2 w [Value.slice aK K.length cK, Value.slice aW W.length cW] 44 [Value.slice none 0 0] 24
  have x0 := hX.at 0 rfl
  have hS1 : w.heap.size + 1 < W0.heap.size := by omega
  clear hS
  have hP1 := h1.below hB
  have HP2 : Hid (SlP w aW W) := h2
  have HB : Hid (Below w.heap.size w W0) := hB
  clear h1 h2
  go_enter Try.func41, Try.ntmps41
  go_wp2_with fail
  clear hW0
  refine (clone_any W0 aK cK K (by omega) hP1).mono ?_
  rintro e w1 ⟨v1, rfl, hO1, hb1⟩
  have hX1 := hX.keep hb1
  have hR1 := hR.keep hb1
  have HB1 : Hid (Below w.heap.size w w1) := HB.out.trans (hb1.mono HB.out.size)
  clear hX hR hB hP1 HB x0
  go_wp2_with fail
  refine (delete_any w1 W0.heap.size v1 K 58 (.pointer (some ⟨w.heap.size, 0, none⟩)) (fun p => inPl W p.1) (by omega) hO1 hb1.size (Go.Proofs.enters_of Try.func58 (by kernel_rfl) rfl) ?_).mono ?_
  · intro V p hV
    exact together1_any V p w.heap.size _ aW cW W (by unfold maxLen; omega) (HP2.out.below (HB1.out.trans (hV.mono (by omega)))) (hX1.below hV (by omega))
  rintro e w2 ⟨v2, rfl, hO2, hb2⟩
  have hX2 := hX1.below hb2 (by omega)
  have hR2 := hR1.below hb2 (by omega)
  have HB2 : Hid (Below w.heap.size w w2) := HB1.out.trans (hb2.mono (by omega))
  have hsz2 : W0.heap.size ≤ w2.heap.size := Nat.le_trans hb1.size hb2.size
  have hO2r := hO2.row
  have hP2 := HP2.out.below HB2.out
  generalize hM : (K.filter fun p => !inPl W p.1) = M at *
  have hMl : M.length ≤ 15 := by rw [← hM]; exact Nat.le_trans (List.length_filter_le _ _) hKl
  have HU : Hid (∀ l', l'.Perm (M ++ W) → (l'.Pairwise fun p q => p.1 ≤ q.1) → l' = togL K W) := fun l' h1 h2 => Orangery.tog_unique K W l' hK hW (by rw [hM]; exact h1) h2
  clear hO1 hb1 hX1 hR1 HB1 hb2 hM hK
  have y1 := hX2.at 1 rfl
  have HX2 : Hid (Blk w2 w.heap.size [Value.slice aK K.length cK, Value.slice aW W.length cW]) := hX2
  have HR2 : Hid (Blk w2 (w.heap.size + 1) [Value.slice none 0 0]) := hR2
  clear hX2 hR2
  have FIN : Hid (∀ (v3 : Value) (w3 : World), OwnS w3 W0.heap.size v3 (M ++ W) → Blk w3 (w.heap.size + 1) [Value.slice none 0 0] → W0.heap.size ≤ w3.heap.size → Below w.heap.size w w3 →
      Calls Try.prog 47 #[v3, .func (.func 59) #[] #[]] w3 fun e w' => e = .returned (.tuple #[]) ∧ OwnS w' W0.heap.size v3 (togL K W) ∧ Blk w' (w.heap.size + 1) [Value.slice none 0 0] ∧ Below w.heap.size w w') := by
    intro v3 w3 h1 h2 h3 h4
    refine (sort_tog w3 W0.heap.size v3 (M ++ W) (by simp; omega) h3 h1).mono ?_
    rintro e w4 ⟨he, l', hp, hs, hO, hb, _⟩
    have := HU.out l' hp hs
    subst this
    exact ⟨he, hO, h2.below hb (by omega), h4.trans (hb.mono (by omega))⟩
  clear HU
  have END : Hid (∀ (v3 : Value) (w4 : World), OwnS w4 W0.heap.size v3 (togL K W) → Below w.heap.size w w4 → ∃ a3 c3, v3 = .slice a3 (togL K W).length c3 ∧ OwnS (w4.setCell ⟨w.heap.size + 1, 0, none⟩ (.slice a3 (togL K W).length c3)) w.heap.size (.slice a3 (togL K W).length c3) (togL K W) ∧ Below w.heap.size w (w4.setCell ⟨w.heap.size + 1, 0, none⟩ (.slice a3 (togL K W).length c3))) := by
    intro v3 w4 h1 h2
    obtain ⟨a3, c3, rfl⟩ := h1.val
    exact ⟨a3, c3, rfl, (h1.other _ (by omega) _ _).mono (by omega), h2.setCell (by show _ ≤ w.heap.size + 1; omega) _⟩
  cases aW with
  | none =>
    have e1 := hP2.none_nil
    have e2 := hc rfl
    have y1' : w2.cell? ⟨w.heap.size, 1, none⟩ = some (.slice none 0 0) := by rw [y1, e1, e2]; rfl
    have E3 : Hid (M ++ W = M) := by show _ = _; rw [e1, List.append_nil]
    clear y1 e1 e2
    go_wp2_with (at_builtin; refine wpList_append_own_none rfl _ _ 22 rfl W0.heap.size 53 i0 3 Try.underlying22 hi _ M.length (M.flatMap encPl) rfl hO2r rfl ?_)
    refine (FIN.out v2 w2 (by rw [E3.out]; exact hO2) HR2.out hsz2 HB2.out).mono ?_
    rintro e w4 ⟨rfl, hO4, hR4, hb4⟩
    obtain ⟨a3, c3, rfl, hOf, hBf⟩ := END.out _ _ hO4 hb4
    have HOf : Hid (OwnS (w4.setCell ⟨w.heap.size + 1, 0, none⟩ (.slice a3 (togL K W).length c3)) w.heap.size (.slice a3 (togL K W).length c3) (togL K W)) := hOf
    have HBf : Hid (Below w.heap.size w (w4.setCell ⟨w.heap.size + 1, 0, none⟩ (.slice a3 (togL K W).length c3))) := hBf
    have HRf : Hid (Blk (w4.setCell ⟨w.heap.size + 1, 0, none⟩ (.slice a3 (togL K W).length c3)) (w.heap.size + 1) [.slice a3 (togL K W).length c3]) := hR4.set 0 (by simp) _
    have r0 := hR4.at 0 rfl
    have rf := hR4.frz
    clear hO4 hOf hBf hR4 hb4 FIN END
    go_wp2
    exact ret_cell Try.results41 rfl HRf.out.tree ⟨_, rfl, HOf.out, HBf.out⟩
  | some ad =>
    have HN : Hid (∀ j u, (W.flatMap encPl)[j]? = some u → w2.cell? (ad.add j) = some u) := hP2.news
    clear hP2
    go_wp2_with (at_builtin; refine wpList_append_own _ rfl _ _ 22 rfl W0.heap.size 53 i0 _ 3 24 Try.underlying22 hi hz0 hz1 hz2 rfl (by decide) _ _ _ rfl hO2r ad W.length cW (W.flatMap encPl) rfl (flatE_len encPl_len W) ?c1 ?c2 ?c3 ?c4 ?c5 ?_)
    case c1 => exact HN.out
    case c2 => exact flat_one W
    case c3 => unfold maxLen; omega
    case c4 => omega
    case c5 => exact hsz2
    intro v3 w3 hown' hgrow _
    have hlo : ∀ g, v2.ownBlock = some g → W0.heap.size ≤ g := fun g hg => (World.ownsRow.lt hO2r g hg).1
    have hO3 : OwnS w3 W0.heap.size v3 (M ++ W) := own_pls (by rw [List.length_append, List.flatMap_append]; exact hown')
    have hR3 := HR2.out.grown hgrow (fun e => by have := hlo _ e.symm; omega)
    have hb3 : Below W0.heap.size w2 w3 := (Below.refl _ w2).grown hgrow hsz2 hlo
    have hB3 : Below w.heap.size w w3 := HB2.out.trans (hb3.mono (by omega))
    have hsz3 : W0.heap.size ≤ w3.heap.size := Nat.le_trans hsz2 hb3.size
    clear hown' hgrow hlo hb3 hO2r HN HX2 HR2 HB2 y1 hO2
    go_wp2_with fail
    refine (FIN.out v3 w3 hO3 hR3 hsz3 hB3).mono ?_
    clear hO3 hR3 hsz3 hB3
    rintro e w4 ⟨rfl, hO4, hR4, hb4⟩
    obtain ⟨a3, c3, rfl, hOf, hBf⟩ := END.out _ _ hO4 hb4
    have HOf : Hid (OwnS (w4.setCell ⟨w.heap.size + 1, 0, none⟩ (.slice a3 (togL K W).length c3)) w.heap.size (.slice a3 (togL K W).length c3) (togL K W)) := hOf
    have HBf : Hid (Below w.heap.size w (w4.setCell ⟨w.heap.size + 1, 0, none⟩ (.slice a3 (togL K W).length c3))) := hBf
    have HRf : Hid (Blk (w4.setCell ⟨w.heap.size + 1, 0, none⟩ (.slice a3 (togL K W).length c3)) (w.heap.size + 1) [.slice a3 (togL K W).length c3]) := hR4.set 0 (by simp) _
    have r0 := hR4.at 0 rfl
    have rf := hR4.frz
    clear hO4 hOf hBf hR4 hb4 FIN END
    go_wp2
    exact ret_cell Try.results41 rfl HRf.out.tree ⟨_, rfl, HOf.out, HBf.out⟩

set_option maxHeartbeats 1000000 in
theorem vsame_any (w : World) (aR aK aV bR bK bV : Option Addr) (cR cK cV dR dK dV : Nat) (R R' : List Int) (K K' V V' : List Pl) (hR : R.length ≤ maxLen) (hK : K.length ≤ maxLen) (hV : V.length ≤ maxLen)
    (h1 : SlI w aR R) (h2 : SlP w aK K) (h3 : SlP w aV V) (h4 : SlI w bR R') (h5 : SlP w bK K') (h6 : SlP w bV V') :
    Calls Try.prog 9 #[viV (.slice aR R.length cR) (.slice aK K.length cK) (.slice aV V.length cV), viV (.slice bR R'.length dR) (.slice bK K'.length dK) (.slice bV V'.length dV)] w
      fun e w' => e = .returned (.bool (sameV R R' K K' V V')) ∧ Below w.heap.size w w' := by
  have HS : Hid (sameV R R' K K' V V' = (eqIs R R' && eqPls K K' && eqPls V V')) := rfl
  obtain ⟨W0, hW, hA, hC, hB, _⟩ := laid2 w [Value.slice aR R.length cR, Value.slice aK K.length cK, Value.slice aV V.length cV] 27 [Value.slice bR R'.length dR, Value.slice bK K'.length dK, Value.slice bV V'.length dV] 27
  have x0 := hA.at 0 rfl
  have y0 := hC.at 0 rfl
  have g1 := h1.below hB
  have g2 := h2.below hB
  have g3 := h3.below hB
  have g4 := h4.below hB
  have g5 := h5.below hB
  have g6 := h6.below hB
  have HB : Hid (Below w.heap.size w W0) := hB
  clear h1 h2 h3 h4 h5 h6 hB
  go_enter Try.func9, Try.ntmps9
  go_wp2_with fail
  clear hW
  refine (equal_is W0 aR bR cR dR R R' hR g1 g4).mono ?_
  rintro e w1 ⟨rfl, n, rfl⟩
  have hb1 : Below W0.heap.size W0 (W0.drewN n) := ⟨rfl, rfl, rfl, Nat.le_refl _, fun _ _ => rfl⟩
  have hA1 := hA.keep hb1
  have hC1 := hC.keep hb1
  have k2 := g2.below hb1
  have k3 := g3.below hb1
  have k5 := g5.below hb1
  have k6 := g6.below hb1
  have HB1 : Hid (Below w.heap.size w (W0.drewN n)) := HB.out.trans (hb1.mono HB.out.size)
  clear hA hC HB hb1 g1 g2 g3 g4 g5 g6 x0 y0
  generalize W0.drewN n = W1 at *
  have x1 := hA1.at 1 rfl
  have y1 := hC1.at 1 rfl
  cases hq : eqIs R R'
  · go_wp2
    go_ret
    exact ⟨ret_bool (by rw [HS.out, hq]; rfl), HB1.out⟩
  · go_wp2_with fail
    refine (equal_pls W1 aK bK cK dK K K' hK k2 k5).mono ?_
    rintro e w2 ⟨rfl, n2, rfl⟩
    have hb2 : Below W1.heap.size W1 (W1.drewN n2) := ⟨rfl, rfl, rfl, Nat.le_refl _, fun _ _ => rfl⟩
    have hA2 := hA1.keep hb2
    have hC2 := hC1.keep hb2
    have m3 := k3.below hb2
    have m6 := k6.below hb2
    have HB2 : Hid (Below w.heap.size w (W1.drewN n2)) := HB1.out.trans (hb2.mono HB1.out.size)
    clear hA1 hC1 HB1 hb2 k2 k3 k5 k6 x1 y1
    generalize W1.drewN n2 = W2 at *
    have x2 := hA2.at 2 rfl
    have y2 := hC2.at 2 rfl
    cases hq2 : eqPls K K'
    · go_wp2
      go_ret
      exact ⟨ret_bool (by rw [HS.out, hq, hq2]; rfl), HB2.out⟩
    · go_wp2_with fail
      refine (equal_pls W2 aV bV cV dV V V' hV m3 m6).mono ?_
      rintro e w3 ⟨rfl, n3, rfl⟩
      have HB3 : Hid (Below w.heap.size w (W2.drewN n3)) := HB2.out.trans ⟨rfl, rfl, rfl, Nat.le_refl _, fun _ _ => rfl⟩
      generalize W2.drewN n3 = W3 at *
      clear m3 m6 x2 y2
      go_wp2
      go_ret
      exact ⟨ret_bool (by rw [HS.out, hq, hq2]; rfl), HB3.out⟩

end Go.Proofs.Ytkjgoikcibgonac

/- view.Check. -/
namespace Go.Proofs.Ytkjgoikcibgonac
open Go.ChangeShapes Go.WideShapes Go.ChangeAt Go.RowKit
open Orangery (Pl check scan rootsOk togL sameV viewE ofE ofR ofK ofW)

theorem SlP.apart {w : World} {a : Option Addr} {l : List Pl} {B g : Nat} (h : SlP w a l) (hf : Fresh B a) (hg : g < B) : ∀ (us : List Value) (o : Nat), SlP (w.setCells g o us) a l := by
  intro us
  induction us generalizing w with
  | nil => intro o; exact h
  | cons u us ih => intro o; exact ih (h.other g (fun b off e => by have := hf b off e; omega) o u) (o + 1)
theorem SlI.other {w : World} {a : Option Addr} {l : List Int} (h : SlI w a l) (g : Nat) (hg : l ≠ [] → ∀ b off, a = some ⟨b, off, none⟩ → b ≠ g) (j : Nat) (v : Value) : SlI (w.setCell ⟨g, j, none⟩ v) a l := by
  by_cases hl : l = []
  · exact Or.inl hl
  · rcases h with h | ⟨b, off, ha, hlt, hp⟩
    · exact absurd h hl
    · have hne := hg hl b off ha
      refine Or.inr ⟨b, off, ha, by simpa using hlt, fun i hi => ?_⟩
      rw [World.cell?_setCell_other _ _ _ _ (by simp <;> omega)]
      exact hp i hi
theorem SlI.others {w : World} {a : Option Addr} {l : List Int} (h : SlI w a l) (g : Nat) (hg : l ≠ [] → ∀ b off, a = some ⟨b, off, none⟩ → b ≠ g) : ∀ (us : List Value) (o : Nat), SlI (w.setCells g o us) a l := by
  intro us
  induction us generalizing w with
  | nil => intro o; exact h
  | cons u us ih => intro o; exact ih (h.other g hg o u) (o + 1)
theorem SlI.apart {W w : World} {a a' : Option Addr} {R R1 : List Int} {B g : Nat} (h0 : SlI W a' R) (hR : R1 = R ∨ R1 = []) (h : SlI w a R1) (hf : a = a' ∨ Fresh B a) (hg : W.heap.size ≤ g) (hB : g < B) (us : List Value) (o : Nat) : SlI (w.setCells g o us) a R1 := by
  refine h.others g (fun hn b off e => ?_) us o
  rcases hf with rfl | hf
  · rcases hR with rfl | hR
    · rcases h0 with h0 | ⟨b', off', e', hlt, _⟩
      · exact absurd h0 hn
      · rw [e] at e'
        simp at e'
        omega
    · exact absurd hR hn
  · have := hf b off e
    omega
theorem ofR_or (l : List Pl) (R : List Int) : ofR l R = R ∨ ofR l R = [] := by
  by_cases h : ofE l R = 0
  · exact Or.inl (Orangery.of_ok h).1
  · exact Or.inr (Orangery.of_bad h).1
theorem viewE_eq {R : List Int} {K V : List Pl} (h1 : rootsOk R = 0) (h2 : check K = 0) (h3 : check V = 0) :
    viewE R K V = if ofE (togL K V) R ≠ 0 then ofE (togL K V) R else if sameV R (ofR (togL K V) R) K (ofK (togL K V) R) V (ofW (togL K V) R) = true then 0 else 4 := by
  have e : ofE (togL K V) R = check (togL K V) := by
    unfold ofE Orangery.orI
    rw [h1]
    by_cases h : check (togL K V) = 0
    · rw [if_neg (by simp [h]), h]
    · rw [if_pos h]
  unfold viewE
  rw [if_neg (by simp [h1]), if_neg (by simp [h2]), if_neg (by simp [h3])]
  by_cases h : check (togL K V) = 0
  · obtain ⟨e1, e2, e3⟩ := Orangery.of_ok (l := togL K V) (R := R) (by rw [e]; exact h)
    have h0 : ¬ ofE (togL K V) R ≠ 0 := by rw [e]; simp [h]
    have h9 : ¬ check (togL K V) ≠ 0 := by simp [h]
    rw [if_neg h9, if_neg h0, e1, e2, e3]
  · rw [if_pos h, e, if_pos h]
theorem tog_len {K V : List Pl} (hK : check K = 0) (hV : check V = 0) : (togL K V).length ≤ 15 := by
  have := Orangery.scan_len _ 0 (Orangery.scan_tog (Orangery.check_scan K hK) (Orangery.check_scan V hV)) (by omega)
  omega
theorem run_index_parts (x y : Value) (w : World) : (Instr.index 44 (.agg #[x, y]) (.int .i64 0)).run Try.prog w = .ok (.agg #[x]) w ∧ (Instr.index 44 (.agg #[x, y]) (.int .i64 1)).run Try.prog w = .ok (.agg #[y]) w := by
  have hu := Try.underlying44
  have ha := Try.isAgg24
  have hz := Try.sizeOf24
  unfold Instr.index
  refine ⟨?_, ?_⟩ <;> go_simp <;> simp [asAgg]

set_option maxHeartbeats 4000000 in
set_option maxRecDepth 100000 in
theorem vcheck_any (w : World) (aR aK aV : Option Addr) (cR cK cV : Nat) (R : List Int) (K V : List Pl) (hR : R.length ≤ maxLen) (hK : K.length ≤ maxLen) (hV : V.length ≤ maxLen) (hc : aV = none → cV = 0)
    (h1 : SlI w aR R) (h2 : SlP w aK K) (h3 : SlP w aV V) :
    Calls Try.prog 19 #[viV (.slice aR R.length cR) (.slice aK K.length cK) (.slice aV V.length cV)] w
      fun e w' => e = .returned (.int .i64 (viewE R K V)) ∧ Below w.heap.size w w' := by
  obtain ⟨W0, hW, hX, hB, hS⟩ := laid1 w [Value.slice aR R.length cR, Value.slice aK K.length cK, Value.slice aV V.length cV] 27
  have x0 := hX.at 0 rfl
  have g1 := h1.below hB
  have g2 := h2.below hB
  have g3 := h3.below hB
  have HB : Hid (Below w.heap.size w W0) := hB
  clear h1 h2 h3 hB
  go_enter Try.func19, Try.ntmps19
  go_wp2_with fail
  clear hW
  refine (vroots_any W0 aR cR R hR g1).mono ?_
  rintro e W0 ⟨rfl, rfl⟩
  by_cases hr : rootsOk R = 0
  · have HR0 : Hid (rootsOk R = 0) := hr
    rw [hr]
    clear hr
    have x1 := hX.at 1 rfl
    have x2 := hX.at 2 rfl
    obtain ⟨W1, hW1, hY, hB1, hS1⟩ := laid1 W0 [Value.slice aK K.length cK, Value.slice aV V.length cV] 44
    have hX1 := hX.keep hB1
    have hI1 := g1.below hB1
    have hK1 := g2.below hB1
    have hV1 := g3.below hB1
    have HB1 : Hid (Below w.heap.size w W1) := HB.out.trans (hB1.mono HB.out.size)
    have y0 := hY.at 0 rfl
    have y1 := hY.at 1 rfl
    have hix := fun W => run_index_parts (.slice aK K.length cK) (.slice aV V.length cV) W
    clear hX g1 g2 g3 HB hB1 hS hS1
    go_wp2
    clear hW1 x0 x1 x2 y0 y1
    go_loopw [24] (fun i W => ∃ k : Nat, k ≤ 2 ∧ i = .int .i64 k ∧ (1 ≤ k → check K = 0) ∧ (2 ≤ k → check V = 0) ∧ Below W1.heap.size W1 W) (fun i _ => 2 - (intOf i).toNat)
    case atStart => exact ⟨0, by omega, rfl, by omega, by omega, Below.refl _ _⟩
    case round =>
      obtain ⟨k, hk, rfl, hc1, hc2, hb⟩ := hrel
      have HC1 : Hid (1 ≤ k → check K = 0) := hc1
      have HC2 : Hid (2 ≤ k → check V = 0) := hc2
      have hcs : k = 0 ∨ k = 1 ∨ k = 2 := by omega
      clear hc1 hc2
      rcases hcs with rfl | rfl | rfl
      · have hP := (hK1.below hb).below (Go.Joins.below_alloc1 wr (Obj.cells #[Value.slice aK K.length cK] 24))
        have hbn := hb.alloc hb.size (Obj.cells #[Value.slice aK K.length cK] 24)
        go_wp2_with fail
        refine (check_any _ aK cK K hK hP).mono ?_
        rintro e w2 ⟨rfl, hb2⟩
        have HBx : Hid (Below W1.heap.size W1 w2) := hbn.trans (hb2.mono hbn.size)
        clear hbn hb2 hb
        by_cases hz : check K = 0
        · have HZ : Hid (check K = 0) := hz
          rw [hz]
          clear hz
          go_wp2
          go_roundw
          case rel => exact ⟨1, by omega, by go_num, fun _ => HZ.out, by omega, HBx.out⟩
          case measure => simp [intOf]
        · have hz' : (check K != 0) = true := by simpa using hz
          have HE : Hid (viewE R K V = check K) := by show _ = _; unfold viewE; rw [if_neg (by simp [HR0.out]), if_pos hz]
          clear hz
          go_wp2
          go_ret
          exact ⟨ret_int HE.out.symm, HB1.out.trans (HBx.out.mono HB1.out.size)⟩
      · have HZ : Hid (check K = 0) := HC1.out (by omega)
        have hP := (hV1.below hb).below (Go.Joins.below_alloc1 wr (Obj.cells #[Value.slice aV V.length cV] 24))
        have hbn := hb.alloc hb.size (Obj.cells #[Value.slice aV V.length cV] 24)
        go_wp2_with fail
        refine (check_any _ aV cV V hV hP).mono ?_
        rintro e w2 ⟨rfl, hb2⟩
        have HBx : Hid (Below W1.heap.size W1 w2) := hbn.trans (hb2.mono hbn.size)
        clear hbn hb2 hb
        by_cases hz : check V = 0
        · have HZ2 : Hid (check V = 0) := hz
          rw [hz]
          clear hz
          go_wp2
          go_roundw
          case rel => exact ⟨2, by omega, by go_num, fun _ => HZ.out, fun _ => HZ2.out, HBx.out⟩
          case measure => simp [intOf]
        · have hz' : (check V != 0) = true := by simpa using hz
          have HE : Hid (viewE R K V = check V) := by show _ = _; unfold viewE; rw [if_neg (by simp [HR0.out]), if_neg (by simp [HZ.out]), if_pos hz]
          clear hz
          go_wp2
          go_ret
          exact ⟨ret_int HE.out.symm, HB1.out.trans (HBx.out.mono HB1.out.size)⟩
      · have hZK : check K = 0 := HC1.out (by omega)
        have hZV : check V = 0 := HC2.out (by omega)
        clear HC1 HC2
        have hYr := hY.keep hb
        have hXr := hX1.keep hb
        have hIr := hI1.below hb
        have hKr := hK1.below hb
        have hVr := hV1.below hb
        have HBr : Hid (Below w.heap.size w wr) := HB1.out.trans (hb.mono HB1.out.size)
        have HE : Hid (viewE R K V = if ofE (togL K V) R ≠ 0 then ofE (togL K V) R else if sameV R (ofR (togL K V) R) K (ofK (togL K V) R) V (ofW (togL K V) R) = true then 0 else 4) := viewE_eq HR0.out hZK hZV
        have CALL1 : Hid (∀ w', Below wr.heap.size wr w' → Calls Try.prog 41 #[.agg #[.slice aK K.length cK, .slice aV V.length cV]] w' fun e w'' => ∃ v, e = .returned (.agg #[v]) ∧ OwnS w'' w'.heap.size v (togL K V) ∧ Below w'.heap.size w' w'') :=
          fun w' hb' => together_any w' aK aV cK cV K V (Orangery.check_scan K hZK) (Orangery.check_scan V hZV) hc (hKr.below hb') (hVr.below hb')
        have CALL2 : Hid (∀ w' a c, Below wr.heap.size wr w' → SlP w' a (togL K V) → Calls Try.prog 4 #[.agg #[.slice a (togL K V).length c], .slice aR R.length cR] w' (Views w' aR (ofR (togL K V) R) (ofK (togL K V) R) (ofW (togL K V) R) (ofE (togL K V) R))) :=
          fun w' a c hb' hp => of_any w' a aR c cR (togL K V) R (by have := tog_len hZK hZV; unfold maxLen; omega) hR hp (hIr.below hb')
        have HRR : Hid (ofR (togL K V) R = R ∨ ofR (togL K V) R = []) := ofR_or _ _
        have HI0 : Hid (SlI wr aR R) := hIr
        generalize ofR (togL K V) R = R1 at *
        generalize ofK (togL K V) R = K1 at *
        generalize ofW (togL K V) R = V1 at *
        generalize ofE (togL K V) R = E at *
        generalize togL K V = T at *
        clear hb hZK hZV hI1 hK1 hV1 hX1 hY HB1 HR0 hc hix
        go_upto_region 12 with fail
        go_cut [8, 9] from 33 to 47 (fun r e4 wc => ∃ bs bR bK bV dR dK dV, r = .pointer (some ⟨bs, 0, none⟩) ∧ e4 = .int .i64 E ∧ Blk wc bs [.slice bR R1.length dR, .slice bK K1.length dK, .slice bV V1.length dV] ∧ SlI wc bR R1 ∧ SlP wc bK K1 ∧ SlP wc bV V1 ∧ Below wr.heap.size wr wc)
        case first =>
          refine wp_region_held_drew (S := fun w' => Below wr.heap.size wr w') (by kernel_rfl) ((Below.refl _ wr).drew) (fun hHeld => ?_)
          refine take_load 0 34 44 W0.heap.size [Value.slice aK K.length cK, Value.slice aV V.length cV] rfl rfl (by kernel_rfl) (by kernel_rfl) (by kernel_rfl) (fun _ _ _ h => h) (by rfl) (by rfl) (by rfl) (fun w hw => (hYr.keep hw).range) Try.underlying44 rfl sizeParts hHeld ?_
          simp only [Act.put, List.setIfInBounds_toArray, List.set_cons_succ, List.set_cons_zero]
          refine take_yes 2 36 (v := ?_) rfl rfl (by kernel_rfl) (by kernel_rfl) (by kernel_rfl) (fun _ _ _ h => h) (by rfl) ?_ hHeld ?_
          rotate_left 1
          · (intro w hSw; go_simp; try with_reducible rfl)
          simp only [Act.put, List.setIfInBounds_toArray, List.set_cons_succ, List.set_cons_zero]
          refine take_yes 3 37 (v := ?_) rfl rfl (by kernel_rfl) (by kernel_rfl) (by kernel_rfl) (fun _ _ _ h => h) (by rfl) ?_ hHeld ?_
          rotate_left 1
          · (intro w hSw; have cc := (hXr.keep hSw).at 0 rfl; go_simp; try with_reducible rfl)
          simp only [Act.put, List.setIfInBounds_toArray, List.set_cons_succ, List.set_cons_zero]
          refine wpAnyH_ready (rs := [1, 8]) (by kernel_rfl) (by simp) ?_
          refine AllReadyH.cons rfl (fun K hK => ?_) (AllReadyH.cons rfl (fun K hK => ?_) AllReadyH.nil)
          · skip
            go_simp
            refine (CALL1.out _ hHeld).mono ?_
            rintro e w6 ⟨v6, rfl, hO6, hb6⟩
            obtain ⟨a6, c6, rfl⟩ := hO6.val
            have hP6 : SlP w6 a6 T := hO6.read
            have hS6 : Below wr.heap.size wr w6 := hHeld.trans (hb6.mono hHeld.size)
            go_wp2_with fail
            refine hK.out _ _ hS6 (fun hHeld => ?_)
            clear hK K
            refine wpAnyH_ready (rs := [4, 8]) (by kernel_rfl) (by simp) ?_
            refine AllReadyH.cons rfl (fun K hK => ?_) (AllReadyH.cons rfl (fun K hK => ?_) AllReadyH.nil)
            · skip
              go_simp
              refine (CALL2.out _ a6 c6 hHeld hP6).mono ?_
              rintro e w7 ⟨bR, bK, bV, dR, dK, dV, rfl, ⟨z1, z2⟩, ⟨f1, f2, f3⟩, hI7, hK7, hV7, hb7⟩
              have hS7 : Below wr.heap.size wr w7 := hHeld.trans (hb7.mono hHeld.size)
              have hsz7 := hb7.size
              have hgt7 : wr.heap.size ≤ w7.heap.size := hS7.size
              go_wp2_with fail
              refine hK.out _ _ hS7 (fun hHeld => ?_)
              clear hK K
              refine take_yes 5 33 (v := ?_) rfl rfl (by kernel_rfl) (by kernel_rfl) (by kernel_rfl) (fun _ _ _ h => h) (by rfl) ?_ hHeld ?_
              rotate_left 1
              · (intro w hSw; go_simp; try with_reducible rfl)
              simp only [Act.put, List.setIfInBounds_toArray, List.set_cons_succ, List.set_cons_zero]
              refine take_yes 6 39 (v := ?_) rfl rfl (by kernel_rfl) (by kernel_rfl) (by kernel_rfl) (fun _ _ _ h => h) (by rfl) ?_ hHeld ?_
              rotate_left 1
              · (intro w hSw; go_simp; try with_reducible rfl)
              simp only [Act.put, List.setIfInBounds_toArray, List.set_cons_succ, List.set_cons_zero]
              refine take_yes 7 40 (v := ?_) rfl rfl (by kernel_rfl) (by kernel_rfl) (by kernel_rfl) (fun _ _ _ h => h) (by rfl) ?_ hHeld ?_
              rotate_left 1
              · (intro w hSw; go_simp; try with_reducible rfl)
              simp only [Act.put, List.setIfInBounds_toArray, List.set_cons_succ, List.set_cons_zero]
              refine wpAnyH_ready (rs := [8]) (by kernel_rfl) (by simp) ?_
              refine AllReadyH.cons rfl (fun K hK => ?_) AllReadyH.nil
              go_simp
              have hN := (Blk.new w7 [Value.slice none 0 0, Value.slice none 0 0, Value.slice none 0 0] 27)
              refine hK.out _ _ (hHeld.alloc hHeld.size _) (fun hHeld => ?_)
              clear hK K
              refine step_store 9 27 w7.heap.size [Value.slice bR R1.length dR, Value.slice bK K1.length dK, Value.slice bV V1.length dV] (by kernel_rfl) rfl rfl (by rfl) (by rfl) (by rfl) (by rfl) hN.there sizeView ?_ ?_ ?_
              · intro v hv; simp at hv; rcases hv with rfl | rfl | rfl <;> rfl
              · exact below_sets hHeld w7.heap.size (by omega) [Value.slice bR R1.length dR, Value.slice bK K1.length dK, Value.slice bV V1.length dV] 0
              have hHeld := below_sets hHeld w7.heap.size (by omega) [Value.slice bR R1.length dR, Value.slice bK K1.length dK, Value.slice bV V1.length dV] 0
              refine take_yes 10 9 (v := ?_) rfl rfl (by kernel_rfl) (by kernel_rfl) (by kernel_rfl) (fun _ _ _ h => h) (by rfl) ?_ hHeld ?_
              rotate_left 1
              · (intro w hSw; go_simp; try with_reducible rfl)
              simp only [Act.put, List.setIfInBounds_toArray, List.set_cons_succ, List.set_cons_zero]
              refine wpAnyH_done (by kernel_rfl) ?_ _
              have HHeld : Hid (Below wr.heap.size wr ((w7.alloc (Obj.cells #[Value.slice none 0 0, Value.slice none 0 0, Value.slice none 0 0] 27)).setCells w7.heap.size 0 [Value.slice bR R1.length dR, Value.slice bK K1.length dK, Value.slice bV V1.length dV])) := hHeld
              clear hHeld
              go_wp2
              go_meet
              case rel =>
                have hbw := below_sets (Go.Joins.below_alloc1 w7 (Obj.cells #[Value.slice none 0 0, Value.slice none 0 0, Value.slice none 0 0] 27)) w7.heap.size (Nat.le_refl _) [Value.slice bR R1.length dR, Value.slice bK K1.length dK, Value.slice bV V1.length dV] 0
                exact ⟨_, bR, bK, bV, dR, dK, dV, rfl, rfl, hN.sets [Value.slice bR R1.length dR, Value.slice bK K1.length dK, Value.slice bV V1.length dV] rfl, hI7.below hbw, hK7.below hbw, hV7.below hbw, HHeld.out⟩
            · skip
              go_simp
              have hN := (Blk.new w6 [Value.slice none 0 0, Value.slice none 0 0, Value.slice none 0 0] 27)
              refine hK.out _ _ (hHeld.alloc hHeld.size _) (fun hHeld => ?_)
              clear hK K
              refine wpAnyH_ready (rs := [4]) (by kernel_rfl) (by simp) ?_
              refine AllReadyH.cons rfl (fun K hK => ?_) AllReadyH.nil
              go_simp
              refine (CALL2.out _ a6 c6 hHeld (hP6.below (Go.Joins.below_alloc1 w6 _))).mono ?_
              rintro e w7 ⟨bR, bK, bV, dR, dK, dV, rfl, ⟨z1, z2⟩, ⟨f1, f2, f3⟩, hI7, hK7, hV7, hb7⟩
              have hS7 : Below wr.heap.size wr w7 := hHeld.trans (hb7.mono hHeld.size)
              have hN7 := hN.keep hb7
              have hsz7 := hb7.size
              have hgt7 : wr.heap.size ≤ w7.heap.size := hS7.size
              go_wp2_with fail
              refine hK.out _ _ hS7 (fun hHeld => ?_)
              clear hK K
              refine take_yes 5 33 (v := ?_) rfl rfl (by kernel_rfl) (by kernel_rfl) (by kernel_rfl) (fun _ _ _ h => h) (by rfl) ?_ hHeld ?_
              rotate_left 1
              · (intro w hSw; go_simp; try with_reducible rfl)
              simp only [Act.put, List.setIfInBounds_toArray, List.set_cons_succ, List.set_cons_zero]
              refine take_yes 6 39 (v := ?_) rfl rfl (by kernel_rfl) (by kernel_rfl) (by kernel_rfl) (fun _ _ _ h => h) (by rfl) ?_ hHeld ?_
              rotate_left 1
              · (intro w hSw; go_simp; try with_reducible rfl)
              simp only [Act.put, List.setIfInBounds_toArray, List.set_cons_succ, List.set_cons_zero]
              refine take_yes 7 40 (v := ?_) rfl rfl (by kernel_rfl) (by kernel_rfl) (by kernel_rfl) (fun _ _ _ h => h) (by rfl) ?_ hHeld ?_
              rotate_left 1
              · (intro w hSw; go_simp; try with_reducible rfl)
              simp only [Act.put, List.setIfInBounds_toArray, List.set_cons_succ, List.set_cons_zero]
              have hlt7 : w6.heap.size < w7.heap.size := hN7.lt
              have hgt6 : wr.heap.size ≤ w6.heap.size := hS6.size
              refine step_store 9 27 w6.heap.size [Value.slice bR R1.length dR, Value.slice bK K1.length dK, Value.slice bV V1.length dV] (by kernel_rfl) rfl rfl (by rfl) (by rfl) (by rfl) (by rfl) hN7.there sizeView ?_ ?_ ?_
              · intro v hv; simp at hv; rcases hv with rfl | rfl | rfl <;> rfl
              · exact below_sets hHeld w6.heap.size (by omega) [Value.slice bR R1.length dR, Value.slice bK K1.length dK, Value.slice bV V1.length dV] 0
              have hHeld := below_sets hHeld w6.heap.size (by omega) [Value.slice bR R1.length dR, Value.slice bK K1.length dK, Value.slice bV V1.length dV] 0
              refine take_yes 10 9 (v := ?_) rfl rfl (by kernel_rfl) (by kernel_rfl) (by kernel_rfl) (fun _ _ _ h => h) (by rfl) ?_ hHeld ?_
              rotate_left 1
              · (intro w hSw; go_simp; try with_reducible rfl)
              simp only [Act.put, List.setIfInBounds_toArray, List.set_cons_succ, List.set_cons_zero]
              refine wpAnyH_done (by kernel_rfl) ?_ _
              have HHeld : Hid (Below wr.heap.size wr (w7.setCells w6.heap.size 0 [Value.slice bR R1.length dR, Value.slice bK K1.length dK, Value.slice bV V1.length dV])) := hHeld
              clear hHeld
              go_wp2
              go_meet
              case rel =>
                exact ⟨_, bR, bK, bV, dR, dK, dV, rfl, rfl, hN7.sets [Value.slice bR R1.length dR, Value.slice bK K1.length dK, Value.slice bV V1.length dV] rfl, SlI.apart HI0.out HRR.out hI7 f3 (by omega) (by first | omega | (simp; try omega)) _ _, SlP.apart hK7 f1 (by first | omega | (simp; try omega)) _ _, SlP.apart hV7 f2 (by first | omega | (simp; try omega)) _ _, HHeld.out⟩
          · skip
            go_simp
            have hN := (Blk.new wr [Value.slice none 0 0, Value.slice none 0 0, Value.slice none 0 0] 27).drew
            refine hK.out _ _ (hHeld.alloc hHeld.size _) (fun hHeld => ?_)
            clear hK K
            refine wpAnyH_ready (rs := [1]) (by kernel_rfl) (by simp) ?_
            refine AllReadyH.cons rfl (fun K hK => ?_) AllReadyH.nil
            go_simp
            refine (CALL1.out _ hHeld).mono ?_
            rintro e w6 ⟨v6, rfl, hO6, hb6⟩
            obtain ⟨a6, c6, rfl⟩ := hO6.val
            have hP6 : SlP w6 a6 T := hO6.read
            have hS6 : Below wr.heap.size wr w6 := hHeld.trans (hb6.mono hHeld.size)
            have hN6 := hN.keep hb6
            go_wp2_with fail
            refine hK.out _ _ hS6 (fun hHeld => ?_)
            clear hK K
            refine wpAnyH_ready (rs := [4]) (by kernel_rfl) (by simp) ?_
            refine AllReadyH.cons rfl (fun K hK => ?_) AllReadyH.nil
            go_simp
            refine (CALL2.out _ a6 c6 hHeld hP6).mono ?_
            rintro e w7 ⟨bR, bK, bV, dR, dK, dV, rfl, ⟨z1, z2⟩, ⟨f1, f2, f3⟩, hI7, hK7, hV7, hb7⟩
            have hS7 : Below wr.heap.size wr w7 := hHeld.trans (hb7.mono hHeld.size)
            have hN7 := hN6.keep hb7
            have hsz7 := hb7.size
            have hgt7 : wr.heap.size ≤ w7.heap.size := hS7.size
            go_wp2_with fail
            refine hK.out _ _ hS7 (fun hHeld => ?_)
            clear hK K
            refine take_yes 5 33 (v := ?_) rfl rfl (by kernel_rfl) (by kernel_rfl) (by kernel_rfl) (fun _ _ _ h => h) (by rfl) ?_ hHeld ?_
            rotate_left 1
            · (intro w hSw; go_simp; try with_reducible rfl)
            simp only [Act.put, List.setIfInBounds_toArray, List.set_cons_succ, List.set_cons_zero]
            refine take_yes 6 39 (v := ?_) rfl rfl (by kernel_rfl) (by kernel_rfl) (by kernel_rfl) (fun _ _ _ h => h) (by rfl) ?_ hHeld ?_
            rotate_left 1
            · (intro w hSw; go_simp; try with_reducible rfl)
            simp only [Act.put, List.setIfInBounds_toArray, List.set_cons_succ, List.set_cons_zero]
            refine take_yes 7 40 (v := ?_) rfl rfl (by kernel_rfl) (by kernel_rfl) (by kernel_rfl) (fun _ _ _ h => h) (by rfl) ?_ hHeld ?_
            rotate_left 1
            · (intro w hSw; go_simp; try with_reducible rfl)
            simp only [Act.put, List.setIfInBounds_toArray, List.set_cons_succ, List.set_cons_zero]
            have hlt6 : wr.heap.size < w6.heap.size := hN6.lt
            refine step_store 9 27 wr.heap.size [Value.slice bR R1.length dR, Value.slice bK K1.length dK, Value.slice bV V1.length dV] (by kernel_rfl) rfl rfl (by rfl) (by rfl) (by rfl) (by rfl) hN7.there sizeView ?_ ?_ ?_
            · intro v hv; simp at hv; rcases hv with rfl | rfl | rfl <;> rfl
            · exact below_sets hHeld wr.heap.size (by omega) [Value.slice bR R1.length dR, Value.slice bK K1.length dK, Value.slice bV V1.length dV] 0
            have hHeld := below_sets hHeld wr.heap.size (by omega) [Value.slice bR R1.length dR, Value.slice bK K1.length dK, Value.slice bV V1.length dV] 0
            refine take_yes 10 9 (v := ?_) rfl rfl (by kernel_rfl) (by kernel_rfl) (by kernel_rfl) (fun _ _ _ h => h) (by rfl) ?_ hHeld ?_
            rotate_left 1
            · (intro w hSw; go_simp; try with_reducible rfl)
            simp only [Act.put, List.setIfInBounds_toArray, List.set_cons_succ, List.set_cons_zero]
            refine wpAnyH_done (by kernel_rfl) ?_ _
            have HHeld : Hid (Below wr.heap.size wr (w7.setCells wr.heap.size 0 [Value.slice bR R1.length dR, Value.slice bK K1.length dK, Value.slice bV V1.length dV])) := hHeld
            clear hHeld
            go_wp2
            go_meet
            case rel =>
              exact ⟨_, bR, bK, bV, dR, dK, dV, rfl, rfl, hN7.sets [Value.slice bR R1.length dR, Value.slice bK K1.length dK, Value.slice bV V1.length dV] rfl, SlI.apart HI0.out HRR.out hI7 f3 (by omega) (by first | omega | (simp; try omega)) _ _, SlP.apart hK7 f1 (by first | omega | (simp; try omega)) _ _, SlP.apart hV7 f2 (by first | omega | (simp; try omega)) _ _, HHeld.out⟩
        case rest =>
          obtain ⟨bs, bR, bK, bV, dR, dK, dV, rfl, rfl, hblk, hIc, hKc, hVc, hbc⟩ := hcut
          have HBc : Hid (Below w.heap.size w wc) := HBr.out.trans (hbc.mono HBr.out.size)
          by_cases hz : E = 0
          · subst hz
            have hXc := hXr.keep hbc
            have x0 := hXc.at 0 rfl
            have x1 := hXc.at 1 rfl
            have x2 := hXc.at 2 rfl
            have y0 := hblk.at 0 rfl
            have y1 := hblk.at 1 rfl
            have y2 := hblk.at 2 rfl
            have m1 := hIr.below hbc
            have m2 := hKr.below hbc
            have m3 := hVr.below hbc
            clear hbc hblk hXr hXc hYr hIr hKr hVr CALL1 CALL2 HI0 HRR HBr
            go_wp2_with fail
            refine (vsame_any wc aR aK aV bR bK bV cR cK cV dR dK dV R R1 K K1 V V1 hR hK hV m1 m2 m3 hIc hKc hVc).mono ?_
            rintro e w5 ⟨rfl, hb5⟩
            have HB5 : Hid (Below w.heap.size w w5) := HBc.out.trans (hb5.mono HBc.out.size)
            clear hb5 m1 m2 m3 hIc hKc hVc x0 x1 x2 y0 y1 y2
            cases hq : sameV R R1 K K1 V V1
            · have HF : Hid (viewE R K V = 4) := by show _ = _; rw [HE.out, hq]; rfl
              go_wp2
              go_ret
              exact ⟨ret_int HF.out.symm, HB5.out⟩
            · have HF : Hid (viewE R K V = 0) := by show _ = _; rw [HE.out, hq]; rfl
              go_wp2
              go_ret
              exact ⟨ret_int HF.out.symm, HB5.out⟩
          · have hz' : (E != 0) = true := by simpa using hz
            have HF : Hid (viewE R K V = E) := by show _ = _; rw [HE.out, if_pos hz]
            clear hz
            go_wp2
            go_ret
            exact ⟨ret_int HF.out.symm, HBc.out⟩
  · have hr' : (rootsOk R != 0) = true := by simpa using hr
    have HE : Hid (viewE R K V = rootsOk R) := by show _ = _; unfold viewE; rw [if_pos hr]
    clear hr
    go_wp2
    go_ret
    exact ⟨ret_int HE.out.symm, HB.out⟩
end Go.Proofs.Ytkjgoikcibgonac

