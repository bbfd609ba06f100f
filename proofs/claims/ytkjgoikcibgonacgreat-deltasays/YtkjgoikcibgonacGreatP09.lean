/- 1 texts of the proof: view.Check. -/
import Derived.Test.YtkjgoikcibgonacGreatP08
import Derived.Test.YtkjgoikcibgonacGreatP05
/- view.Check. -/
namespace Go.Proofs.YtkjgoikcibgonacGreat
open Go.ChangeShapes Go.WideShapes Go.ChangeAt Go.RowKit
open Orangery (Pl check scan rootsOk togL sameV viewE ofE ofR ofK ofW)

theorem SlP.apart {w : World} {a : Option Addr} {l : List Pl} {B g : Nat} (h : SlP w a l) (hf : Fresh B a) (hg : g < B) : ∀ (us : List Value) (o : Nat), SlP (w.setCells g o us) a l := by
  intro us
  induction us generalizing w with
  | nil => intro o; exact h
  | cons u us ih => intro o; exact ih (h.other g (fun b off e => by have := hf b off e; omega) o u) (o + 1)
theorem SlI.other {w : World} {a : Option Addr} {l : List Int} (h : SlI w a l) (g : Nat) (hg : l ≠ [] → ∀ b off, a = some ⟨b, off, none⟩ → b ≠ g) (j : Nat) (v : Value) : SlI (w.setCell ⟨g, j, none⟩ v) a l := by
  by_cases hl : l = []
  · exact Or.inl hl
  · rcases h with h | ⟨b, off, ha, hlt, hp⟩
    · exact absurd h hl
    · have hne := hg hl b off ha
      refine Or.inr ⟨b, off, ha, by simpa using hlt, fun i hi => ?_⟩
      rw [World.cell?_setCell_other _ _ _ _ (by simp <;> omega)]
      exact hp i hi
theorem SlI.others {w : World} {a : Option Addr} {l : List Int} (h : SlI w a l) (g : Nat) (hg : l ≠ [] → ∀ b off, a = some ⟨b, off, none⟩ → b ≠ g) : ∀ (us : List Value) (o : Nat), SlI (w.setCells g o us) a l := by
  intro us
  induction us generalizing w with
  | nil => intro o; exact h
  | cons u us ih => intro o; exact ih (h.other g hg o u) (o + 1)
theorem SlI.apart {W w : World} {a a' : Option Addr} {R R1 : List Int} {B g : Nat} (h0 : SlI W a' R) (hR : R1 = R ∨ R1 = []) (h : SlI w a R1) (hf : a = a' ∨ Fresh B a) (hg : W.heap.size ≤ g) (hB : g < B) (us : List Value) (o : Nat) : SlI (w.setCells g o us) a R1 := by
  refine h.others g (fun hn b off e => ?_) us o
  rcases hf with rfl | hf
  · rcases hR with rfl | hR
    · rcases h0 with h0 | ⟨b', off', e', hlt, _⟩
      · exact absurd h0 hn
      · rw [e] at e'
        simp at e'
        omega
    · exact absurd hR hn
  · have := hf b off e
    omega
theorem ofR_or (l : List Pl) (R : List Int) : ofR l R = R ∨ ofR l R = [] := by
  by_cases h : ofE l R = 0
  · exact Or.inl (Orangery.of_ok h).1
  · exact Or.inr (Orangery.of_bad h).1
theorem viewE_eq {R : List Int} {K V : List Pl} (h1 : rootsOk R = 0) (h2 : check K = 0) (h3 : check V = 0) :
    viewE R K V = if ofE (togL K V) R ≠ 0 then ofE (togL K V) R else if sameV R (ofR (togL K V) R) K (ofK (togL K V) R) V (ofW (togL K V) R) = true then 0 else 4 := by
  have e : ofE (togL K V) R = check (togL K V) := by
    unfold ofE Orangery.orI
    rw [h1]
    by_cases h : check (togL K V) = 0
    · rw [if_neg (by simp [h]), h]
    · rw [if_pos h]
  unfold viewE
  rw [if_neg (by simp [h1]), if_neg (by simp [h2]), if_neg (by simp [h3])]
  by_cases h : check (togL K V) = 0
  · obtain ⟨e1, e2, e3⟩ := Orangery.of_ok (l := togL K V) (R := R) (by rw [e]; exact h)
    have h0 : ¬ ofE (togL K V) R ≠ 0 := by rw [e]; simp [h]
    have h9 : ¬ check (togL K V) ≠ 0 := by simp [h]
    rw [if_neg h9, if_neg h0, e1, e2, e3]
  · rw [if_pos h, e, if_pos h]
theorem tog_len {K V : List Pl} (hK : check K = 0) (hV : check V = 0) : (togL K V).length ≤ 15 := by
  have := Orangery.scan_len _ 0 (Orangery.scan_tog (Orangery.check_scan K hK) (Orangery.check_scan V hV)) (by omega)
  omega
theorem run_index_parts (x y : Value) (w : World) : (Instr.index 79 (.agg #[x, y]) (.int .i64 0)).run Tryz.prog w = .ok (.agg #[x]) w ∧ (Instr.index 79 (.agg #[x, y]) (.int .i64 1)).run Tryz.prog w = .ok (.agg #[y]) w := by
  have hu := Tryz.underlying79
  have ha := Tryz.isAgg62
  have hz := Tryz.sizeOf62
  unfold Instr.index
  refine ⟨?_, ?_⟩ <;> go_simp <;> simp [asAgg]

set_option maxHeartbeats 4000000 in
set_option maxRecDepth 100000 in
theorem vcheck_any (w : World) (aR aK aV : Option Addr) (cR cK cV : Nat) (R : List Int) (K V : List Pl) (hR : R.length ≤ maxLen) (hK : K.length ≤ maxLen) (hV : V.length ≤ maxLen) (hc : aV = none → cV = 0)
    (h1 : SlI w aR R) (h2 : SlP w aK K) (h3 : SlP w aV V) :
    Calls Tryz.prog 15 #[viV (.slice aR R.length cR) (.slice aK K.length cK) (.slice aV V.length cV)] w
      fun e w' => e = .returned (.int .i64 (viewE R K V)) ∧ Below w.heap.size w w' := by
  obtain ⟨W0, hW, hX, hB, hS⟩ := laid1 w [Value.slice aR R.length cR, Value.slice aK K.length cK, Value.slice aV V.length cV] 25
  have x0 := hX.at 0 rfl
  have g1 := h1.below hB
  have g2 := h2.below hB
  have g3 := h3.below hB
  have HB : Hid (Below w.heap.size w W0) := hB
  clear h1 h2 h3 hB
  go_enter Tryz.func15, Tryz.ntmps15
  go_wp2_with fail
  clear hW
  refine (vroots_any W0 aR cR R hR g1).mono ?_
  rintro e W0 ⟨rfl, rfl⟩
  by_cases hr : rootsOk R = 0
  · have HR0 : Hid (rootsOk R = 0) := hr
    rw [hr]
    clear hr
    have x1 := hX.at 1 rfl
    have x2 := hX.at 2 rfl
    obtain ⟨W1, hW1, hY, hB1, hS1⟩ := laid1 W0 [Value.slice aK K.length cK, Value.slice aV V.length cV] 79
    have hX1 := hX.keep hB1
    have hI1 := g1.below hB1
    have hK1 := g2.below hB1
    have hV1 := g3.below hB1
    have HB1 : Hid (Below w.heap.size w W1) := HB.out.trans (hB1.mono HB.out.size)
    have y0 := hY.at 0 rfl
    have y1 := hY.at 1 rfl
    have hix := fun W => run_index_parts (.slice aK K.length cK) (.slice aV V.length cV) W
    clear hX g1 g2 g3 HB hB1 hS hS1
    go_wp2
    clear hW1 x0 x1 x2 y0 y1
    go_loopw [24] (fun i W => ∃ k : Nat, k ≤ 2 ∧ i = .int .i64 k ∧ (1 ≤ k → check K = 0) ∧ (2 ≤ k → check V = 0) ∧ Below W1.heap.size W1 W) (fun i _ => 2 - (intOf i).toNat)
    case atStart => exact ⟨0, by omega, rfl, by omega, by omega, Below.refl _ _⟩
    case round =>
      obtain ⟨k, hk, rfl, hc1, hc2, hb⟩ := hrel
      have HC1 : Hid (1 ≤ k → check K = 0) := hc1
      have HC2 : Hid (2 ≤ k → check V = 0) := hc2
      have hcs : k = 0 ∨ k = 1 ∨ k = 2 := by omega
      clear hc1 hc2
      rcases hcs with rfl | rfl | rfl
      · have hP := (hK1.below hb).below (Go.Joins.below_alloc1 wr (Obj.cells #[Value.slice aK K.length cK] 62))
        have hbn := hb.alloc hb.size (Obj.cells #[Value.slice aK K.length cK] 62)
        go_wp2_with fail
        refine (check_any _ aK cK K hK hP).mono ?_
        rintro e w2 ⟨rfl, hb2⟩
        have HBx : Hid (Below W1.heap.size W1 w2) := hbn.trans (hb2.mono hbn.size)
        clear hbn hb2 hb
        by_cases hz : check K = 0
        · have HZ : Hid (check K = 0) := hz
          rw [hz]
          clear hz
          go_wp2
          go_roundw
          case rel => exact ⟨1, by omega, by go_num, fun _ => HZ.out, by omega, HBx.out⟩
          case measure => simp [intOf]
        · have hz' : (check K != 0) = true := by simpa using hz
          have HE : Hid (viewE R K V = check K) := by show _ = _; unfold viewE; rw [if_neg (by simp [HR0.out]), if_pos hz]
          clear hz
          go_wp2
          go_ret
          exact ⟨ret_int HE.out.symm, HB1.out.trans (HBx.out.mono HB1.out.size)⟩
      · have HZ : Hid (check K = 0) := HC1.out (by omega)
        have hP := (hV1.below hb).below (Go.Joins.below_alloc1 wr (Obj.cells #[Value.slice aV V.length cV] 62))
        have hbn := hb.alloc hb.size (Obj.cells #[Value.slice aV V.length cV] 62)
        go_wp2_with fail
        refine (check_any _ aV cV V hV hP).mono ?_
        rintro e w2 ⟨rfl, hb2⟩
        have HBx : Hid (Below W1.heap.size W1 w2) := hbn.trans (hb2.mono hbn.size)
        clear hbn hb2 hb
        by_cases hz : check V = 0
        · have HZ2 : Hid (check V = 0) := hz
          rw [hz]
          clear hz
          go_wp2
          go_roundw
          case rel => exact ⟨2, by omega, by go_num, fun _ => HZ.out, fun _ => HZ2.out, HBx.out⟩
          case measure => simp [intOf]
        · have hz' : (check V != 0) = true := by simpa using hz
          have HE : Hid (viewE R K V = check V) := by show _ = _; unfold viewE; rw [if_neg (by simp [HR0.out]), if_neg (by simp [HZ.out]), if_pos hz]
          clear hz
          go_wp2
          go_ret
          exact ⟨ret_int HE.out.symm, HB1.out.trans (HBx.out.mono HB1.out.size)⟩
      · have hZK : check K = 0 := HC1.out (by omega)
        have hZV : check V = 0 := HC2.out (by omega)
        clear HC1 HC2
        have hYr := hY.keep hb
        have hXr := hX1.keep hb
        have hIr := hI1.below hb
        have hKr := hK1.below hb
        have hVr := hV1.below hb
        have HBr : Hid (Below w.heap.size w wr) := HB1.out.trans (hb.mono HB1.out.size)
        have HE : Hid (viewE R K V = if ofE (togL K V) R ≠ 0 then ofE (togL K V) R else if sameV R (ofR (togL K V) R) K (ofK (togL K V) R) V (ofW (togL K V) R) = true then 0 else 4) := viewE_eq HR0.out hZK hZV
        have CALL1 : Hid (∀ w', Below wr.heap.size wr w' → Calls Tryz.prog 37 #[.agg #[.slice aK K.length cK, .slice aV V.length cV]] w' fun e w'' => ∃ v, e = .returned (.agg #[v]) ∧ OwnS w'' w'.heap.size v (togL K V) ∧ Below w'.heap.size w' w'') :=
          fun w' hb' => together_any w' aK aV cK cV K V (Orangery.check_scan K hZK) (Orangery.check_scan V hZV) hc (hKr.below hb') (hVr.below hb')
        have CALL2 : Hid (∀ w' a c, Below wr.heap.size wr w' → SlP w' a (togL K V) → Calls Tryz.prog 27 #[.agg #[.slice a (togL K V).length c], .slice aR R.length cR] w' (Views w' aR (ofR (togL K V) R) (ofK (togL K V) R) (ofW (togL K V) R) (ofE (togL K V) R))) :=
          fun w' a c hb' hp => of_any w' a aR c cR (togL K V) R (by have := tog_len hZK hZV; unfold maxLen; omega) hR hp (hIr.below hb')
        have HRR : Hid (ofR (togL K V) R = R ∨ ofR (togL K V) R = []) := ofR_or _ _
        have HI0 : Hid (SlI wr aR R) := hIr
        generalize ofR (togL K V) R = R1 at *
        generalize ofK (togL K V) R = K1 at *
        generalize ofW (togL K V) R = V1 at *
        generalize ofE (togL K V) R = E at *
        generalize togL K V = T at *
        clear hb hZK hZV hI1 hK1 hV1 hX1 hY HB1 HR0 hc hix
        go_upto_region 12 with fail
        go_cut [8, 9] from 33 to 47 (fun r e4 wc => ∃ bs bR bK bV dR dK dV, r = .pointer (some ⟨bs, 0, none⟩) ∧ e4 = .int .i64 E ∧ Blk wc bs [.slice bR R1.length dR, .slice bK K1.length dK, .slice bV V1.length dV] ∧ SlI wc bR R1 ∧ SlP wc bK K1 ∧ SlP wc bV V1 ∧ Below wr.heap.size wr wc)
        case first =>
          refine wp_region_held_drew (S := fun w' => Below wr.heap.size wr w') (by kernel_rfl) ((Below.refl _ wr).drew) (fun hHeld => ?_)
          refine take_load 0 34 79 W0.heap.size [Value.slice aK K.length cK, Value.slice aV V.length cV] rfl rfl (by kernel_rfl) (by kernel_rfl) (by kernel_rfl) (fun _ _ _ h => h) (by rfl) (by rfl) (by rfl) (fun w hw => (hYr.keep hw).range) Tryz.underlying79 rfl sizeParts hHeld ?_
          simp only [Act.put, List.setIfInBounds_toArray, List.set_cons_succ, List.set_cons_zero]
          refine take_yes 2 36 (v := ?_) rfl rfl (by kernel_rfl) (by kernel_rfl) (by kernel_rfl) (fun _ _ _ h => h) (by rfl) ?_ hHeld ?_
          rotate_left 1
          · (intro w hSw; go_simp; try with_reducible rfl)
          simp only [Act.put, List.setIfInBounds_toArray, List.set_cons_succ, List.set_cons_zero]
          refine take_yes 3 37 (v := ?_) rfl rfl (by kernel_rfl) (by kernel_rfl) (by kernel_rfl) (fun _ _ _ h => h) (by rfl) ?_ hHeld ?_
          rotate_left 1
          · (intro w hSw; have cc := (hXr.keep hSw).at 0 rfl; go_simp; try with_reducible rfl)
          simp only [Act.put, List.setIfInBounds_toArray, List.set_cons_succ, List.set_cons_zero]
          refine wpAnyH_ready (rs := [1, 8]) (by kernel_rfl) (by simp) ?_
          refine AllReadyH.cons rfl (fun K hK => ?_) (AllReadyH.cons rfl (fun K hK => ?_) AllReadyH.nil)
          · skip
            go_simp
            refine (CALL1.out _ hHeld).mono ?_
            rintro e w6 ⟨v6, rfl, hO6, hb6⟩
            obtain ⟨a6, c6, rfl⟩ := hO6.val
            have hP6 : SlP w6 a6 T := hO6.read
            have hS6 : Below wr.heap.size wr w6 := hHeld.trans (hb6.mono hHeld.size)
            go_wp2_with fail
            refine hK.out _ _ hS6 (fun hHeld => ?_)
            clear hK K
            refine wpAnyH_ready (rs := [4, 8]) (by kernel_rfl) (by simp) ?_
            refine AllReadyH.cons rfl (fun K hK => ?_) (AllReadyH.cons rfl (fun K hK => ?_) AllReadyH.nil)
            · skip
              go_simp
              refine (CALL2.out _ a6 c6 hHeld hP6).mono ?_
              rintro e w7 ⟨bR, bK, bV, dR, dK, dV, rfl, ⟨z1, z2⟩, ⟨f1, f2, f3⟩, hI7, hK7, hV7, hb7⟩
              have hS7 : Below wr.heap.size wr w7 := hHeld.trans (hb7.mono hHeld.size)
              have hsz7 := hb7.size
              have hgt7 : wr.heap.size ≤ w7.heap.size := hS7.size
              go_wp2_with fail
              refine hK.out _ _ hS7 (fun hHeld => ?_)
              clear hK K
              refine take_yes 5 33 (v := ?_) rfl rfl (by kernel_rfl) (by kernel_rfl) (by kernel_rfl) (fun _ _ _ h => h) (by rfl) ?_ hHeld ?_
              rotate_left 1
              · (intro w hSw; go_simp; try with_reducible rfl)
              simp only [Act.put, List.setIfInBounds_toArray, List.set_cons_succ, List.set_cons_zero]
              refine take_yes 6 39 (v := ?_) rfl rfl (by kernel_rfl) (by kernel_rfl) (by kernel_rfl) (fun _ _ _ h => h) (by rfl) ?_ hHeld ?_
              rotate_left 1
              · (intro w hSw; go_simp; try with_reducible rfl)
              simp only [Act.put, List.setIfInBounds_toArray, List.set_cons_succ, List.set_cons_zero]
              refine take_yes 7 40 (v := ?_) rfl rfl (by kernel_rfl) (by kernel_rfl) (by kernel_rfl) (fun _ _ _ h => h) (by rfl) ?_ hHeld ?_
              rotate_left 1
              · (intro w hSw; go_simp; try with_reducible rfl)
              simp only [Act.put, List.setIfInBounds_toArray, List.set_cons_succ, List.set_cons_zero]
              refine wpAnyH_ready (rs := [8]) (by kernel_rfl) (by simp) ?_
              refine AllReadyH.cons rfl (fun K hK => ?_) AllReadyH.nil
              go_simp
              have hN := (Blk.new w7 [Value.slice none 0 0, Value.slice none 0 0, Value.slice none 0 0] 25)
              refine hK.out _ _ (hHeld.alloc hHeld.size _) (fun hHeld => ?_)
              clear hK K
              refine step_store 9 25 w7.heap.size [Value.slice bR R1.length dR, Value.slice bK K1.length dK, Value.slice bV V1.length dV] (by kernel_rfl) rfl rfl (by rfl) (by rfl) (by rfl) (by rfl) hN.there sizeView ?_ ?_ ?_
              · intro v hv; simp at hv; rcases hv with rfl | rfl | rfl <;> rfl
              · exact below_sets hHeld w7.heap.size (by omega) [Value.slice bR R1.length dR, Value.slice bK K1.length dK, Value.slice bV V1.length dV] 0
              have hHeld := below_sets hHeld w7.heap.size (by omega) [Value.slice bR R1.length dR, Value.slice bK K1.length dK, Value.slice bV V1.length dV] 0
              refine take_yes 10 9 (v := ?_) rfl rfl (by kernel_rfl) (by kernel_rfl) (by kernel_rfl) (fun _ _ _ h => h) (by rfl) ?_ hHeld ?_
              rotate_left 1
              · (intro w hSw; go_simp; try with_reducible rfl)
              simp only [Act.put, List.setIfInBounds_toArray, List.set_cons_succ, List.set_cons_zero]
              refine wpAnyH_done (by kernel_rfl) ?_ _
              have HHeld : Hid (Below wr.heap.size wr ((w7.alloc (Obj.cells #[Value.slice none 0 0, Value.slice none 0 0, Value.slice none 0 0] 25)).setCells w7.heap.size 0 [Value.slice bR R1.length dR, Value.slice bK K1.length dK, Value.slice bV V1.length dV])) := hHeld
              clear hHeld
              go_wp2
              go_meet
              case rel =>
                have hbw := below_sets (Go.Joins.below_alloc1 w7 (Obj.cells #[Value.slice none 0 0, Value.slice none 0 0, Value.slice none 0 0] 25)) w7.heap.size (Nat.le_refl _) [Value.slice bR R1.length dR, Value.slice bK K1.length dK, Value.slice bV V1.length dV] 0
                exact ⟨_, bR, bK, bV, dR, dK, dV, rfl, rfl, hN.sets [Value.slice bR R1.length dR, Value.slice bK K1.length dK, Value.slice bV V1.length dV] rfl, hI7.below hbw, hK7.below hbw, hV7.below hbw, HHeld.out⟩
            · skip
              go_simp
              have hN := (Blk.new w6 [Value.slice none 0 0, Value.slice none 0 0, Value.slice none 0 0] 25)
              refine hK.out _ _ (hHeld.alloc hHeld.size _) (fun hHeld => ?_)
              clear hK K
              refine wpAnyH_ready (rs := [4]) (by kernel_rfl) (by simp) ?_
              refine AllReadyH.cons rfl (fun K hK => ?_) AllReadyH.nil
              go_simp
              refine (CALL2.out _ a6 c6 hHeld (hP6.below (Go.Joins.below_alloc1 w6 _))).mono ?_
              rintro e w7 ⟨bR, bK, bV, dR, dK, dV, rfl, ⟨z1, z2⟩, ⟨f1, f2, f3⟩, hI7, hK7, hV7, hb7⟩
              have hS7 : Below wr.heap.size wr w7 := hHeld.trans (hb7.mono hHeld.size)
              have hN7 := hN.keep hb7
              have hsz7 := hb7.size
              have hgt7 : wr.heap.size ≤ w7.heap.size := hS7.size
              go_wp2_with fail
              refine hK.out _ _ hS7 (fun hHeld => ?_)
              clear hK K
              refine take_yes 5 33 (v := ?_) rfl rfl (by kernel_rfl) (by kernel_rfl) (by kernel_rfl) (fun _ _ _ h => h) (by rfl) ?_ hHeld ?_
              rotate_left 1
              · (intro w hSw; go_simp; try with_reducible rfl)
              simp only [Act.put, List.setIfInBounds_toArray, List.set_cons_succ, List.set_cons_zero]
              refine take_yes 6 39 (v := ?_) rfl rfl (by kernel_rfl) (by kernel_rfl) (by kernel_rfl) (fun _ _ _ h => h) (by rfl) ?_ hHeld ?_
              rotate_left 1
              · (intro w hSw; go_simp; try with_reducible rfl)
              simp only [Act.put, List.setIfInBounds_toArray, List.set_cons_succ, List.set_cons_zero]
              refine take_yes 7 40 (v := ?_) rfl rfl (by kernel_rfl) (by kernel_rfl) (by kernel_rfl) (fun _ _ _ h => h) (by rfl) ?_ hHeld ?_
              rotate_left 1
              · (intro w hSw; go_simp; try with_reducible rfl)
              simp only [Act.put, List.setIfInBounds_toArray, List.set_cons_succ, List.set_cons_zero]
              have hlt7 : w6.heap.size < w7.heap.size := hN7.lt
              have hgt6 : wr.heap.size ≤ w6.heap.size := hS6.size
              refine step_store 9 25 w6.heap.size [Value.slice bR R1.length dR, Value.slice bK K1.length dK, Value.slice bV V1.length dV] (by kernel_rfl) rfl rfl (by rfl) (by rfl) (by rfl) (by rfl) hN7.there sizeView ?_ ?_ ?_
              · intro v hv; simp at hv; rcases hv with rfl | rfl | rfl <;> rfl
              · exact below_sets hHeld w6.heap.size (by omega) [Value.slice bR R1.length dR, Value.slice bK K1.length dK, Value.slice bV V1.length dV] 0
              have hHeld := below_sets hHeld w6.heap.size (by omega) [Value.slice bR R1.length dR, Value.slice bK K1.length dK, Value.slice bV V1.length dV] 0
              refine take_yes 10 9 (v := ?_) rfl rfl (by kernel_rfl) (by kernel_rfl) (by kernel_rfl) (fun _ _ _ h => h) (by rfl) ?_ hHeld ?_
              rotate_left 1
              · (intro w hSw; go_simp; try with_reducible rfl)
              simp only [Act.put, List.setIfInBounds_toArray, List.set_cons_succ, List.set_cons_zero]
              refine wpAnyH_done (by kernel_rfl) ?_ _
              have HHeld : Hid (Below wr.heap.size wr (w7.setCells w6.heap.size 0 [Value.slice bR R1.length dR, Value.slice bK K1.length dK, Value.slice bV V1.length dV])) := hHeld
              clear hHeld
              go_wp2
              go_meet
              case rel =>
                exact ⟨_, bR, bK, bV, dR, dK, dV, rfl, rfl, hN7.sets [Value.slice bR R1.length dR, Value.slice bK K1.length dK, Value.slice bV V1.length dV] rfl, SlI.apart HI0.out HRR.out hI7 f3 (by omega) (by first | omega | (simp; try omega)) _ _, SlP.apart hK7 f1 (by first | omega | (simp; try omega)) _ _, SlP.apart hV7 f2 (by first | omega | (simp; try omega)) _ _, HHeld.out⟩
          · skip
            go_simp
            have hN := (Blk.new wr [Value.slice none 0 0, Value.slice none 0 0, Value.slice none 0 0] 25).drew
            refine hK.out _ _ (hHeld.alloc hHeld.size _) (fun hHeld => ?_)
            clear hK K
            refine wpAnyH_ready (rs := [1]) (by kernel_rfl) (by simp) ?_
            refine AllReadyH.cons rfl (fun K hK => ?_) AllReadyH.nil
            go_simp
            refine (CALL1.out _ hHeld).mono ?_
            rintro e w6 ⟨v6, rfl, hO6, hb6⟩
            obtain ⟨a6, c6, rfl⟩ := hO6.val
            have hP6 : SlP w6 a6 T := hO6.read
            have hS6 : Below wr.heap.size wr w6 := hHeld.trans (hb6.mono hHeld.size)
            have hN6 := hN.keep hb6
            go_wp2_with fail
            refine hK.out _ _ hS6 (fun hHeld => ?_)
            clear hK K
            refine wpAnyH_ready (rs := [4]) (by kernel_rfl) (by simp) ?_
            refine AllReadyH.cons rfl (fun K hK => ?_) AllReadyH.nil
            go_simp
            refine (CALL2.out _ a6 c6 hHeld hP6).mono ?_
            rintro e w7 ⟨bR, bK, bV, dR, dK, dV, rfl, ⟨z1, z2⟩, ⟨f1, f2, f3⟩, hI7, hK7, hV7, hb7⟩
            have hS7 : Below wr.heap.size wr w7 := hHeld.trans (hb7.mono hHeld.size)
            have hN7 := hN6.keep hb7
            have hsz7 := hb7.size
            have hgt7 : wr.heap.size ≤ w7.heap.size := hS7.size
            go_wp2_with fail
            refine hK.out _ _ hS7 (fun hHeld => ?_)
            clear hK K
            refine take_yes 5 33 (v := ?_) rfl rfl (by kernel_rfl) (by kernel_rfl) (by kernel_rfl) (fun _ _ _ h => h) (by rfl) ?_ hHeld ?_
            rotate_left 1
            · (intro w hSw; go_simp; try with_reducible rfl)
            simp only [Act.put, List.setIfInBounds_toArray, List.set_cons_succ, List.set_cons_zero]
            refine take_yes 6 39 (v := ?_) rfl rfl (by kernel_rfl) (by kernel_rfl) (by kernel_rfl) (fun _ _ _ h => h) (by rfl) ?_ hHeld ?_
            rotate_left 1
            · (intro w hSw; go_simp; try with_reducible rfl)
            simp only [Act.put, List.setIfInBounds_toArray, List.set_cons_succ, List.set_cons_zero]
            refine take_yes 7 40 (v := ?_) rfl rfl (by kernel_rfl) (by kernel_rfl) (by kernel_rfl) (fun _ _ _ h => h) (by rfl) ?_ hHeld ?_
            rotate_left 1
            · (intro w hSw; go_simp; try with_reducible rfl)
            simp only [Act.put, List.setIfInBounds_toArray, List.set_cons_succ, List.set_cons_zero]
            have hlt6 : wr.heap.size < w6.heap.size := hN6.lt
            refine step_store 9 25 wr.heap.size [Value.slice bR R1.length dR, Value.slice bK K1.length dK, Value.slice bV V1.length dV] (by kernel_rfl) rfl rfl (by rfl) (by rfl) (by rfl) (by rfl) hN7.there sizeView ?_ ?_ ?_
            · intro v hv; simp at hv; rcases hv with rfl | rfl | rfl <;> rfl
            · exact below_sets hHeld wr.heap.size (by omega) [Value.slice bR R1.length dR, Value.slice bK K1.length dK, Value.slice bV V1.length dV] 0
            have hHeld := below_sets hHeld wr.heap.size (by omega) [Value.slice bR R1.length dR, Value.slice bK K1.length dK, Value.slice bV V1.length dV] 0
            refine take_yes 10 9 (v := ?_) rfl rfl (by kernel_rfl) (by kernel_rfl) (by kernel_rfl) (fun _ _ _ h => h) (by rfl) ?_ hHeld ?_
            rotate_left 1
            · (intro w hSw; go_simp; try with_reducible rfl)
            simp only [Act.put, List.setIfInBounds_toArray, List.set_cons_succ, List.set_cons_zero]
            refine wpAnyH_done (by kernel_rfl) ?_ _
            have HHeld : Hid (Below wr.heap.size wr (w7.setCells wr.heap.size 0 [Value.slice bR R1.length dR, Value.slice bK K1.length dK, Value.slice bV V1.length dV])) := hHeld
            clear hHeld
            go_wp2
            go_meet
            case rel =>
              exact ⟨_, bR, bK, bV, dR, dK, dV, rfl, rfl, hN7.sets [Value.slice bR R1.length dR, Value.slice bK K1.length dK, Value.slice bV V1.length dV] rfl, SlI.apart HI0.out HRR.out hI7 f3 (by omega) (by first | omega | (simp; try omega)) _ _, SlP.apart hK7 f1 (by first | omega | (simp; try omega)) _ _, SlP.apart hV7 f2 (by first | omega | (simp; try omega)) _ _, HHeld.out⟩
        case rest =>
          obtain ⟨bs, bR, bK, bV, dR, dK, dV, rfl, rfl, hblk, hIc, hKc, hVc, hbc⟩ := hcut
          have HBc : Hid (Below w.heap.size w wc) := HBr.out.trans (hbc.mono HBr.out.size)
          by_cases hz : E = 0
          · subst hz
            have hXc := hXr.keep hbc
            have x0 := hXc.at 0 rfl
            have x1 := hXc.at 1 rfl
            have x2 := hXc.at 2 rfl
            have y0 := hblk.at 0 rfl
            have y1 := hblk.at 1 rfl
            have y2 := hblk.at 2 rfl
            have m1 := hIr.below hbc
            have m2 := hKr.below hbc
            have m3 := hVr.below hbc
            clear hbc hblk hXr hXc hYr hIr hKr hVr CALL1 CALL2 HI0 HRR HBr
            go_wp2_with fail
            refine (vsame_any wc aR aK aV bR bK bV cR cK cV dR dK dV R R1 K K1 V V1 hR hK hV m1 m2 m3 hIc hKc hVc).mono ?_
            rintro e w5 ⟨rfl, hb5⟩
            have HB5 : Hid (Below w.heap.size w w5) := HBc.out.trans (hb5.mono HBc.out.size)
            clear hb5 m1 m2 m3 hIc hKc hVc x0 x1 x2 y0 y1 y2
            cases hq : sameV R R1 K K1 V V1
            · have HF : Hid (viewE R K V = 4) := by show _ = _; rw [HE.out, hq]; rfl
              go_wp2
              go_ret
              exact ⟨ret_int HF.out.symm, HB5.out⟩
            · have HF : Hid (viewE R K V = 0) := by show _ = _; rw [HE.out, hq]; rfl
              go_wp2
              go_ret
              exact ⟨ret_int HF.out.symm, HB5.out⟩
          · have hz' : (E != 0) = true := by simpa using hz
            have HF : Hid (viewE R K V = E) := by show _ = _; rw [HE.out, if_pos hz]
            clear hz
            go_wp2
            go_ret
            exact ⟨ret_int HF.out.symm, HBc.out⟩
  · have hr' : (rootsOk R != 0) = true := by simpa using hr
    have HE : Hid (viewE R K V = rootsOk R) := by show _ = _; unfold viewE; rw [if_pos hr]
    clear hr
    go_wp2
    go_ret
    exact ⟨ret_int HE.out.symm, HB.out⟩
end Go.Proofs.YtkjgoikcibgonacGreat

