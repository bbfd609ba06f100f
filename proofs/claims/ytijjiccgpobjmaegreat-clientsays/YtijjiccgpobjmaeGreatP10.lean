/- 6 texts of the proof: view.Check. delta.Of. delta.Same, orangeryref.SameDelta, orangeryref.half, orangeryref.CheckDelta. Steps and operations held against themselves. Stamps, operations and steps held against each other, whatever they are. Mail in memory; slices.EqualFunc at mail; orangeryref.SameMail. -/
import Derived.Laws.StructEq
import Derived.Test.YtijjiccgpobjmaeGreatP08
import Derived.Test.YtijjiccgpobjmaeGreatP09
import Derived.Test.YtijjiccgpobjmaeGreatP05
import Derived.Test.YtijjiccgpobjmaeGreatP03
/- view.Check. -/
namespace Go.Proofs.YtijjiccgpobjmaeGreat
open Go.ChangeShapes Go.WideShapes Go.ChangeAt Go.RowKit
open Orangery (Pl check scan rootsOk togL sameV viewE ofE ofR ofK ofW)

theorem SlP.apart {w : World} {a : Option Addr} {l : List Pl} {B g : Nat} (h : SlP w a l) (hf : Fresh B a) (hg : g < B) : ∀ (us : List Value) (o : Nat), SlP (w.setCells g o us) a l := by
  intro us
  induction us generalizing w with
  | nil => intro o; exact h
  | cons u us ih => intro o; exact ih (h.other g (fun b off e => by have := hf b off e; omega) o u) (o + 1)
theorem SlI.other {w : World} {a : Option Addr} {l : List Int} (h : SlI w a l) (g : Nat) (hg : l ≠ [] → ∀ b off, a = some ⟨b, off, none⟩ → b ≠ g) (j : Nat) (v : Value) : SlI (w.setCell ⟨g, j, none⟩ v) a l := by
  by_cases hl : l = []
  · exact Or.inl hl
  · rcases h with h | ⟨b, off, ha, hlt, hp⟩
    · exact absurd h hl
    · have hne := hg hl b off ha
      refine Or.inr ⟨b, off, ha, by simpa using hlt, fun i hi => ?_⟩
      rw [World.cell?_setCell_other _ _ _ _ (by simp <;> omega)]
      exact hp i hi
theorem SlI.others {w : World} {a : Option Addr} {l : List Int} (h : SlI w a l) (g : Nat) (hg : l ≠ [] → ∀ b off, a = some ⟨b, off, none⟩ → b ≠ g) : ∀ (us : List Value) (o : Nat), SlI (w.setCells g o us) a l := by
  intro us
  induction us generalizing w with
  | nil => intro o; exact h
  | cons u us ih => intro o; exact ih (h.other g hg o u) (o + 1)
theorem SlI.apart {W w : World} {a a' : Option Addr} {R R1 : List Int} {B g : Nat} (h0 : SlI W a' R) (hR : R1 = R ∨ R1 = []) (h : SlI w a R1) (hf : a = a' ∨ Fresh B a) (hg : W.heap.size ≤ g) (hB : g < B) (us : List Value) (o : Nat) : SlI (w.setCells g o us) a R1 := by
  refine h.others g (fun hn b off e => ?_) us o
  rcases hf with rfl | hf
  · rcases hR with rfl | hR
    · rcases h0 with h0 | ⟨b', off', e', hlt, _⟩
      · exact absurd h0 hn
      · rw [e] at e'
        simp at e'
        omega
    · exact absurd hR hn
  · have := hf b off e
    omega
theorem ofR_or (l : List Pl) (R : List Int) : ofR l R = R ∨ ofR l R = [] := by
  by_cases h : ofE l R = 0
  · exact Or.inl (Orangery.of_ok h).1
  · exact Or.inr (Orangery.of_bad h).1
theorem viewE_eq {R : List Int} {K V : List Pl} (h1 : rootsOk R = 0) (h2 : check K = 0) (h3 : check V = 0) :
    viewE R K V = if ofE (togL K V) R ≠ 0 then ofE (togL K V) R else if sameV R (ofR (togL K V) R) K (ofK (togL K V) R) V (ofW (togL K V) R) = true then 0 else 4 := by
  have e : ofE (togL K V) R = check (togL K V) := by
    unfold ofE Orangery.orI
    rw [h1]
    by_cases h : check (togL K V) = 0
    · rw [if_neg (by simp [h]), h]
    · rw [if_pos h]
  unfold viewE
  rw [if_neg (by simp [h1]), if_neg (by simp [h2]), if_neg (by simp [h3])]
  by_cases h : check (togL K V) = 0
  · obtain ⟨e1, e2, e3⟩ := Orangery.of_ok (l := togL K V) (R := R) (by rw [e]; exact h)
    have h0 : ¬ ofE (togL K V) R ≠ 0 := by rw [e]; simp [h]
    have h9 : ¬ check (togL K V) ≠ 0 := by simp [h]
    rw [if_neg h9, if_neg h0, e1, e2, e3]
  · rw [if_pos h, e, if_pos h]
theorem tog_len {K V : List Pl} (hK : check K = 0) (hV : check V = 0) : (togL K V).length ≤ 15 := by
  have := Orangery.scan_len _ 0 (Orangery.scan_tog (Orangery.check_scan K hK) (Orangery.check_scan V hV)) (by omega)
  omega
theorem run_index_parts (x y : Value) (w : World) : (Instr.index 106 (.agg #[x, y]) (.int .i64 0)).run Tryz.prog w = .ok (.agg #[x]) w ∧ (Instr.index 106 (.agg #[x, y]) (.int .i64 1)).run Tryz.prog w = .ok (.agg #[y]) w := by
  have hu := Tryz.underlying106
  have ha := Tryz.isAgg37
  have hz := Tryz.sizeOf37
  unfold Instr.index
  refine ⟨?_, ?_⟩ <;> go_simp <;> simp [asAgg]

set_option maxHeartbeats 4000000 in
set_option maxRecDepth 100000 in
theorem vcheck_any (w : World) (aR aK aV : Option Addr) (cR cK cV : Nat) (R : List Int) (K V : List Pl) (hR : R.length ≤ maxLen) (hK : K.length ≤ maxLen) (hV : V.length ≤ maxLen) (hc : aV = none → cV = 0)
    (h1 : SlI w aR R) (h2 : SlP w aK K) (h3 : SlP w aV V) :
    Calls Tryz.prog 39 #[viV (.slice aR R.length cR) (.slice aK K.length cK) (.slice aV V.length cV)] w
      fun e w' => e = .returned (.int .i64 (viewE R K V)) ∧ Below w.heap.size w w' := by
  obtain ⟨W0, hW, hX, hB, hS⟩ := laid1 w [Value.slice aR R.length cR, Value.slice aK K.length cK, Value.slice aV V.length cV] 26
  have x0 := hX.at 0 rfl
  have g1 := h1.below hB
  have g2 := h2.below hB
  have g3 := h3.below hB
  have HB : Hid (Below w.heap.size w W0) := hB
  clear h1 h2 h3 hB
  go_enter Tryz.func39, Tryz.ntmps39
  go_wp2_with fail
  clear hW
  refine (vroots_any W0 aR cR R hR g1).mono ?_
  rintro e W0 ⟨rfl, rfl⟩
  by_cases hr : rootsOk R = 0
  · have HR0 : Hid (rootsOk R = 0) := hr
    rw [hr]
    clear hr
    have x1 := hX.at 1 rfl
    have x2 := hX.at 2 rfl
    obtain ⟨W1, hW1, hY, hB1, hS1⟩ := laid1 W0 [Value.slice aK K.length cK, Value.slice aV V.length cV] 106
    have hX1 := hX.keep hB1
    have hI1 := g1.below hB1
    have hK1 := g2.below hB1
    have hV1 := g3.below hB1
    have HB1 : Hid (Below w.heap.size w W1) := HB.out.trans (hB1.mono HB.out.size)
    have y0 := hY.at 0 rfl
    have y1 := hY.at 1 rfl
    have hix := fun W => run_index_parts (.slice aK K.length cK) (.slice aV V.length cV) W
    clear hX g1 g2 g3 HB hB1 hS hS1
    go_wp2
    clear hW1 x0 x1 x2 y0 y1
    go_loopw [24] (fun i W => ∃ k : Nat, k ≤ 2 ∧ i = .int .i64 k ∧ (1 ≤ k → check K = 0) ∧ (2 ≤ k → check V = 0) ∧ Below W1.heap.size W1 W) (fun i _ => 2 - (intOf i).toNat)
    case atStart => exact ⟨0, by omega, rfl, by omega, by omega, Below.refl _ _⟩
    case round =>
      obtain ⟨k, hk, rfl, hc1, hc2, hb⟩ := hrel
      have HC1 : Hid (1 ≤ k → check K = 0) := hc1
      have HC2 : Hid (2 ≤ k → check V = 0) := hc2
      have hcs : k = 0 ∨ k = 1 ∨ k = 2 := by omega
      clear hc1 hc2
      rcases hcs with rfl | rfl | rfl
      · have hP := (hK1.below hb).below (Go.Joins.below_alloc1 wr (Obj.cells #[Value.slice aK K.length cK] 37))
        have hbn := hb.alloc hb.size (Obj.cells #[Value.slice aK K.length cK] 37)
        go_wp2_with fail
        refine (check_any _ aK cK K hK hP).mono ?_
        rintro e w2 ⟨rfl, hb2⟩
        have HBx : Hid (Below W1.heap.size W1 w2) := hbn.trans (hb2.mono hbn.size)
        clear hbn hb2 hb
        by_cases hz : check K = 0
        · have HZ : Hid (check K = 0) := hz
          rw [hz]
          clear hz
          go_wp2
          go_roundw
          case rel => exact ⟨1, by omega, by go_num, fun _ => HZ.out, by omega, HBx.out⟩
          case measure => simp [intOf]
        · have hz' : (check K != 0) = true := by simpa using hz
          have HE : Hid (viewE R K V = check K) := by show _ = _; unfold viewE; rw [if_neg (by simp [HR0.out]), if_pos hz]
          clear hz
          go_wp2
          go_ret
          exact ⟨ret_int HE.out.symm, HB1.out.trans (HBx.out.mono HB1.out.size)⟩
      · have HZ : Hid (check K = 0) := HC1.out (by omega)
        have hP := (hV1.below hb).below (Go.Joins.below_alloc1 wr (Obj.cells #[Value.slice aV V.length cV] 37))
        have hbn := hb.alloc hb.size (Obj.cells #[Value.slice aV V.length cV] 37)
        go_wp2_with fail
        refine (check_any _ aV cV V hV hP).mono ?_
        rintro e w2 ⟨rfl, hb2⟩
        have HBx : Hid (Below W1.heap.size W1 w2) := hbn.trans (hb2.mono hbn.size)
        clear hbn hb2 hb
        by_cases hz : check V = 0
        · have HZ2 : Hid (check V = 0) := hz
          rw [hz]
          clear hz
          go_wp2
          go_roundw
          case rel => exact ⟨2, by omega, by go_num, fun _ => HZ.out, fun _ => HZ2.out, HBx.out⟩
          case measure => simp [intOf]
        · have hz' : (check V != 0) = true := by simpa using hz
          have HE : Hid (viewE R K V = check V) := by show _ = _; unfold viewE; rw [if_neg (by simp [HR0.out]), if_neg (by simp [HZ.out]), if_pos hz]
          clear hz
          go_wp2
          go_ret
          exact ⟨ret_int HE.out.symm, HB1.out.trans (HBx.out.mono HB1.out.size)⟩
      · have hZK : check K = 0 := HC1.out (by omega)
        have hZV : check V = 0 := HC2.out (by omega)
        clear HC1 HC2
        have hYr := hY.keep hb
        have hXr := hX1.keep hb
        have hIr := hI1.below hb
        have hKr := hK1.below hb
        have hVr := hV1.below hb
        have HBr : Hid (Below w.heap.size w wr) := HB1.out.trans (hb.mono HB1.out.size)
        have HE : Hid (viewE R K V = if ofE (togL K V) R ≠ 0 then ofE (togL K V) R else if sameV R (ofR (togL K V) R) K (ofK (togL K V) R) V (ofW (togL K V) R) = true then 0 else 4) := viewE_eq HR0.out hZK hZV
        have CALL1 : Hid (∀ w', Below wr.heap.size wr w' → Calls Tryz.prog 75 #[.agg #[.slice aK K.length cK, .slice aV V.length cV]] w' fun e w'' => ∃ v, e = .returned (.agg #[v]) ∧ OwnS w'' w'.heap.size v (togL K V) ∧ Below w'.heap.size w' w'') :=
          fun w' hb' => together_any w' aK aV cK cV K V (Orangery.check_scan K hZK) (Orangery.check_scan V hZV) hc (hKr.below hb') (hVr.below hb')
        have CALL2 : Hid (∀ w' a c, Below wr.heap.size wr w' → SlP w' a (togL K V) → Calls Tryz.prog 37 #[.agg #[.slice a (togL K V).length c], .slice aR R.length cR] w' (Views w' aR (ofR (togL K V) R) (ofK (togL K V) R) (ofW (togL K V) R) (ofE (togL K V) R))) :=
          fun w' a c hb' hp => of_any w' a aR c cR (togL K V) R (by have := tog_len hZK hZV; unfold maxLen; omega) hR hp (hIr.below hb')
        have HRR : Hid (ofR (togL K V) R = R ∨ ofR (togL K V) R = []) := ofR_or _ _
        have HI0 : Hid (SlI wr aR R) := hIr
        generalize ofR (togL K V) R = R1 at *
        generalize ofK (togL K V) R = K1 at *
        generalize ofW (togL K V) R = V1 at *
        generalize ofE (togL K V) R = E at *
        generalize togL K V = T at *
        clear hb hZK hZV hI1 hK1 hV1 hX1 hY HB1 HR0 hc hix
        go_upto_region 12 with fail
        go_cut [8, 9] from 33 to 47 (fun r e4 wc => ∃ bs bR bK bV dR dK dV, r = .pointer (some ⟨bs, 0, none⟩) ∧ e4 = .int .i64 E ∧ Blk wc bs [.slice bR R1.length dR, .slice bK K1.length dK, .slice bV V1.length dV] ∧ SlI wc bR R1 ∧ SlP wc bK K1 ∧ SlP wc bV V1 ∧ Below wr.heap.size wr wc)
        case first =>
          refine wp_region_held_drew (S := fun w' => Below wr.heap.size wr w') (by kernel_rfl) ((Below.refl _ wr).drew) (fun hHeld => ?_)
          refine take_load 0 34 106 W0.heap.size [Value.slice aK K.length cK, Value.slice aV V.length cV] rfl rfl (by kernel_rfl) (by kernel_rfl) (by kernel_rfl) (fun _ _ _ h => h) (by rfl) (by rfl) (by rfl) (fun w hw => (hYr.keep hw).range) Tryz.underlying106 rfl sizeParts hHeld ?_
          simp only [Act.put, List.setIfInBounds_toArray, List.set_cons_succ, List.set_cons_zero]
          refine take_yes 2 36 (v := ?_) rfl rfl (by kernel_rfl) (by kernel_rfl) (by kernel_rfl) (fun _ _ _ h => h) (by rfl) ?_ hHeld ?_
          rotate_left 1
          · (intro w hSw; go_simp; try with_reducible rfl)
          simp only [Act.put, List.setIfInBounds_toArray, List.set_cons_succ, List.set_cons_zero]
          refine take_yes 3 37 (v := ?_) rfl rfl (by kernel_rfl) (by kernel_rfl) (by kernel_rfl) (fun _ _ _ h => h) (by rfl) ?_ hHeld ?_
          rotate_left 1
          · (intro w hSw; have cc := (hXr.keep hSw).at 0 rfl; go_simp; try with_reducible rfl)
          simp only [Act.put, List.setIfInBounds_toArray, List.set_cons_succ, List.set_cons_zero]
          refine wpAnyH_ready (rs := [1, 8]) (by kernel_rfl) (by simp) ?_
          refine AllReadyH.cons rfl (fun K hK => ?_) (AllReadyH.cons rfl (fun K hK => ?_) AllReadyH.nil)
          · skip
            go_simp
            refine (CALL1.out _ hHeld).mono ?_
            rintro e w6 ⟨v6, rfl, hO6, hb6⟩
            obtain ⟨a6, c6, rfl⟩ := hO6.val
            have hP6 : SlP w6 a6 T := hO6.read
            have hS6 : Below wr.heap.size wr w6 := hHeld.trans (hb6.mono hHeld.size)
            go_wp2_with fail
            refine hK.out _ _ hS6 (fun hHeld => ?_)
            clear hK K
            refine wpAnyH_ready (rs := [4, 8]) (by kernel_rfl) (by simp) ?_
            refine AllReadyH.cons rfl (fun K hK => ?_) (AllReadyH.cons rfl (fun K hK => ?_) AllReadyH.nil)
            · skip
              go_simp
              refine (CALL2.out _ a6 c6 hHeld hP6).mono ?_
              rintro e w7 ⟨bR, bK, bV, dR, dK, dV, rfl, ⟨z1, z2⟩, ⟨f1, f2, f3⟩, hI7, hK7, hV7, hb7⟩
              have hS7 : Below wr.heap.size wr w7 := hHeld.trans (hb7.mono hHeld.size)
              have hsz7 := hb7.size
              have hgt7 : wr.heap.size ≤ w7.heap.size := hS7.size
              go_wp2_with fail
              refine hK.out _ _ hS7 (fun hHeld => ?_)
              clear hK K
              refine take_yes 5 33 (v := ?_) rfl rfl (by kernel_rfl) (by kernel_rfl) (by kernel_rfl) (fun _ _ _ h => h) (by rfl) ?_ hHeld ?_
              rotate_left 1
              · (intro w hSw; go_simp; try with_reducible rfl)
              simp only [Act.put, List.setIfInBounds_toArray, List.set_cons_succ, List.set_cons_zero]
              refine take_yes 6 39 (v := ?_) rfl rfl (by kernel_rfl) (by kernel_rfl) (by kernel_rfl) (fun _ _ _ h => h) (by rfl) ?_ hHeld ?_
              rotate_left 1
              · (intro w hSw; go_simp; try with_reducible rfl)
              simp only [Act.put, List.setIfInBounds_toArray, List.set_cons_succ, List.set_cons_zero]
              refine take_yes 7 40 (v := ?_) rfl rfl (by kernel_rfl) (by kernel_rfl) (by kernel_rfl) (fun _ _ _ h => h) (by rfl) ?_ hHeld ?_
              rotate_left 1
              · (intro w hSw; go_simp; try with_reducible rfl)
              simp only [Act.put, List.setIfInBounds_toArray, List.set_cons_succ, List.set_cons_zero]
              refine wpAnyH_ready (rs := [8]) (by kernel_rfl) (by simp) ?_
              refine AllReadyH.cons rfl (fun K hK => ?_) AllReadyH.nil
              go_simp
              have hN := (Blk.new w7 [Value.slice none 0 0, Value.slice none 0 0, Value.slice none 0 0] 26)
              refine hK.out _ _ (hHeld.alloc hHeld.size _) (fun hHeld => ?_)
              clear hK K
              refine step_store 9 26 w7.heap.size [Value.slice bR R1.length dR, Value.slice bK K1.length dK, Value.slice bV V1.length dV] (by kernel_rfl) rfl rfl (by rfl) (by rfl) (by rfl) (by rfl) hN.there sizeView ?_ ?_ ?_
              · intro v hv; simp at hv; rcases hv with rfl | rfl | rfl <;> rfl
              · exact below_sets hHeld w7.heap.size (by omega) [Value.slice bR R1.length dR, Value.slice bK K1.length dK, Value.slice bV V1.length dV] 0
              have hHeld := below_sets hHeld w7.heap.size (by omega) [Value.slice bR R1.length dR, Value.slice bK K1.length dK, Value.slice bV V1.length dV] 0
              refine take_yes 10 9 (v := ?_) rfl rfl (by kernel_rfl) (by kernel_rfl) (by kernel_rfl) (fun _ _ _ h => h) (by rfl) ?_ hHeld ?_
              rotate_left 1
              · (intro w hSw; go_simp; try with_reducible rfl)
              simp only [Act.put, List.setIfInBounds_toArray, List.set_cons_succ, List.set_cons_zero]
              refine wpAnyH_done (by kernel_rfl) ?_ _
              have HHeld : Hid (Below wr.heap.size wr ((w7.alloc (Obj.cells #[Value.slice none 0 0, Value.slice none 0 0, Value.slice none 0 0] 26)).setCells w7.heap.size 0 [Value.slice bR R1.length dR, Value.slice bK K1.length dK, Value.slice bV V1.length dV])) := hHeld
              clear hHeld
              go_wp2
              go_meet
              case rel =>
                have hbw := below_sets (Go.Joins.below_alloc1 w7 (Obj.cells #[Value.slice none 0 0, Value.slice none 0 0, Value.slice none 0 0] 26)) w7.heap.size (Nat.le_refl _) [Value.slice bR R1.length dR, Value.slice bK K1.length dK, Value.slice bV V1.length dV] 0
                exact ⟨_, bR, bK, bV, dR, dK, dV, rfl, rfl, hN.sets [Value.slice bR R1.length dR, Value.slice bK K1.length dK, Value.slice bV V1.length dV] rfl, hI7.below hbw, hK7.below hbw, hV7.below hbw, HHeld.out⟩
            · skip
              go_simp
              have hN := (Blk.new w6 [Value.slice none 0 0, Value.slice none 0 0, Value.slice none 0 0] 26)
              refine hK.out _ _ (hHeld.alloc hHeld.size _) (fun hHeld => ?_)
              clear hK K
              refine wpAnyH_ready (rs := [4]) (by kernel_rfl) (by simp) ?_
              refine AllReadyH.cons rfl (fun K hK => ?_) AllReadyH.nil
              go_simp
              refine (CALL2.out _ a6 c6 hHeld (hP6.below (Go.Joins.below_alloc1 w6 _))).mono ?_
              rintro e w7 ⟨bR, bK, bV, dR, dK, dV, rfl, ⟨z1, z2⟩, ⟨f1, f2, f3⟩, hI7, hK7, hV7, hb7⟩
              have hS7 : Below wr.heap.size wr w7 := hHeld.trans (hb7.mono hHeld.size)
              have hN7 := hN.keep hb7
              have hsz7 := hb7.size
              have hgt7 : wr.heap.size ≤ w7.heap.size := hS7.size
              go_wp2_with fail
              refine hK.out _ _ hS7 (fun hHeld => ?_)
              clear hK K
              refine take_yes 5 33 (v := ?_) rfl rfl (by kernel_rfl) (by kernel_rfl) (by kernel_rfl) (fun _ _ _ h => h) (by rfl) ?_ hHeld ?_
              rotate_left 1
              · (intro w hSw; go_simp; try with_reducible rfl)
              simp only [Act.put, List.setIfInBounds_toArray, List.set_cons_succ, List.set_cons_zero]
              refine take_yes 6 39 (v := ?_) rfl rfl (by kernel_rfl) (by kernel_rfl) (by kernel_rfl) (fun _ _ _ h => h) (by rfl) ?_ hHeld ?_
              rotate_left 1
              · (intro w hSw; go_simp; try with_reducible rfl)
              simp only [Act.put, List.setIfInBounds_toArray, List.set_cons_succ, List.set_cons_zero]
              refine take_yes 7 40 (v := ?_) rfl rfl (by kernel_rfl) (by kernel_rfl) (by kernel_rfl) (fun _ _ _ h => h) (by rfl) ?_ hHeld ?_
              rotate_left 1
              · (intro w hSw; go_simp; try with_reducible rfl)
              simp only [Act.put, List.setIfInBounds_toArray, List.set_cons_succ, List.set_cons_zero]
              have hlt7 : w6.heap.size < w7.heap.size := hN7.lt
              have hgt6 : wr.heap.size ≤ w6.heap.size := hS6.size
              refine step_store 9 26 w6.heap.size [Value.slice bR R1.length dR, Value.slice bK K1.length dK, Value.slice bV V1.length dV] (by kernel_rfl) rfl rfl (by rfl) (by rfl) (by rfl) (by rfl) hN7.there sizeView ?_ ?_ ?_
              · intro v hv; simp at hv; rcases hv with rfl | rfl | rfl <;> rfl
              · exact below_sets hHeld w6.heap.size (by omega) [Value.slice bR R1.length dR, Value.slice bK K1.length dK, Value.slice bV V1.length dV] 0
              have hHeld := below_sets hHeld w6.heap.size (by omega) [Value.slice bR R1.length dR, Value.slice bK K1.length dK, Value.slice bV V1.length dV] 0
              refine take_yes 10 9 (v := ?_) rfl rfl (by kernel_rfl) (by kernel_rfl) (by kernel_rfl) (fun _ _ _ h => h) (by rfl) ?_ hHeld ?_
              rotate_left 1
              · (intro w hSw; go_simp; try with_reducible rfl)
              simp only [Act.put, List.setIfInBounds_toArray, List.set_cons_succ, List.set_cons_zero]
              refine wpAnyH_done (by kernel_rfl) ?_ _
              have HHeld : Hid (Below wr.heap.size wr (w7.setCells w6.heap.size 0 [Value.slice bR R1.length dR, Value.slice bK K1.length dK, Value.slice bV V1.length dV])) := hHeld
              clear hHeld
              go_wp2
              go_meet
              case rel =>
                exact ⟨_, bR, bK, bV, dR, dK, dV, rfl, rfl, hN7.sets [Value.slice bR R1.length dR, Value.slice bK K1.length dK, Value.slice bV V1.length dV] rfl, SlI.apart HI0.out HRR.out hI7 f3 (by omega) (by first | omega | (simp; try omega)) _ _, SlP.apart hK7 f1 (by first | omega | (simp; try omega)) _ _, SlP.apart hV7 f2 (by first | omega | (simp; try omega)) _ _, HHeld.out⟩
          · skip
            go_simp
            have hN := (Blk.new wr [Value.slice none 0 0, Value.slice none 0 0, Value.slice none 0 0] 26).drew
            refine hK.out _ _ (hHeld.alloc hHeld.size _) (fun hHeld => ?_)
            clear hK K
            refine wpAnyH_ready (rs := [1]) (by kernel_rfl) (by simp) ?_
            refine AllReadyH.cons rfl (fun K hK => ?_) AllReadyH.nil
            go_simp
            refine (CALL1.out _ hHeld).mono ?_
            rintro e w6 ⟨v6, rfl, hO6, hb6⟩
            obtain ⟨a6, c6, rfl⟩ := hO6.val
            have hP6 : SlP w6 a6 T := hO6.read
            have hS6 : Below wr.heap.size wr w6 := hHeld.trans (hb6.mono hHeld.size)
            have hN6 := hN.keep hb6
            go_wp2_with fail
            refine hK.out _ _ hS6 (fun hHeld => ?_)
            clear hK K
            refine wpAnyH_ready (rs := [4]) (by kernel_rfl) (by simp) ?_
            refine AllReadyH.cons rfl (fun K hK => ?_) AllReadyH.nil
            go_simp
            refine (CALL2.out _ a6 c6 hHeld hP6).mono ?_
            rintro e w7 ⟨bR, bK, bV, dR, dK, dV, rfl, ⟨z1, z2⟩, ⟨f1, f2, f3⟩, hI7, hK7, hV7, hb7⟩
            have hS7 : Below wr.heap.size wr w7 := hHeld.trans (hb7.mono hHeld.size)
            have hN7 := hN6.keep hb7
            have hsz7 := hb7.size
            have hgt7 : wr.heap.size ≤ w7.heap.size := hS7.size
            go_wp2_with fail
            refine hK.out _ _ hS7 (fun hHeld => ?_)
            clear hK K
            refine take_yes 5 33 (v := ?_) rfl rfl (by kernel_rfl) (by kernel_rfl) (by kernel_rfl) (fun _ _ _ h => h) (by rfl) ?_ hHeld ?_
            rotate_left 1
            · (intro w hSw; go_simp; try with_reducible rfl)
            simp only [Act.put, List.setIfInBounds_toArray, List.set_cons_succ, List.set_cons_zero]
            refine take_yes 6 39 (v := ?_) rfl rfl (by kernel_rfl) (by kernel_rfl) (by kernel_rfl) (fun _ _ _ h => h) (by rfl) ?_ hHeld ?_
            rotate_left 1
            · (intro w hSw; go_simp; try with_reducible rfl)
            simp only [Act.put, List.setIfInBounds_toArray, List.set_cons_succ, List.set_cons_zero]
            refine take_yes 7 40 (v := ?_) rfl rfl (by kernel_rfl) (by kernel_rfl) (by kernel_rfl) (fun _ _ _ h => h) (by rfl) ?_ hHeld ?_
            rotate_left 1
            · (intro w hSw; go_simp; try with_reducible rfl)
            simp only [Act.put, List.setIfInBounds_toArray, List.set_cons_succ, List.set_cons_zero]
            have hlt6 : wr.heap.size < w6.heap.size := hN6.lt
            refine step_store 9 26 wr.heap.size [Value.slice bR R1.length dR, Value.slice bK K1.length dK, Value.slice bV V1.length dV] (by kernel_rfl) rfl rfl (by rfl) (by rfl) (by rfl) (by rfl) hN7.there sizeView ?_ ?_ ?_
            · intro v hv; simp at hv; rcases hv with rfl | rfl | rfl <;> rfl
            · exact below_sets hHeld wr.heap.size (by omega) [Value.slice bR R1.length dR, Value.slice bK K1.length dK, Value.slice bV V1.length dV] 0
            have hHeld := below_sets hHeld wr.heap.size (by omega) [Value.slice bR R1.length dR, Value.slice bK K1.length dK, Value.slice bV V1.length dV] 0
            refine take_yes 10 9 (v := ?_) rfl rfl (by kernel_rfl) (by kernel_rfl) (by kernel_rfl) (fun _ _ _ h => h) (by rfl) ?_ hHeld ?_
            rotate_left 1
            · (intro w hSw; go_simp; try with_reducible rfl)
            simp only [Act.put, List.setIfInBounds_toArray, List.set_cons_succ, List.set_cons_zero]
            refine wpAnyH_done (by kernel_rfl) ?_ _
            have HHeld : Hid (Below wr.heap.size wr (w7.setCells wr.heap.size 0 [Value.slice bR R1.length dR, Value.slice bK K1.length dK, Value.slice bV V1.length dV])) := hHeld
            clear hHeld
            go_wp2
            go_meet
            case rel =>
              exact ⟨_, bR, bK, bV, dR, dK, dV, rfl, rfl, hN7.sets [Value.slice bR R1.length dR, Value.slice bK K1.length dK, Value.slice bV V1.length dV] rfl, SlI.apart HI0.out HRR.out hI7 f3 (by omega) (by first | omega | (simp; try omega)) _ _, SlP.apart hK7 f1 (by first | omega | (simp; try omega)) _ _, SlP.apart hV7 f2 (by first | omega | (simp; try omega)) _ _, HHeld.out⟩
        case rest =>
          obtain ⟨bs, bR, bK, bV, dR, dK, dV, rfl, rfl, hblk, hIc, hKc, hVc, hbc⟩ := hcut
          have HBc : Hid (Below w.heap.size w wc) := HBr.out.trans (hbc.mono HBr.out.size)
          by_cases hz : E = 0
          · subst hz
            have hXc := hXr.keep hbc
            have x0 := hXc.at 0 rfl
            have x1 := hXc.at 1 rfl
            have x2 := hXc.at 2 rfl
            have y0 := hblk.at 0 rfl
            have y1 := hblk.at 1 rfl
            have y2 := hblk.at 2 rfl
            have m1 := hIr.below hbc
            have m2 := hKr.below hbc
            have m3 := hVr.below hbc
            clear hbc hblk hXr hXc hYr hIr hKr hVr CALL1 CALL2 HI0 HRR HBr
            go_wp2_with fail
            refine (vsame_any wc aR aK aV bR bK bV cR cK cV dR dK dV R R1 K K1 V V1 hR hK hV m1 m2 m3 hIc hKc hVc).mono ?_
            rintro e w5 ⟨rfl, hb5⟩
            have HB5 : Hid (Below w.heap.size w w5) := HBc.out.trans (hb5.mono HBc.out.size)
            clear hb5 m1 m2 m3 hIc hKc hVc x0 x1 x2 y0 y1 y2
            cases hq : sameV R R1 K K1 V V1
            · have HF : Hid (viewE R K V = 4) := by show _ = _; rw [HE.out, hq]; rfl
              go_wp2
              go_ret
              exact ⟨ret_int HF.out.symm, HB5.out⟩
            · have HF : Hid (viewE R K V = 0) := by show _ = _; rw [HE.out, hq]; rfl
              go_wp2
              go_ret
              exact ⟨ret_int HF.out.symm, HB5.out⟩
          · have hz' : (E != 0) = true := by simpa using hz
            have HF : Hid (viewE R K V = E) := by show _ = _; rw [HE.out, if_pos hz]
            clear hz
            go_wp2
            go_ret
            exact ⟨ret_int HF.out.symm, HBc.out⟩
  · have hr' : (rootsOk R != 0) = true := by simpa using hr
    have HE : Hid (viewE R K V = rootsOk R) := by show _ = _; unfold viewE; rw [if_pos hr]
    clear hr
    go_wp2
    go_ret
    exact ⟨ret_int HE.out.symm, HB.out⟩
end Go.Proofs.YtijjiccgpobjmaeGreat

/- delta.Of. -/
namespace Go.Proofs.YtijjiccgpobjmaeGreat
open Go.ChangeShapes Go.WideShapes Go.ChangeAt Go.RowKit
open Orangery (Pl viewE orI dfE dfG dfH goneL hereL goneP hereP)

/-- a delta's value -/
abbrev deV (g h x y : Value) : Value := .agg #[g, h, x, y]

/-- what a call leaves that answers a delta and an error -/
def Deltas (w : World) (G : List Int) (H : List Pl) (X : List Int) (Y : List Pl) (E : Int) (e : Ending) (w' : World) : Prop :=
  ∃ aG aH aX aY cG cH cX cY, e = .returned (.tuple #[deV (.slice aG G.length cG) (.slice aH H.length cH) (.slice aX X.length cX) (.slice aY Y.length cY), .int .i64 E]) ∧ ((aH = none → cH = 0) ∧ (aY = none → cY = 0)) ∧ (Fresh w.heap.size aG ∧ Fresh w.heap.size aH ∧ Fresh w.heap.size aX ∧ Fresh w.heap.size aY) ∧ SlI w' aG G ∧ SlP w' aH H ∧ SlI w' aX X ∧ SlP w' aY Y ∧ Below w.heap.size w w'

end Go.Proofs.YtijjiccgpobjmaeGreat

/- delta.Same, orangeryref.SameDelta, orangeryref.half, orangeryref.CheckDelta. -/
namespace Go.Proofs.YtijjiccgpobjmaeGreat
open Go.ChangeShapes Go.WideShapes Go.ChangeAt Go.RowKit
open Orangery (Pl hasB inRangeB goneE hereE halfE deltaE orI sameD)

set_option maxHeartbeats 1000000 in
set_option maxRecDepth 100000 in
theorem dsame_any (w : World) (aG aH aX aY bG bH bX bY : Option Addr) (cG cH cX cY dG dH dX dY : Nat) (G G' : List Int) (H H' : List Pl) (X X' : List Int) (Y Y' : List Pl) (hm : G.length ≤ maxLen ∧ H.length ≤ maxLen ∧ X.length ≤ maxLen ∧ Y.length ≤ maxLen)
    (h1 : SlI w aG G) (h2 : SlP w aH H) (h3 : SlI w aX X) (h4 : SlP w aY Y) (h5 : SlI w bG G') (h6 : SlP w bH H') (h7 : SlI w bX X') (h8 : SlP w bY Y') :
    Calls Tryz.prog 128 #[deV (.slice aG G.length cG) (.slice aH H.length cH) (.slice aX X.length cX) (.slice aY Y.length cY), deV (.slice bG G'.length dG) (.slice bH H'.length dH) (.slice bX X'.length dX) (.slice bY Y'.length dY)] w
      fun e w' => e = .returned (.bool (sameD G G' H H' X X' Y Y')) ∧ Below w.heap.size w w' := by
  have HS : Hid (sameD G G' H H' X X' Y Y' = (eqIs G G' && eqPls H H' && eqIs X X' && eqPls Y Y')) := rfl
  obtain ⟨W0, hW, hA, hC, hB, -⟩ := laid2 w [Value.slice aG G.length cG, Value.slice aH H.length cH, Value.slice aX X.length cX, Value.slice aY Y.length cY] 50 [Value.slice bG G'.length dG, Value.slice bH H'.length dH, Value.slice bX X'.length dX, Value.slice bY Y'.length dY] 50
  have HB0 : Hid (Below w.heap.size w W0) := hB
  have P1_0 := h1.below hB
  have P2_0 := h2.below hB
  have P3_0 := h3.below hB
  have P4_0 := h4.below hB
  have P5_0 := h5.below hB
  have P6_0 := h6.below hB
  have P7_0 := h7.below hB
  have P8_0 := h8.below hB
  have A_0 := hA
  have C_0 := hC
  clear h1 h2 h3 h4 h5 h6 h7 h8 hB hA hC
  have x0 := A_0.at 0 rfl
  have y0 := C_0.at 0 rfl
  go_enter Tryz.func128, Tryz.ntmps128
  go_wp2_with fail
  clear hW x0 y0
  refine (equal_is W0 aG bG cG dG G G' hm.1 P1_0 P5_0).mono ?_
  rintro e v0 ⟨rfl, n0, rfl⟩
  have hb : Below W0.heap.size W0 (W0.drewN n0) := ⟨rfl, rfl, rfl, Nat.le_refl _, fun _ _ => rfl⟩
  generalize W0.drewN n0 = v0 at *
  have P1_1 := P1_0.below hb
  have P2_1 := P2_0.below hb
  have P3_1 := P3_0.below hb
  have P4_1 := P4_0.below hb
  have P5_1 := P5_0.below hb
  have P6_1 := P6_0.below hb
  have P7_1 := P7_0.below hb
  have P8_1 := P8_0.below hb
  have A_1 := A_0.keep hb
  have C_1 := C_0.keep hb
  have HB1 : Hid (Below w.heap.size w v0) := HB0.out.trans (hb.mono HB0.out.size)
  clear P1_0 P2_0 P3_0 P4_0 P5_0 P6_0 P7_0 P8_0 A_0 C_0 HB0
  clear hb
  have x1 := A_1.at 1 rfl
  have y1 := C_1.at 1 rfl
  cases hq0 : eqIs G G'
  · go_wp2
    go_ret
    exact ⟨ret_bool (by rw [HS.out, hq0]; simp), HB1.out⟩
  · go_wp2_with fail
    clear x1 y1
    refine (equal_pls v0 aH bH cH dH H H' hm.2.1 P2_1 P6_1).mono ?_
    rintro e v1 ⟨rfl, n1, rfl⟩
    have hb : Below v0.heap.size v0 (v0.drewN n1) := ⟨rfl, rfl, rfl, Nat.le_refl _, fun _ _ => rfl⟩
    generalize v0.drewN n1 = v1 at *
    have P1_2 := P1_1.below hb
    have P2_2 := P2_1.below hb
    have P3_2 := P3_1.below hb
    have P4_2 := P4_1.below hb
    have P5_2 := P5_1.below hb
    have P6_2 := P6_1.below hb
    have P7_2 := P7_1.below hb
    have P8_2 := P8_1.below hb
    have A_2 := A_1.keep hb
    have C_2 := C_1.keep hb
    have HB2 : Hid (Below w.heap.size w v1) := HB1.out.trans (hb.mono HB1.out.size)
    clear P1_1 P2_1 P3_1 P4_1 P5_1 P6_1 P7_1 P8_1 A_1 C_1 HB1
    clear hb
    have x2 := A_2.at 2 rfl
    have y2 := C_2.at 2 rfl
    cases hq1 : eqPls H H'
    · go_wp2
      go_ret
      exact ⟨ret_bool (by rw [HS.out, hq0, hq1]; simp), HB2.out⟩
    · go_wp2_with fail
      clear x2 y2
      refine (equal_is v1 aX bX cX dX X X' hm.2.2.1 P3_2 P7_2).mono ?_
      rintro e v2 ⟨rfl, n2, rfl⟩
      have hb : Below v1.heap.size v1 (v1.drewN n2) := ⟨rfl, rfl, rfl, Nat.le_refl _, fun _ _ => rfl⟩
      generalize v1.drewN n2 = v2 at *
      have P1_3 := P1_2.below hb
      have P2_3 := P2_2.below hb
      have P3_3 := P3_2.below hb
      have P4_3 := P4_2.below hb
      have P5_3 := P5_2.below hb
      have P6_3 := P6_2.below hb
      have P7_3 := P7_2.below hb
      have P8_3 := P8_2.below hb
      have A_3 := A_2.keep hb
      have C_3 := C_2.keep hb
      have HB3 : Hid (Below w.heap.size w v2) := HB2.out.trans (hb.mono HB2.out.size)
      clear P1_2 P2_2 P3_2 P4_2 P5_2 P6_2 P7_2 P8_2 A_2 C_2 HB2
      clear hb
      have x3 := A_3.at 3 rfl
      have y3 := C_3.at 3 rfl
      cases hq2 : eqIs X X'
      · go_wp2
        go_ret
        exact ⟨ret_bool (by rw [HS.out, hq0, hq1, hq2]; simp), HB3.out⟩
      · go_wp2_with fail
        clear x3 y3
        refine (equal_pls v2 aY bY cY dY Y Y' hm.2.2.2 P4_3 P8_3).mono ?_
        rintro e v3 ⟨rfl, n3, rfl⟩
        have hb : Below v2.heap.size v2 (v2.drewN n3) := ⟨rfl, rfl, rfl, Nat.le_refl _, fun _ _ => rfl⟩
        generalize v2.drewN n3 = v3 at *
        have P1_4 := P1_3.below hb
        have P2_4 := P2_3.below hb
        have P3_4 := P3_3.below hb
        have P4_4 := P4_3.below hb
        have P5_4 := P5_3.below hb
        have P6_4 := P6_3.below hb
        have P7_4 := P7_3.below hb
        have P8_4 := P8_3.below hb
        have A_4 := A_3.keep hb
        have C_4 := C_3.keep hb
        have HB4 : Hid (Below w.heap.size w v3) := HB3.out.trans (hb.mono HB3.out.size)
        clear P1_3 P2_3 P3_3 P4_3 P5_3 P6_3 P7_3 P8_3 A_3 C_3 HB3
        clear hb
        go_wp2
        go_ret
        exact ⟨ret_bool (by rw [HS.out, hq0, hq1, hq2]; simp), HB4.out⟩

theorem cpE_of (p : Pl) : cpE p = if inRangeB p = true then 0 else 3 := by cases h : inRangeB p <;> simp [cpE, h]

set_option maxHeartbeats 2000000 in
set_option maxRecDepth 100000 in
theorem rhalf_any (w : World) (aG aH : Option Addr) (cG cH : Nat) (G : List Int) (H : List Pl) (hG : G.length ≤ maxLen) (hH : H.length ≤ maxLen) (h1 : SlI w aG G) (h2 : SlP w aH H) :
    Calls Tryz.prog 113 #[.slice aG G.length cG, .slice aH H.length cH] w fun e w' => e = .returned (.int .i64 (halfE G H)) ∧ Below w.heap.size w w' := by
  have hl1 : G.length ≤ 9223372036854775807 := hG
  have hl2 : H.length ≤ 9223372036854775807 := hH
  go_enter Tryz.func113, Tryz.ntmps113
  by_cases hg : 16 < G.length
  · have d1 : decide ((G.length : Int) > 16) = true := by simp; omega
    have HE : Hid (halfE G H = 2) := by show _ = _; unfold halfE; rw [if_pos (Or.inl hg)]
    clear hg
    go_wp2
    go_ret
    exact ⟨ret_int HE.out.symm, Below.refl _ _⟩
  · have d1 : decide ((G.length : Int) > 16) = false := by simp; omega
    by_cases hh : 16 < H.length
    · have d2 : decide ((H.length : Int) > 16) = true := by simp; omega
      have HE : Hid (halfE G H = 2) := by show _ = _; unfold halfE; rw [if_pos (Or.inr hh)]
      clear hg hh
      go_wp2
      go_ret
      exact ⟨ret_int HE.out.symm, Below.refl _ _⟩
    · have d2 : decide ((H.length : Int) > 16) = false := by simp; omega
      have HE : Hid (halfE G H = orI (goneE 0 G) (hereE G 0 H)) := Orangery.half_or G H (by omega)
      clear hg hh
      go_wp2
      clear d1 d2
      go_loop [5, 21] (fun x i => ∃ (k : Nat) (m : Int), k ≤ G.length ∧ x = .int .i64 m ∧ i = .int .i64 k ∧ goneE m (G.drop k) = goneE 0 G) (fun _ i => G.length - (intOf i).toNat)
      case atStart => exact ⟨0, 0, Nat.zero_le _, rfl, rfl, rfl⟩
      case round =>
        obtain ⟨k, m, hk, rfl, rfl, hf⟩ := hrel
        by_cases hlt : k < G.length
        · obtain ⟨s1, s2, s3⟩ := Orangery.goneE_step G k _ hlt hf
          have H1 : Hid (¬ (1 ≤ G[k] ∧ G[k] ≤ 15) → goneE 0 G = 5) := s1
          have H2 : Hid (1 ≤ G[k] ∧ G[k] ≤ 15 → G[k] ≤ m → goneE 0 G = 6) := s2
          have H3 : Hid (1 ≤ G[k] ∧ G[k] ≤ 15 → ¬ G[k] ≤ m → goneE G[k] (G.drop (k + 1)) = goneE 0 G) := s3
          clear s1 s2 s3 hf
          obtain ⟨b, off, rfl, hbl, g0⟩ := h1.at k hlt
          generalize G[k] = x at *
          go_wp2_with fail
          refine (rin_any w x 1 15).mono ?_
          rintro e w ⟨rfl, rfl⟩
          by_cases hn : 1 ≤ x ∧ x ≤ 15
          · have hq : inB x 1 15 = true := by unfold inB; simpa using hn
            rw [hq]
            clear hq
            by_cases hq : x ≤ m
            · have HF : Hid (goneE 0 G = 6) := H2.out hn hq
              have x5 : decide (x ≤ m) = true := by simpa using hq
              clear H1 H2 H3 hn hq
              go_wp2
              go_ret
              exact ⟨ret_int (by rw [HE.out, HF.out]; rfl), Below.refl _ _⟩
            · have HF : Hid (goneE x (G.drop (k + 1)) = goneE 0 G) := H3.out hn (by omega)
              have x5 : decide (x ≤ m) = false := by simpa using hq
              clear H1 H2 H3 hn hq
              go_wp2
              go_round
              case rel => exact ⟨k + 1, x, hlt, rfl, by go_num, HF.out⟩
              case measure => simp [intOf]; omega
          · have hq : inB x 1 15 = false := by unfold inB; simpa using hn
            rw [hq]
            have HF : Hid (goneE 0 G = 5) := H1.out hn
            clear H1 H2 H3 hn hq
            go_wp2
            go_ret
            exact ⟨ret_int (by rw [HE.out, HF.out]; rfl), Below.refl _ _⟩
        · have hk' : G.drop k = [] := by simp; omega
          rw [hk'] at hf
          have HF : Hid (halfE G H = hereE G 0 H) := by show _ = _; rw [HE.out, ← hf]; rfl
          have HP : Hid (SlP w aH H) := h2
          have HG : Hid (SlI w aG G) := h1
          have HM : Hid (G.length ≤ maxLen) := hG
          clear hf hk' HE h1 h2
          go_wp2
          go_loopw [5, 35] (fun x i W => ∃ (k : Nat) (m : Int), k ≤ H.length ∧ x = .int .i64 m ∧ i = .int .i64 k ∧ hereE G m (H.drop k) = hereE G 0 H ∧ Below w.heap.size w W) (fun _ i _ => H.length - (intOf i).toNat)
          case atStart => exact ⟨0, 0, Nat.zero_le _, rfl, rfl, rfl, Below.refl _ _⟩
          case round =>
            obtain ⟨k, m, hk, rfl, rfl, hf, hb⟩ := hrel
            by_cases hlt : k < H.length
            · obtain ⟨s1, s2, s3⟩ := Orangery.hereE_step G H k _ hlt hf
              have HS1 : Hid (inRangeB H[k] = false → hereE G 0 H = 3) := s1
              have HS2 : Hid (inRangeB H[k] = true → H[k].1 ≤ m ∨ hasB H[k].1 G = true → hereE G 0 H = 6) := s2
              have HS3 : Hid (inRangeB H[k] = true → ¬ H[k].1 ≤ m → hasB H[k].1 G = false → hereE G H[k].1 (H.drop (k + 1)) = hereE G 0 H) := s3
              clear s1 s2 s3 hf
              have hP := HP.out.below hb
              rcases hP with hP | ⟨b, off, rfl, hbl, hp⟩
              · exact absurd hlt (by simp [hP])
              obtain ⟨g0, g1, g2⟩ := hp k hlt
              clear hp hbl
              generalize H[k] = q at *
              obtain ⟨q0, q1, q2⟩ := q
              dsimp only at g0 g1 g2 HS2 HS3
              obtain ⟨W1, hW1, hN, hB1, -⟩ := laid1 wr [Value.int IntKind.i64 q0, Value.int IntKind.i64 q1, Value.int IntKind.i64 q2] 47
              have HB1 : Hid (Below w.heap.size w W1) := hb.trans (hB1.mono hb.size)
              have n0 := hN.at 0 rfl
              have n1 := hN.at 1 rfl
              have n2 := hN.at 2 rfl
              have HN : Hid (Blk W1 wr.heap.size [Value.int IntKind.i64 q0, Value.int IntKind.i64 q1, Value.int IntKind.i64 q2]) := hN
              clear hN hB1 hb
              go_wp2_with fail
              clear hW1 n0 n1 n2 g0 g1 g2
              refine (checkPlace_any W1 (q0, q1, q2)).mono ?_
              rintro e w2 ⟨rfl, hb2⟩
              rw [cpE_of]
              have HB2 : Hid (Below w.heap.size w w2) := HB1.out.trans (hb2.mono HB1.out.size)
              have n0 := (HN.out.keep hb2).at 0 rfl
              have HG2 : Hid (SlI w2 aG G) := HG.out.below HB2.out
              clear HN hb2 HB1
              cases hr : inRangeB (q0, q1, q2)
              · have HF3 : Hid (hereE G 0 H = 3) := HS1.out hr
                clear HS1 HS2 HS3
                simp only [Bool.false_eq_true, if_false]
                go_wp2
                go_ret
                exact ⟨ret_int (by rw [HF.out, HF3.out]), HB2.out⟩
              · simp only [if_true]
                by_cases hq : q0 ≤ m
                · have HF6 : Hid (hereE G 0 H = 6) := HS2.out hr (Or.inl hq)
                  have x5 : decide (q0 ≤ m) = true := by simpa using hq
                  clear HS1 HS2 HS3 hq hr
                  go_wp2
                  go_ret
                  exact ⟨ret_int (by rw [HF.out, HF6.out]), HB2.out⟩
                · have x5 : decide (q0 ≤ m) = false := by simpa using hq
                  have HA : Hid (hasB q0 G = true → hereE G 0 H = 6) := fun h => HS2.out hr (Or.inr h)
                  have HZ : Hid (hasB q0 G = false → hereE G q0 (H.drop (k + 1)) = hereE G 0 H) := fun h => HS3.out hr (by omega) h
                  clear HS1 HS2 HS3 hq hr
                  go_wp2_with fail
                  refine (containsI_any w2 aG cG q0 G HM.out HG2.out).mono ?_
                  rintro e w2 ⟨rfl, rfl⟩
                  cases hg : hasB q0 G
                  · have HF0 : Hid (hereE G q0 (H.drop (k + 1)) = hereE G 0 H) := HZ.out hg
                    clear HA HZ
                    go_wp2
                    go_roundw
                    case rel => exact ⟨k + 1, q0, hlt, rfl, by go_num, HF0.out, HB2.out⟩
                    case measure => simp [intOf]; omega
                  · have HF6 : Hid (hereE G 0 H = 6) := HA.out hg
                    clear HA HZ
                    go_wp2
                    go_ret
                    exact ⟨ret_int (by rw [HF.out, HF6.out]), HB2.out⟩
            · have hk' : H.drop k = [] := by simp; omega
              rw [hk'] at hf
              have HF0 : Hid (hereE G 0 H = 0) := hf.symm
              clear hf hk'
              go_wp2
              go_ret
              exact ⟨ret_int (by rw [HF.out, HF0.out]), hb⟩

set_option maxHeartbeats 1000000 in
theorem rcheckD_any (w : World) (aG aH aX aY : Option Addr) (cG cH cX cY : Nat) (G : List Int) (H : List Pl) (X : List Int) (Y : List Pl)
    (hm : G.length ≤ maxLen ∧ H.length ≤ maxLen ∧ X.length ≤ maxLen ∧ Y.length ≤ maxLen) (h1 : SlI w aG G) (h2 : SlP w aH H) (h3 : SlI w aX X) (h4 : SlP w aY Y) :
    Calls Tryz.prog 83 #[deV (.slice aG G.length cG) (.slice aH H.length cH) (.slice aX X.length cX) (.slice aY Y.length cY)] w fun e w' => e = .returned (.int .i64 (deltaE G H X Y)) ∧ Below w.heap.size w w' := by
  have HE : Hid (deltaE G H X Y = orI (halfE G H) (halfE X Y)) := rfl
  obtain ⟨W0, hW, hX, hB, -⟩ := laid1 w [Value.slice aG G.length cG, Value.slice aH H.length cH, Value.slice aX X.length cX, Value.slice aY Y.length cY] 50
  have y0 := hX.at 0 rfl
  have y1 := hX.at 1 rfl
  have HB : Hid (Below w.heap.size w W0) := hB
  have HP : Hid (SlI W0 aX X ∧ SlP W0 aY Y) := ⟨h3.below hB, h4.below hB⟩
  have HC1 : Hid (Calls Tryz.prog 113 #[.slice aG G.length cG, .slice aH H.length cH] W0 fun e w' => e = .returned (.int .i64 (halfE G H)) ∧ Below W0.heap.size W0 w') := rhalf_any W0 aG aH cG cH G H hm.1 hm.2.1 (h1.below hB) (h2.below hB)
  have HC2 : Hid (∀ W, Below W0.heap.size W0 W → Calls Tryz.prog 113 #[.slice aX X.length cX, .slice aY Y.length cY] W fun e w' => e = .returned (.int .i64 (halfE X Y)) ∧ Below W.heap.size W w') := fun W hb => rhalf_any W aX aY cX cY X Y hm.2.2.1 hm.2.2.2 (HP.out.1.below hb) (HP.out.2.below hb)
  generalize halfE G H = E1 at *
  generalize halfE X Y = E2 at *
  clear hB h1 h2 h3 h4 hm HP
  go_enter Tryz.func83, Tryz.ntmps83
  go_wp2_with fail
  clear hW y0 y1
  refine HC1.out.mono ?_
  rintro e w1 ⟨rfl, hb1⟩
  have hX1 := hX.keep hb1
  have HB1 : Hid (Below w.heap.size w w1) := HB.out.trans (hb1.mono HB.out.size)
  by_cases hz : E1 = 0
  · subst hz
    have y2 := hX1.at 2 rfl
    have y3 := hX1.at 3 rfl
    go_wp2_with fail
    refine (HC2.out w1 hb1).mono ?_
    rintro e w2 ⟨rfl, hb2⟩
    have HB2 : Hid (Below w.heap.size w w2) := HB1.out.trans (hb2.mono HB1.out.size)
    clear y2 y3 hb1 hb2 hX hX1
    go_wp2
    go_ret
    exact ⟨ret_int (by rw [HE.out]; rfl), HB2.out⟩
  · have hz' : (E1 != 0) = true := by simpa using hz
    have HF : Hid (deltaE G H X Y = E1) := by show _ = _; rw [HE.out]; unfold orI; rw [if_pos hz]
    clear hz hb1 hX hX1
    go_wp2
    go_ret
    exact ⟨ret_int HF.out.symm, HB1.out⟩
end Go.Proofs.YtijjiccgpobjmaeGreat

/- Steps and operations held against themselves. -/
namespace Go.Proofs.YtijjiccgpobjmaeGreat
open Go.ChangeShapes Go.WideShapes Go.ChangeAt Go.RowKit
open Orangery (Pl Mv Stp)

theorem eqin_op (n : Nat) (o1 o2 o3 o4 o5 o6 o7 : Int) (w : World) :
    (Op.equalIn (n + 3) 32 (.agg #[.int .i64 o1, .int .i64 o2, .int .i64 o3, .int .i64 o4, .int .i64 o5, .int .i64 o6, .int .i64 o7]) (.agg #[.int .i64 o1, .int .i64 o2, .int .i64 o3, .int .i64 o4, .int .i64 o5, .int .i64 o6, .int .i64 o7])).run Tryz.prog w = .ok true w := by
  have u3 := Tryz.underlying3
  have a3 := Tryz.isAgg3
  have z3 := Tryz.sizeOf3
  have a4 := Tryz.isAgg30
  have z4 := Tryz.sizeOf30
  have hS : Tryz.prog.underlying 32 = some (.struct (Tryz.prog.fieldsOf 32)) := by kernel_rfl
  have hp : Tryz.prog.stoodInHeld 32 = false := by kernel_rfl
  have hS2 : Tryz.prog.underlying 30 = some (.struct (Tryz.prog.fieldsOf 30)) := by kernel_rfl
  have hp2 : Tryz.prog.stoodInHeld 30 = false := by kernel_rfl
  have hst : ∀ w, (Op.equalIn (n + 2) 30 (.agg #[.int .i64 o1, .int .i64 o2]) (.agg #[.int .i64 o1, .int .i64 o2])).run Tryz.prog w = .ok true w := by
    intro w
    rw [run_equalIn_agg w (n + 1) 30 _ _ hS2 hp2]
    simp only [Program.fieldsOf, Tryz.underlying30]
    go_simp
  rw [run_equalIn_agg w (n + 2) 32 _ _ hS hp]
  simp only [Program.fieldsOf, Tryz.underlying32]
  go_simp

theorem eqin_pl (n : Nat) (o1 o2 o3 : Int) (w : World) :
    (Op.equalIn (n + 2) 47 (.agg #[.int .i64 o1, .int .i64 o2, .int .i64 o3]) (.agg #[.int .i64 o1, .int .i64 o2, .int .i64 o3])).run Tryz.prog w = .ok true w := by
  have u3 := Tryz.underlying3
  have a3 := Tryz.isAgg3
  have z3 := Tryz.sizeOf3
  have hS : Tryz.prog.underlying 47 = some (.struct (Tryz.prog.fieldsOf 47)) := by kernel_rfl
  have hp : Tryz.prog.stoodInHeld 47 = false := by kernel_rfl
  rw [run_equalIn_agg w (n + 1) 47 _ _ hS hp]
  simp only [Program.fieldsOf, Tryz.underlying47]
  go_simp

theorem run_eql_step (s : Stp) (w : World) : (binOp .eql 68 (stV s) (stV s)).run Tryz.prog w = .ok (.bool true) w := by
  have u3 := Tryz.underlying4
  have a3 := Tryz.isAgg4
  have z3 := Tryz.sizeOf4
  have a4 := Tryz.isAgg32
  have z4 := Tryz.sizeOf32
  have a5 := Tryz.isAgg47
  have z5 := Tryz.sizeOf47
  have hS : Tryz.prog.underlying 68 = some (.struct (Tryz.prog.fieldsOf 68)) := by kernel_rfl
  have hp : Tryz.prog.stoodInHeld 68 = false := by kernel_rfl
  have e1 := eqin_op 9996 s.1.1 s.1.2.1 s.1.2.2.1.1 s.1.2.2.1.2.1 s.1.2.2.1.2.2 s.1.2.2.2.1 s.1.2.2.2.2
  have e2 := eqin_pl 9997 s.2.2.1 s.2.2.2.1 s.2.2.2.2
  rw [run_eql_struct, show (10000 : Nat) = 9999 + 1 from rfl, run_equalIn_agg w 9999 68 _ _ hS hp]
  simp only [Program.fieldsOf, Tryz.underlying68]
  go_simp

theorem guard_step (op : BinOp) (x y : Operand) (xs ys : Array Value) (w : World) : (eqGuard op 68 x y (.agg xs) (.agg ys)).run Tryz.prog w = .ok () w :=
  run_eqGuard_agg w op 68 x y xs ys (by kernel_rfl)

theorem run_neq_op (o : Mv) (w : World) : (binOp .neq 32 (opV o) (opV o)).run Tryz.prog w = .ok (.bool false) w := by
  have e1 := eqin_op 9997 o.1 o.2.1 o.2.2.1.1 o.2.2.1.2.1 o.2.2.1.2.2 o.2.2.2.1 o.2.2.2.2 w
  rw [run_neq_struct, show (10000 : Nat) = 9997 + 3 from rfl, e1]
  rfl

theorem guard_op (op : BinOp) (x y : Operand) (xs ys : Array Value) (w : World) : (eqGuard op 32 x y (.agg xs) (.agg ys)).run Tryz.prog w = .ok () w :=
  run_eqGuard_agg w op 32 x y xs ys (by kernel_rfl)
end Go.Proofs.YtijjiccgpobjmaeGreat

/- Stamps, operations and steps held against each other, whatever they are. -/
namespace Go.Proofs.YtijjiccgpobjmaeGreat
open Go.ChangeShapes Go.WideShapes Go.ChangeAt Go.RowKit
open Orangery (Pl Mv Stp)

theorem eqg_stamp (n : Nat) (a b c d : Int) (w : World) :
    (Op.equalIn (n + 2) 30 (.agg #[.int .i64 a, .int .i64 b]) (.agg #[.int .i64 c, .int .i64 d])).run Tryz.prog w = .ok (decide (a = c ∧ b = d)) w := by
  have u3 := Tryz.underlying3
  have a3 := Tryz.isAgg3
  have z3 := Tryz.sizeOf3
  have hS2 : Tryz.prog.underlying 30 = some (.struct (Tryz.prog.fieldsOf 30)) := by kernel_rfl
  have hp2 : Tryz.prog.stoodInHeld 30 = false := by kernel_rfl
  rw [run_equalIn_agg w (n + 1) 30 _ _ hS2 hp2]
  simp only [Program.fieldsOf, Tryz.underlying30]
  go_simp
  by_cases h1 : a = c <;> by_cases h2 : b = d <;> simp [h1, h2]

theorem eqg_pl (n : Nat) (a b c x y z : Int) (w : World) :
    (Op.equalIn (n + 2) 47 (.agg #[.int .i64 a, .int .i64 b, .int .i64 c]) (.agg #[.int .i64 x, .int .i64 y, .int .i64 z])).run Tryz.prog w = .ok (decide (a = x ∧ b = y ∧ c = z)) w := by
  have u3 := Tryz.underlying3
  have a3 := Tryz.isAgg3
  have z3 := Tryz.sizeOf3
  have hS : Tryz.prog.underlying 47 = some (.struct (Tryz.prog.fieldsOf 47)) := by kernel_rfl
  have hp : Tryz.prog.stoodInHeld 47 = false := by kernel_rfl
  rw [run_equalIn_agg w (n + 1) 47 _ _ hS hp]
  simp only [Program.fieldsOf, Tryz.underlying47]
  go_simp
  by_cases h1 : a = x <;> by_cases h2 : b = y <;> by_cases h3 : c = z <;> simp [h1, h2, h3]

theorem eqg_op (n : Nat) (o p : Mv) (w : World) :
    (Op.equalIn (n + 3) 32 (opV o) (opV p)).run Tryz.prog w = .ok (decide (o = p)) w := by
  obtain ⟨o1, o2, ⟨o3, o4, o5⟩, o6, o7⟩ := o
  obtain ⟨p1, p2, ⟨p3, p4, p5⟩, p6, p7⟩ := p
  have u3 := Tryz.underlying3
  have a3 := Tryz.isAgg3
  have z3 := Tryz.sizeOf3
  have a4 := Tryz.isAgg30
  have z4 := Tryz.sizeOf30
  have hS : Tryz.prog.underlying 32 = some (.struct (Tryz.prog.fieldsOf 32)) := by kernel_rfl
  have hp : Tryz.prog.stoodInHeld 32 = false := by kernel_rfl
  have hst := eqg_stamp n o1 o2 p1 p2
  rw [run_equalIn_agg w (n + 2) 32 _ _ hS hp]
  simp only [Program.fieldsOf, Tryz.underlying32]
  go_simp
  by_cases h1 : o1 = p1
  case neg => simp [h1]
  by_cases h2 : o2 = p2
  case neg => simp [h1, h2]
  by_cases h3 : o3 = p3
  case neg => simp [h1, h2, h3]
  by_cases h4 : o4 = p4
  case neg => simp [h1, h2, h3, h4]
  by_cases h5 : o5 = p5
  case neg => simp [h1, h2, h3, h4, h5]
  by_cases h6 : o6 = p6
  case neg => simp [h1, h2, h3, h4, h5, h6]
  by_cases h7 : o7 = p7
  case neg => simp [h1, h2, h3, h4, h5, h6, h7]
  simp [h1, h2, h3, h4, h5, h6, h7]

theorem run_neq_opg (o p : Mv) (w : World) : (binOp .neq 32 (opV o) (opV p)).run Tryz.prog w = .ok (.bool (!decide (o = p))) w := by
  have e1 := eqg_op 9997 o p w
  rw [run_neq_struct, show (10000 : Nat) = 9997 + 3 from rfl, e1]
  rfl
theorem run_eql_opg (o p : Mv) (w : World) : (binOp .eql 32 (opV o) (opV p)).run Tryz.prog w = .ok (.bool (decide (o = p))) w := by
  have e1 := eqg_op 9997 o p w
  rw [run_eql_struct, show (10000 : Nat) = 9997 + 3 from rfl, e1]
  rfl
theorem run_eql_stamp (a b c d : Int) (w : World) : (binOp .eql 30 (.agg #[.int .i64 a, .int .i64 b]) (.agg #[.int .i64 c, .int .i64 d])).run Tryz.prog w = .ok (.bool (decide (a = c ∧ b = d))) w := by
  have e1 := eqg_stamp 9998 a b c d w
  rw [run_eql_struct, show (10000 : Nat) = 9998 + 2 from rfl, e1]
  rfl
theorem guard_stamp (op : BinOp) (x y : Operand) (xs ys : Array Value) (w : World) : (eqGuard op 30 x y (.agg xs) (.agg ys)).run Tryz.prog w = .ok () w :=
  run_eqGuard_agg w op 30 x y xs ys (by kernel_rfl)

theorem eqg_step (n : Nat) (s t : Stp) (w : World) : (Op.equalIn (n + 4) 68 (stV s) (stV t)).run Tryz.prog w = .ok (decide (s = t)) w := by
  obtain ⟨o, d, ⟨p1, p2, p3⟩⟩ := s
  obtain ⟨q, f, ⟨r1, r2, r3⟩⟩ := t
  have u3 := Tryz.underlying4
  have a3 := Tryz.isAgg4
  have z3 := Tryz.sizeOf4
  have a4 := Tryz.isAgg32
  have z4 := Tryz.sizeOf32
  have a5 := Tryz.isAgg47
  have z5 := Tryz.sizeOf47
  have hS : Tryz.prog.underlying 68 = some (.struct (Tryz.prog.fieldsOf 68)) := by kernel_rfl
  have hp : Tryz.prog.stoodInHeld 68 = false := by kernel_rfl
  have e1 := eqg_op n o q
  have e2 := eqg_pl (n + 1) p1 p2 p3 r1 r2 r3
  rw [run_equalIn_agg w (n + 3) 68 _ _ hS hp]
  simp only [Program.fieldsOf, Tryz.underlying68]
  go_simp
  by_cases h1 : o = q
  case neg => simp [h1]
  by_cases h2 : d = f
  case neg => simp [h1, h2]
  by_cases h3 : p1 = r1
  case neg => simp [h1, h2, h3]
  by_cases h4 : p2 = r2
  case neg => simp [h1, h2, h3, h4]
  by_cases h5 : p3 = r3
  case neg => simp [h1, h2, h3, h4, h5]
  simp [h1, h2, h3, h4, h5]
theorem run_neq_stepg (s t : Stp) (w : World) : (binOp .neq 68 (stV s) (stV t)).run Tryz.prog w = .ok (.bool (!decide (s = t))) w := by
  have e1 := eqg_step 9996 s t w
  rw [run_neq_struct, show (10000 : Nat) = 9996 + 4 from rfl, e1]
  rfl
end Go.Proofs.YtijjiccgpobjmaeGreat

/- Mail in memory; slices.EqualFunc at mail; orangeryref.SameMail. -/
namespace Go.Proofs.YtijjiccgpobjmaeGreat
open Go.ChangeShapes Go.WideShapes Go.ChangeAt Go.RowKit
open Orangery (Pl Mv Vw Dl Ml noVw noDl noMl viewME deltaME ml1E mlsE mlE sameV sameD noOp)

/-- an address, and the room there -/
abbrev Ad := Option Addr × Nat
/-- mail in memory: it, where its lists lie -/
abbrev Mm := Ml × (Ad × Ad × Ad) × (Ad × Ad × Ad × Ad)
def mlC (x : Mm) : List Value := [.int .i64 x.1.1.1, .int .i64 x.1.1.2.1, .int .i64 x.1.1.2.2.1, .int .i64 x.1.1.2.2.2.1, .int .i64 x.1.1.2.2.2.2.1, .int .i64 x.1.1.2.2.2.2.2.1, .int .i64 x.1.1.2.2.2.2.2.2, .int .i64 x.1.2.1.1, .int .i64 x.1.2.1.2.1, .int .i64 x.1.2.1.2.2.1.1, .int .i64 x.1.2.1.2.2.1.2.1, .int .i64 x.1.2.1.2.2.1.2.2, .int .i64 x.1.2.1.2.2.2.1, .int .i64 x.1.2.1.2.2.2.2, .slice x.2.1.1.1 x.1.2.2.1.1.length x.2.1.1.2, .slice x.2.1.2.1.1 x.1.2.2.1.2.1.length x.2.1.2.1.2, .slice x.2.1.2.2.1 x.1.2.2.1.2.2.length x.2.1.2.2.2, .slice x.2.2.1.1 x.1.2.2.2.1.length x.2.2.1.2, .slice x.2.2.2.1.1 x.1.2.2.2.2.1.length x.2.2.2.1.2, .slice x.2.2.2.2.1.1 x.1.2.2.2.2.2.1.length x.2.2.2.2.1.2, .slice x.2.2.2.2.2.1 x.1.2.2.2.2.2.2.length x.2.2.2.2.2.2]
abbrev Mm.val (x : Mm) : Value := .agg (mlC x).toArray
theorem mlC_len (x : Mm) : (mlC x).length = 21 := rfl
theorem mlC_one (x : Mm) : ∀ v ∈ mlC x, v.oneCell' = true := by
  intro v hv
  simp only [mlC, List.mem_cons, List.not_mem_nil, or_false] at hv
  rcases hv with rfl | rfl | rfl | rfl | rfl | rfl | rfl | rfl | rfl | rfl | rfl | rfl | rfl | rfl | rfl | rfl | rfl | rfl | rfl | rfl | rfl <;> rfl
theorem ml_cells {w : World} {b o : Nat} {x : Mm} (h : w.rangeAt b o (mlC x)) :
    w.cell? ⟨b, o, none⟩ = some (.int .i64 x.1.1.1) ∧ w.cell? ⟨b, o + 1, none⟩ = some (.int .i64 x.1.1.2.1) ∧ w.cell? ⟨b, o + 2, none⟩ = some (.int .i64 x.1.1.2.2.1) ∧ w.cell? ⟨b, o + 3, none⟩ = some (.int .i64 x.1.1.2.2.2.1) ∧ w.cell? ⟨b, o + 4, none⟩ = some (.int .i64 x.1.1.2.2.2.2.1) ∧ w.cell? ⟨b, o + 5, none⟩ = some (.int .i64 x.1.1.2.2.2.2.2.1) ∧ w.cell? ⟨b, o + 6, none⟩ = some (.int .i64 x.1.1.2.2.2.2.2.2) ∧ w.cell? ⟨b, o + 7, none⟩ = some (.int .i64 x.1.2.1.1) ∧ w.cell? ⟨b, o + 8, none⟩ = some (.int .i64 x.1.2.1.2.1) ∧ w.cell? ⟨b, o + 9, none⟩ = some (.int .i64 x.1.2.1.2.2.1.1) ∧ w.cell? ⟨b, o + 10, none⟩ = some (.int .i64 x.1.2.1.2.2.1.2.1) ∧ w.cell? ⟨b, o + 11, none⟩ = some (.int .i64 x.1.2.1.2.2.1.2.2) ∧ w.cell? ⟨b, o + 12, none⟩ = some (.int .i64 x.1.2.1.2.2.2.1) ∧ w.cell? ⟨b, o + 13, none⟩ = some (.int .i64 x.1.2.1.2.2.2.2) ∧ w.cell? ⟨b, o + 14, none⟩ = some (.slice x.2.1.1.1 x.1.2.2.1.1.length x.2.1.1.2) ∧ w.cell? ⟨b, o + 15, none⟩ = some (.slice x.2.1.2.1.1 x.1.2.2.1.2.1.length x.2.1.2.1.2) ∧ w.cell? ⟨b, o + 16, none⟩ = some (.slice x.2.1.2.2.1 x.1.2.2.1.2.2.length x.2.1.2.2.2) ∧ w.cell? ⟨b, o + 17, none⟩ = some (.slice x.2.2.1.1 x.1.2.2.2.1.length x.2.2.1.2) ∧ w.cell? ⟨b, o + 18, none⟩ = some (.slice x.2.2.2.1.1 x.1.2.2.2.2.1.length x.2.2.2.1.2) ∧ w.cell? ⟨b, o + 19, none⟩ = some (.slice x.2.2.2.2.1.1 x.1.2.2.2.2.2.1.length x.2.2.2.2.1.2) ∧ w.cell? ⟨b, o + 20, none⟩ = some (.slice x.2.2.2.2.2.1 x.1.2.2.2.2.2.2.length x.2.2.2.2.2.2) :=
  ⟨h 0 _ rfl, h 1 _ rfl, h 2 _ rfl, h 3 _ rfl, h 4 _ rfl, h 5 _ rfl, h 6 _ rfl, h 7 _ rfl, h 8 _ rfl, h 9 _ rfl, h 10 _ rfl, h 11 _ rfl, h 12 _ rfl, h 13 _ rfl, h 14 _ rfl, h 15 _ rfl, h 16 _ rfl, h 17 _ rfl, h 18 _ rfl, h 19 _ rfl, h 20 _ rfl⟩
def zeroMail : List Value := [.int .i64 0, .int .i64 0, .int .i64 0, .int .i64 0, .int .i64 0, .int .i64 0, .int .i64 0, .int .i64 0, .int .i64 0, .int .i64 0, .int .i64 0, .int .i64 0, .int .i64 0, .int .i64 0, .slice none 0 0, .slice none 0 0, .slice none 0 0, .slice none 0 0, .slice none 0 0, .slice none 0 0, .slice none 0 0]
theorem sizeMail : (Tryz.prog.info? 52).map (·.size) = some 21 := by kernel_rfl
theorem sizeMailC (x : Mm) : (Tryz.prog.info? 52).map (·.size) = some (mlC x).length := sizeMail
/-- its lists are read -/
structure MlIn (w : World) (x : Mm) : Prop where
  lr : SlI w x.2.1.1.1 x.1.2.2.1.1
  lk : SlP w x.2.1.2.1.1 x.1.2.2.1.2.1
  lv : SlP w x.2.1.2.2.1 x.1.2.2.1.2.2
  lg : SlI w x.2.2.1.1 x.1.2.2.2.1
  lh : SlP w x.2.2.2.1.1 x.1.2.2.2.2.1
  lx : SlI w x.2.2.2.2.1.1 x.1.2.2.2.2.2.1
  ly : SlP w x.2.2.2.2.2.1 x.1.2.2.2.2.2.2
  few : x.1.2.2.1.1.length ≤ 17592186043904 ∧ x.1.2.2.1.2.1.length ≤ 17592186043904 ∧ x.1.2.2.1.2.2.length ≤ 17592186043904 ∧ x.1.2.2.2.1.length ≤ 17592186043904 ∧ x.1.2.2.2.2.1.length ≤ 17592186043904 ∧ x.1.2.2.2.2.2.1.length ≤ 17592186043904 ∧ x.1.2.2.2.2.2.2.length ≤ 17592186043904
  nils : (x.2.1.2.1.1 = none → x.2.1.2.1.2 = 0) ∧ (x.2.1.2.2.1 = none → x.2.1.2.2.2 = 0)
theorem MlIn.keep {w w' : World} {x : Mm} (h : MlIn w x) (hb : Below w.heap.size w w') : MlIn w' x :=
  ⟨h.lr.below hb, h.lk.below hb, h.lv.below hb, h.lg.below hb, h.lh.below hb, h.lx.below hb, h.ly.below hb, h.few, h.nils⟩
theorem MlIn.max {w : World} {x : Mm} (h : MlIn w x) : (x.1.2.2.1.1.length ≤ maxLen ∧ x.1.2.2.1.2.1.length ≤ maxLen ∧ x.1.2.2.1.2.2.length ≤ maxLen) ∧ (x.1.2.2.2.1.length ≤ maxLen ∧ x.1.2.2.2.2.1.length ≤ maxLen ∧ x.1.2.2.2.2.2.1.length ≤ maxLen ∧ x.1.2.2.2.2.2.2.length ≤ maxLen) := by
  have hf := h.few
  unfold maxLen
  omega
/-- a row of mail that is read -/
structure SlM (w : World) (a : Option Addr) (X : List Mm) : Prop where
  reads : SlE mlC w a X
  each : ∀ x ∈ X, MlIn w x
theorem SlM.keep {w w' : World} {a : Option Addr} {X : List Mm} (h : SlM w a X) (hb : Below w.heap.size w w') : SlM w' a X := ⟨h.reads.below hb, fun x hx => (h.each x hx).keep hb⟩
theorem SlM.nil {w : World} {a : Option Addr} : SlM w a [] := ⟨Or.inl rfl, fun x hx => by simp at hx⟩

def sameMl (x y : Ml) : Bool := decide (x.1 = y.1) && decide (x.2.1 = y.2.1) && decide (x.2.2.1 = y.2.2.1) && decide (x.2.2.2 = y.2.2.2)
theorem sameMl_iff (x y : Ml) : sameMl x y = true ↔ x = y := by
  obtain ⟨x1, x2, x3, x4⟩ := x
  obtain ⟨y1, y2, y3, y4⟩ := y
  simp [sameMl, and_assoc]
theorem sameMl_self (x : Ml) : sameMl x x = true := (sameMl_iff x x).2 rfl
theorem sameMl_no {x y : Ml} (h : x ≠ y) : sameMl x y = false := by
  cases hq : sameMl x y
  · rfl
  · exact absurd ((sameMl_iff x y).1 hq) h
def eqMs : List Mm → List Mm → Bool
  | [], [] => true
  | x :: X, y :: Y => sameMl x.1 y.1 && eqMs X Y
  | _, _ => false
theorem eqMs_iff (X : List Mm) : ∀ Y : List Mm, eqMs X Y = true ↔ X.map (·.1) = Y.map (·.1) := by
  induction X with
  | nil =>
    intro Y
    cases Y with
    | nil => simp [eqMs]
    | cons y Y => simp [eqMs]
  | cons x X ih =>
    intro Y
    cases Y with
    | nil => simp [eqMs]
    | cons y Y =>
      rw [eqMs, Bool.and_eq_true, sameMl_iff, ih Y]
      simp
theorem eqMs_yes {X Y : List Mm} (h : X.map (·.1) = Y.map (·.1)) : eqMs X Y = true := (eqMs_iff X Y).2 h
theorem eqMs_no {X Y : List Mm} (h : X.map (·.1) ≠ Y.map (·.1)) : eqMs X Y = false := by
  cases hq : eqMs X Y
  · rfl
  · exact absurd ((eqMs_iff X Y).1 hq) h
theorem mapM_ne {X Y : List Mm} {k : Nat} (hx : k < X.length) (hy : k < Y.length) (h : X[k].1 ≠ Y[k].1) : X.map (·.1) ≠ Y.map (·.1) := by
  intro e
  have h1 : (X.map (·.1))[k]? = some X[k].1 := by simp [hx]
  have h2 : (Y.map (·.1))[k]? = some Y[k].1 := by simp [hy]
  rw [e, h2] at h1
  exact h (by simpa using h1.symm)

end Go.Proofs.YtijjiccgpobjmaeGreat

