/- 2 texts of the proof: view.Check. orangerylaw.seen: a closed fact. -/
import Derived.Test.YtdkncnfcgcfopabP06
/- view.Check. -/
namespace Go.Proofs.Ytdkncnfcgcfopab
open Go.ChangeShapes Go.WideShapes Go.ChangeAt Go.RowKit
open Orangery (Pl check scan rootsOk togL sameV viewE ofE ofR ofK ofW)

theorem OwnS.read {w : World} {base n c : Nat} {a : Option Addr} {l : List Pl} (h : OwnS w base (.slice a n c) l) : SlP w a l := by
  obtain ⟨a', c', e, h1⟩ := h.slp
  obtain ⟨rfl, _, _⟩ : a = a' ∧ n = l.length ∧ c = c' := by simpa using e
  exact h1
theorem SlP.apart {w : World} {a : Option Addr} {l : List Pl} {B g : Nat} (h : SlP w a l) (hf : Fresh B a) (hg : g < B) : ∀ (us : List Value) (o : Nat), SlP (w.setCells g o us) a l := by
  intro us
  induction us generalizing w with
  | nil => intro o; exact h
  | cons u us ih => intro o; exact ih (h.other g (fun b off e => by have := hf b off e; omega) o u) (o + 1)
theorem SlI.other {w : World} {a : Option Addr} {l : List Int} (h : SlI w a l) (g : Nat) (hg : l ≠ [] → ∀ b off, a = some ⟨b, off, none⟩ → b ≠ g) (j : Nat) (v : Value) : SlI (w.setCell ⟨g, j, none⟩ v) a l := by
  by_cases hl : l = []
  · exact Or.inl hl
  · rcases h with h | ⟨b, off, ha, hlt, hp⟩
    · exact absurd h hl
    · have hne := hg hl b off ha
      refine Or.inr ⟨b, off, ha, by simpa using hlt, fun i hi => ?_⟩
      rw [World.cell?_setCell_other _ _ _ _ (by simp <;> omega)]
      exact hp i hi
theorem SlI.others {w : World} {a : Option Addr} {l : List Int} (h : SlI w a l) (g : Nat) (hg : l ≠ [] → ∀ b off, a = some ⟨b, off, none⟩ → b ≠ g) : ∀ (us : List Value) (o : Nat), SlI (w.setCells g o us) a l := by
  intro us
  induction us generalizing w with
  | nil => intro o; exact h
  | cons u us ih => intro o; exact ih (h.other g hg o u) (o + 1)
theorem SlI.apart {W w : World} {a a' : Option Addr} {R R1 : List Int} {B g : Nat} (h0 : SlI W a' R) (hR : R1 = R ∨ R1 = []) (h : SlI w a R1) (hf : a = a' ∨ Fresh B a) (hg : W.heap.size ≤ g) (hB : g < B) (us : List Value) (o : Nat) : SlI (w.setCells g o us) a R1 := by
  refine h.others g (fun hn b off e => ?_) us o
  rcases hf with rfl | hf
  · rcases hR with rfl | hR
    · rcases h0 with h0 | ⟨b', off', e', hlt, _⟩
      · exact absurd h0 hn
      · rw [e] at e'
        simp at e'
        omega
    · exact absurd hR hn
  · have := hf b off e
    omega
theorem ofR_or (l : List Pl) (R : List Int) : ofR l R = R ∨ ofR l R = [] := by
  by_cases h : ofE l R = 0
  · exact Or.inl (Orangery.of_ok h).1
  · exact Or.inr (Orangery.of_bad h).1
theorem viewE_eq {R : List Int} {K V : List Pl} (h1 : rootsOk R = 0) (h2 : check K = 0) (h3 : check V = 0) :
    viewE R K V = if ofE (togL K V) R ≠ 0 then ofE (togL K V) R else if sameV R (ofR (togL K V) R) K (ofK (togL K V) R) V (ofW (togL K V) R) = true then 0 else 4 := by
  have e : ofE (togL K V) R = check (togL K V) := by
    unfold ofE Orangery.orI
    rw [h1]
    by_cases h : check (togL K V) = 0
    · rw [if_neg (by simp [h]), h]
    · rw [if_pos h]
  unfold viewE
  rw [if_neg (by simp [h1]), if_neg (by simp [h2]), if_neg (by simp [h3])]
  by_cases h : check (togL K V) = 0
  · obtain ⟨e1, e2, e3⟩ := Orangery.of_ok (l := togL K V) (R := R) (by rw [e]; exact h)
    have h0 : ¬ ofE (togL K V) R ≠ 0 := by rw [e]; simp [h]
    have h9 : ¬ check (togL K V) ≠ 0 := by simp [h]
    rw [if_neg h9, if_neg h0, e1, e2, e3]
  · rw [if_pos h, e, if_pos h]
theorem tog_len {K V : List Pl} (hK : check K = 0) (hV : check V = 0) : (togL K V).length ≤ 15 := by
  have := Orangery.scan_len _ 0 (Orangery.scan_tog (Orangery.check_scan K hK) (Orangery.check_scan V hV)) (by omega)
  omega
theorem run_index_parts (x y : Value) (w : World) : (Instr.index 87 (.agg #[x, y]) (.int .i64 0)).run Try.prog w = .ok (.agg #[x]) w ∧ (Instr.index 87 (.agg #[x, y]) (.int .i64 1)).run Try.prog w = .ok (.agg #[y]) w := by
  have hu := Try.underlying87
  have ha := Try.isAgg26
  have hz := Try.sizeOf26
  unfold Instr.index
  refine ⟨?_, ?_⟩ <;> go_simp <;> simp [asAgg]

set_option maxHeartbeats 4000000 in
set_option maxRecDepth 100000 in
theorem vcheck_any (w : World) (aR aK aV : Option Addr) (cR cK cV : Nat) (R : List Int) (K V : List Pl) (hR : R.length ≤ maxLen) (hK : K.length ≤ maxLen) (hV : V.length ≤ maxLen) (hc : aV = none → cV = 0)
    (h1 : SlI w aR R) (h2 : SlP w aK K) (h3 : SlP w aV V) :
    Calls Try.prog 26 #[viV (.slice aR R.length cR) (.slice aK K.length cK) (.slice aV V.length cV)] w
      fun e w' => e = .returned (.int .i64 (viewE R K V)) ∧ Below w.heap.size w w' := by
  obtain ⟨W0, hW, hX, hB, hS⟩ := laid1 w [Value.slice aR R.length cR, Value.slice aK K.length cK, Value.slice aV V.length cV] 55
  have x0 := hX.at 0 rfl
  have g1 := h1.below hB
  have g2 := h2.below hB
  have g3 := h3.below hB
  have HB : Hid (Below w.heap.size w W0) := hB
  clear h1 h2 h3 hB
  go_enter Try.func26, Try.ntmps26
  go_wp2_with fail
  clear hW
  refine (vroots_any W0 aR cR R hR g1).mono ?_
  rintro e W0 ⟨rfl, rfl⟩
  by_cases hr : rootsOk R = 0
  · have HR0 : Hid (rootsOk R = 0) := hr
    rw [hr]
    clear hr
    have x1 := hX.at 1 rfl
    have x2 := hX.at 2 rfl
    obtain ⟨W1, hW1, hY, hB1, hS1⟩ := laid1 W0 [Value.slice aK K.length cK, Value.slice aV V.length cV] 87
    have hX1 := hX.keep hB1
    have hI1 := g1.below hB1
    have hK1 := g2.below hB1
    have hV1 := g3.below hB1
    have HB1 : Hid (Below w.heap.size w W1) := HB.out.trans (hB1.mono HB.out.size)
    have y0 := hY.at 0 rfl
    have y1 := hY.at 1 rfl
    have hix := fun W => run_index_parts (.slice aK K.length cK) (.slice aV V.length cV) W
    clear hX g1 g2 g3 HB hB1 hS hS1
    go_wp2
    clear hW1 x0 x1 x2 y0 y1
    go_loopw [24] (fun i W => ∃ k : Nat, k ≤ 2 ∧ i = .int .i64 k ∧ (1 ≤ k → check K = 0) ∧ (2 ≤ k → check V = 0) ∧ Below W1.heap.size W1 W) (fun i _ => 2 - (intOf i).toNat)
    case atStart => exact ⟨0, by omega, rfl, by omega, by omega, Below.refl _ _⟩
    case round =>
      obtain ⟨k, hk, rfl, hc1, hc2, hb⟩ := hrel
      have HC1 : Hid (1 ≤ k → check K = 0) := hc1
      have HC2 : Hid (2 ≤ k → check V = 0) := hc2
      have hcs : k = 0 ∨ k = 1 ∨ k = 2 := by omega
      clear hc1 hc2
      rcases hcs with rfl | rfl | rfl
      · have hP := (hK1.below hb).below (Go.Joins.below_alloc1 wr (Obj.cells #[Value.slice aK K.length cK] 26))
        have hbn := hb.alloc hb.size (Obj.cells #[Value.slice aK K.length cK] 26)
        go_wp2_with fail
        refine (check_any _ aK cK K hK hP).mono ?_
        rintro e w2 ⟨rfl, hb2⟩
        have HBx : Hid (Below W1.heap.size W1 w2) := hbn.trans (hb2.mono hbn.size)
        clear hbn hb2 hb
        by_cases hz : check K = 0
        · have HZ : Hid (check K = 0) := hz
          rw [hz]
          clear hz
          go_wp2
          go_roundw
          case rel => exact ⟨1, by omega, by go_num, fun _ => HZ.out, by omega, HBx.out⟩
          case measure => simp [intOf]
        · have hz' : (check K != 0) = true := by simpa using hz
          have HE : Hid (viewE R K V = check K) := by show _ = _; unfold viewE; rw [if_neg (by simp [HR0.out]), if_pos hz]
          clear hz
          go_wp2
          go_ret
          exact ⟨ret_int HE.out.symm, HB1.out.trans (HBx.out.mono HB1.out.size)⟩
      · have HZ : Hid (check K = 0) := HC1.out (by omega)
        have hP := (hV1.below hb).below (Go.Joins.below_alloc1 wr (Obj.cells #[Value.slice aV V.length cV] 26))
        have hbn := hb.alloc hb.size (Obj.cells #[Value.slice aV V.length cV] 26)
        go_wp2_with fail
        refine (check_any _ aV cV V hV hP).mono ?_
        rintro e w2 ⟨rfl, hb2⟩
        have HBx : Hid (Below W1.heap.size W1 w2) := hbn.trans (hb2.mono hbn.size)
        clear hbn hb2 hb
        by_cases hz : check V = 0
        · have HZ2 : Hid (check V = 0) := hz
          rw [hz]
          clear hz
          go_wp2
          go_roundw
          case rel => exact ⟨2, by omega, by go_num, fun _ => HZ.out, fun _ => HZ2.out, HBx.out⟩
          case measure => simp [intOf]
        · have hz' : (check V != 0) = true := by simpa using hz
          have HE : Hid (viewE R K V = check V) := by show _ = _; unfold viewE; rw [if_neg (by simp [HR0.out]), if_neg (by simp [HZ.out]), if_pos hz]
          clear hz
          go_wp2
          go_ret
          exact ⟨ret_int HE.out.symm, HB1.out.trans (HBx.out.mono HB1.out.size)⟩
      · have hZK : check K = 0 := HC1.out (by omega)
        have hZV : check V = 0 := HC2.out (by omega)
        clear HC1 HC2
        have hYr := hY.keep hb
        have hXr := hX1.keep hb
        have hIr := hI1.below hb
        have hKr := hK1.below hb
        have hVr := hV1.below hb
        have HBr : Hid (Below w.heap.size w wr) := HB1.out.trans (hb.mono HB1.out.size)
        have HE : Hid (viewE R K V = if ofE (togL K V) R ≠ 0 then ofE (togL K V) R else if sameV R (ofR (togL K V) R) K (ofK (togL K V) R) V (ofW (togL K V) R) = true then 0 else 4) := viewE_eq HR0.out hZK hZV
        have CALL1 : Hid (∀ w', Below wr.heap.size wr w' → Calls Try.prog 59 #[.agg #[.slice aK K.length cK, .slice aV V.length cV]] w' fun e w'' => ∃ v, e = .returned (.agg #[v]) ∧ OwnS w'' w'.heap.size v (togL K V) ∧ Below w'.heap.size w' w'') :=
          fun w' hb' => together_any w' aK aV cK cV K V (Orangery.check_scan K hZK) (Orangery.check_scan V hZV) hc (hKr.below hb') (hVr.below hb')
        have CALL2 : Hid (∀ w' a c, Below wr.heap.size wr w' → SlP w' a (togL K V) → Calls Try.prog 20 #[.agg #[.slice a (togL K V).length c], .slice aR R.length cR] w' (Views w' aR (ofR (togL K V) R) (ofK (togL K V) R) (ofW (togL K V) R) (ofE (togL K V) R))) :=
          fun w' a c hb' hp => of_any w' a aR c cR (togL K V) R (by have := tog_len hZK hZV; unfold maxLen; omega) hR hp (hIr.below hb')
        have HRR : Hid (ofR (togL K V) R = R ∨ ofR (togL K V) R = []) := ofR_or _ _
        have HI0 : Hid (SlI wr aR R) := hIr
        generalize ofR (togL K V) R = R1 at *
        generalize ofK (togL K V) R = K1 at *
        generalize ofW (togL K V) R = V1 at *
        generalize ofE (togL K V) R = E at *
        generalize togL K V = T at *
        clear hb hZK hZV hI1 hK1 hV1 hX1 hY HB1 HR0 hc hix
        go_upto_region 12 with fail
        go_cut [8, 9] from 33 to 47 (fun r e4 wc => ∃ bs bR bK bV dR dK dV, r = .pointer (some ⟨bs, 0, none⟩) ∧ e4 = .int .i64 E ∧ Blk wc bs [.slice bR R1.length dR, .slice bK K1.length dK, .slice bV V1.length dV] ∧ SlI wc bR R1 ∧ SlP wc bK K1 ∧ SlP wc bV V1 ∧ Below wr.heap.size wr wc)
        case first =>
          refine wp_region_held_drew (S := fun w' => Below wr.heap.size wr w') (by kernel_rfl) ((Below.refl _ wr).drew) (fun hHeld => ?_)
          refine take_load 0 34 87 W0.heap.size [Value.slice aK K.length cK, Value.slice aV V.length cV] rfl rfl (by kernel_rfl) (by kernel_rfl) (by kernel_rfl) (fun _ _ _ h => h) (by rfl) (by rfl) (by rfl) (fun w hw => (hYr.keep hw).range) Try.underlying87 rfl sizeParts hHeld ?_
          simp only [Act.put, List.setIfInBounds_toArray, List.set_cons_succ, List.set_cons_zero]
          refine take_yes 2 36 (v := ?_) rfl rfl (by kernel_rfl) (by kernel_rfl) (by kernel_rfl) (fun _ _ _ h => h) (by rfl) ?_ hHeld ?_
          rotate_left 1
          · (intro w hSw; go_simp; try with_reducible rfl)
          simp only [Act.put, List.setIfInBounds_toArray, List.set_cons_succ, List.set_cons_zero]
          refine take_yes 3 37 (v := ?_) rfl rfl (by kernel_rfl) (by kernel_rfl) (by kernel_rfl) (fun _ _ _ h => h) (by rfl) ?_ hHeld ?_
          rotate_left 1
          · (intro w hSw; have cc := (hXr.keep hSw).at 0 rfl; go_simp; try with_reducible rfl)
          simp only [Act.put, List.setIfInBounds_toArray, List.set_cons_succ, List.set_cons_zero]
          refine wpAnyH_ready (rs := [1, 8]) (by kernel_rfl) (by simp) ?_
          refine AllReadyH.cons rfl (fun K hK => ?_) (AllReadyH.cons rfl (fun K hK => ?_) AllReadyH.nil)
          · skip
            go_simp
            refine (CALL1.out _ hHeld).mono ?_
            rintro e w6 ⟨v6, rfl, hO6, hb6⟩
            obtain ⟨a6, c6, rfl⟩ := hO6.val
            have hP6 : SlP w6 a6 T := hO6.read
            have hS6 : Below wr.heap.size wr w6 := hHeld.trans (hb6.mono hHeld.size)
            go_wp2_with fail
            refine hK.out _ _ hS6 (fun hHeld => ?_)
            clear hK K
            refine wpAnyH_ready (rs := [4, 8]) (by kernel_rfl) (by simp) ?_
            refine AllReadyH.cons rfl (fun K hK => ?_) (AllReadyH.cons rfl (fun K hK => ?_) AllReadyH.nil)
            · skip
              go_simp
              refine (CALL2.out _ a6 c6 hHeld hP6).mono ?_
              rintro e w7 ⟨bR, bK, bV, dR, dK, dV, rfl, ⟨z1, z2⟩, ⟨f1, f2, f3⟩, hI7, hK7, hV7, hb7⟩
              have hS7 : Below wr.heap.size wr w7 := hHeld.trans (hb7.mono hHeld.size)
              have hsz7 := hb7.size
              have hgt7 : wr.heap.size ≤ w7.heap.size := hS7.size
              go_wp2_with fail
              refine hK.out _ _ hS7 (fun hHeld => ?_)
              clear hK K
              refine take_yes 5 33 (v := ?_) rfl rfl (by kernel_rfl) (by kernel_rfl) (by kernel_rfl) (fun _ _ _ h => h) (by rfl) ?_ hHeld ?_
              rotate_left 1
              · (intro w hSw; go_simp; try with_reducible rfl)
              simp only [Act.put, List.setIfInBounds_toArray, List.set_cons_succ, List.set_cons_zero]
              refine take_yes 6 39 (v := ?_) rfl rfl (by kernel_rfl) (by kernel_rfl) (by kernel_rfl) (fun _ _ _ h => h) (by rfl) ?_ hHeld ?_
              rotate_left 1
              · (intro w hSw; go_simp; try with_reducible rfl)
              simp only [Act.put, List.setIfInBounds_toArray, List.set_cons_succ, List.set_cons_zero]
              refine take_yes 7 40 (v := ?_) rfl rfl (by kernel_rfl) (by kernel_rfl) (by kernel_rfl) (fun _ _ _ h => h) (by rfl) ?_ hHeld ?_
              rotate_left 1
              · (intro w hSw; go_simp; try with_reducible rfl)
              simp only [Act.put, List.setIfInBounds_toArray, List.set_cons_succ, List.set_cons_zero]
              refine wpAnyH_ready (rs := [8]) (by kernel_rfl) (by simp) ?_
              refine AllReadyH.cons rfl (fun K hK => ?_) AllReadyH.nil
              go_simp
              have hN := (Blk.new w7 [Value.slice none 0 0, Value.slice none 0 0, Value.slice none 0 0] 55)
              refine hK.out _ _ (hHeld.alloc hHeld.size _) (fun hHeld => ?_)
              clear hK K
              refine step_store 9 55 w7.heap.size [Value.slice bR R1.length dR, Value.slice bK K1.length dK, Value.slice bV V1.length dV] (by kernel_rfl) rfl rfl (by rfl) (by rfl) (by rfl) (by rfl) hN.there sizeView ?_ ?_ ?_
              · intro v hv; simp at hv; rcases hv with rfl | rfl | rfl <;> rfl
              · exact below_sets hHeld w7.heap.size (by omega) [Value.slice bR R1.length dR, Value.slice bK K1.length dK, Value.slice bV V1.length dV] 0
              have hHeld := below_sets hHeld w7.heap.size (by omega) [Value.slice bR R1.length dR, Value.slice bK K1.length dK, Value.slice bV V1.length dV] 0
              refine take_yes 10 9 (v := ?_) rfl rfl (by kernel_rfl) (by kernel_rfl) (by kernel_rfl) (fun _ _ _ h => h) (by rfl) ?_ hHeld ?_
              rotate_left 1
              · (intro w hSw; go_simp; try with_reducible rfl)
              simp only [Act.put, List.setIfInBounds_toArray, List.set_cons_succ, List.set_cons_zero]
              refine wpAnyH_done (by kernel_rfl) ?_ _
              have HHeld : Hid (Below wr.heap.size wr ((w7.alloc (Obj.cells #[Value.slice none 0 0, Value.slice none 0 0, Value.slice none 0 0] 55)).setCells w7.heap.size 0 [Value.slice bR R1.length dR, Value.slice bK K1.length dK, Value.slice bV V1.length dV])) := hHeld
              clear hHeld
              go_wp2
              go_meet
              case rel =>
                have hbw := below_sets (Go.Joins.below_alloc1 w7 (Obj.cells #[Value.slice none 0 0, Value.slice none 0 0, Value.slice none 0 0] 55)) w7.heap.size (Nat.le_refl _) [Value.slice bR R1.length dR, Value.slice bK K1.length dK, Value.slice bV V1.length dV] 0
                exact ⟨_, bR, bK, bV, dR, dK, dV, rfl, rfl, hN.sets [Value.slice bR R1.length dR, Value.slice bK K1.length dK, Value.slice bV V1.length dV] rfl, hI7.below hbw, hK7.below hbw, hV7.below hbw, HHeld.out⟩
            · skip
              go_simp
              have hN := (Blk.new w6 [Value.slice none 0 0, Value.slice none 0 0, Value.slice none 0 0] 55)
              refine hK.out _ _ (hHeld.alloc hHeld.size _) (fun hHeld => ?_)
              clear hK K
              refine wpAnyH_ready (rs := [4]) (by kernel_rfl) (by simp) ?_
              refine AllReadyH.cons rfl (fun K hK => ?_) AllReadyH.nil
              go_simp
              refine (CALL2.out _ a6 c6 hHeld (hP6.below (Go.Joins.below_alloc1 w6 _))).mono ?_
              rintro e w7 ⟨bR, bK, bV, dR, dK, dV, rfl, ⟨z1, z2⟩, ⟨f1, f2, f3⟩, hI7, hK7, hV7, hb7⟩
              have hS7 : Below wr.heap.size wr w7 := hHeld.trans (hb7.mono hHeld.size)
              have hN7 := hN.keep hb7
              have hsz7 := hb7.size
              have hgt7 : wr.heap.size ≤ w7.heap.size := hS7.size
              go_wp2_with fail
              refine hK.out _ _ hS7 (fun hHeld => ?_)
              clear hK K
              refine take_yes 5 33 (v := ?_) rfl rfl (by kernel_rfl) (by kernel_rfl) (by kernel_rfl) (fun _ _ _ h => h) (by rfl) ?_ hHeld ?_
              rotate_left 1
              · (intro w hSw; go_simp; try with_reducible rfl)
              simp only [Act.put, List.setIfInBounds_toArray, List.set_cons_succ, List.set_cons_zero]
              refine take_yes 6 39 (v := ?_) rfl rfl (by kernel_rfl) (by kernel_rfl) (by kernel_rfl) (fun _ _ _ h => h) (by rfl) ?_ hHeld ?_
              rotate_left 1
              · (intro w hSw; go_simp; try with_reducible rfl)
              simp only [Act.put, List.setIfInBounds_toArray, List.set_cons_succ, List.set_cons_zero]
              refine take_yes 7 40 (v := ?_) rfl rfl (by kernel_rfl) (by kernel_rfl) (by kernel_rfl) (fun _ _ _ h => h) (by rfl) ?_ hHeld ?_
              rotate_left 1
              · (intro w hSw; go_simp; try with_reducible rfl)
              simp only [Act.put, List.setIfInBounds_toArray, List.set_cons_succ, List.set_cons_zero]
              have hlt7 : w6.heap.size < w7.heap.size := hN7.lt
              have hgt6 : wr.heap.size ≤ w6.heap.size := hS6.size
              refine step_store 9 55 w6.heap.size [Value.slice bR R1.length dR, Value.slice bK K1.length dK, Value.slice bV V1.length dV] (by kernel_rfl) rfl rfl (by rfl) (by rfl) (by rfl) (by rfl) hN7.there sizeView ?_ ?_ ?_
              · intro v hv; simp at hv; rcases hv with rfl | rfl | rfl <;> rfl
              · exact below_sets hHeld w6.heap.size (by omega) [Value.slice bR R1.length dR, Value.slice bK K1.length dK, Value.slice bV V1.length dV] 0
              have hHeld := below_sets hHeld w6.heap.size (by omega) [Value.slice bR R1.length dR, Value.slice bK K1.length dK, Value.slice bV V1.length dV] 0
              refine take_yes 10 9 (v := ?_) rfl rfl (by kernel_rfl) (by kernel_rfl) (by kernel_rfl) (fun _ _ _ h => h) (by rfl) ?_ hHeld ?_
              rotate_left 1
              · (intro w hSw; go_simp; try with_reducible rfl)
              simp only [Act.put, List.setIfInBounds_toArray, List.set_cons_succ, List.set_cons_zero]
              refine wpAnyH_done (by kernel_rfl) ?_ _
              have HHeld : Hid (Below wr.heap.size wr (w7.setCells w6.heap.size 0 [Value.slice bR R1.length dR, Value.slice bK K1.length dK, Value.slice bV V1.length dV])) := hHeld
              clear hHeld
              go_wp2
              go_meet
              case rel =>
                exact ⟨_, bR, bK, bV, dR, dK, dV, rfl, rfl, hN7.sets [Value.slice bR R1.length dR, Value.slice bK K1.length dK, Value.slice bV V1.length dV] rfl, SlI.apart HI0.out HRR.out hI7 f3 (by omega) (by first | omega | (simp; try omega)) _ _, SlP.apart hK7 f1 (by first | omega | (simp; try omega)) _ _, SlP.apart hV7 f2 (by first | omega | (simp; try omega)) _ _, HHeld.out⟩
          · skip
            go_simp
            have hN := (Blk.new wr [Value.slice none 0 0, Value.slice none 0 0, Value.slice none 0 0] 55).drew
            refine hK.out _ _ (hHeld.alloc hHeld.size _) (fun hHeld => ?_)
            clear hK K
            refine wpAnyH_ready (rs := [1]) (by kernel_rfl) (by simp) ?_
            refine AllReadyH.cons rfl (fun K hK => ?_) AllReadyH.nil
            go_simp
            refine (CALL1.out _ hHeld).mono ?_
            rintro e w6 ⟨v6, rfl, hO6, hb6⟩
            obtain ⟨a6, c6, rfl⟩ := hO6.val
            have hP6 : SlP w6 a6 T := hO6.read
            have hS6 : Below wr.heap.size wr w6 := hHeld.trans (hb6.mono hHeld.size)
            have hN6 := hN.keep hb6
            go_wp2_with fail
            refine hK.out _ _ hS6 (fun hHeld => ?_)
            clear hK K
            refine wpAnyH_ready (rs := [4]) (by kernel_rfl) (by simp) ?_
            refine AllReadyH.cons rfl (fun K hK => ?_) AllReadyH.nil
            go_simp
            refine (CALL2.out _ a6 c6 hHeld hP6).mono ?_
            rintro e w7 ⟨bR, bK, bV, dR, dK, dV, rfl, ⟨z1, z2⟩, ⟨f1, f2, f3⟩, hI7, hK7, hV7, hb7⟩
            have hS7 : Below wr.heap.size wr w7 := hHeld.trans (hb7.mono hHeld.size)
            have hN7 := hN6.keep hb7
            have hsz7 := hb7.size
            have hgt7 : wr.heap.size ≤ w7.heap.size := hS7.size
            go_wp2_with fail
            refine hK.out _ _ hS7 (fun hHeld => ?_)
            clear hK K
            refine take_yes 5 33 (v := ?_) rfl rfl (by kernel_rfl) (by kernel_rfl) (by kernel_rfl) (fun _ _ _ h => h) (by rfl) ?_ hHeld ?_
            rotate_left 1
            · (intro w hSw; go_simp; try with_reducible rfl)
            simp only [Act.put, List.setIfInBounds_toArray, List.set_cons_succ, List.set_cons_zero]
            refine take_yes 6 39 (v := ?_) rfl rfl (by kernel_rfl) (by kernel_rfl) (by kernel_rfl) (fun _ _ _ h => h) (by rfl) ?_ hHeld ?_
            rotate_left 1
            · (intro w hSw; go_simp; try with_reducible rfl)
            simp only [Act.put, List.setIfInBounds_toArray, List.set_cons_succ, List.set_cons_zero]
            refine take_yes 7 40 (v := ?_) rfl rfl (by kernel_rfl) (by kernel_rfl) (by kernel_rfl) (fun _ _ _ h => h) (by rfl) ?_ hHeld ?_
            rotate_left 1
            · (intro w hSw; go_simp; try with_reducible rfl)
            simp only [Act.put, List.setIfInBounds_toArray, List.set_cons_succ, List.set_cons_zero]
            have hlt6 : wr.heap.size < w6.heap.size := hN6.lt
            refine step_store 9 55 wr.heap.size [Value.slice bR R1.length dR, Value.slice bK K1.length dK, Value.slice bV V1.length dV] (by kernel_rfl) rfl rfl (by rfl) (by rfl) (by rfl) (by rfl) hN7.there sizeView ?_ ?_ ?_
            · intro v hv; simp at hv; rcases hv with rfl | rfl | rfl <;> rfl
            · exact below_sets hHeld wr.heap.size (by omega) [Value.slice bR R1.length dR, Value.slice bK K1.length dK, Value.slice bV V1.length dV] 0
            have hHeld := below_sets hHeld wr.heap.size (by omega) [Value.slice bR R1.length dR, Value.slice bK K1.length dK, Value.slice bV V1.length dV] 0
            refine take_yes 10 9 (v := ?_) rfl rfl (by kernel_rfl) (by kernel_rfl) (by kernel_rfl) (fun _ _ _ h => h) (by rfl) ?_ hHeld ?_
            rotate_left 1
            · (intro w hSw; go_simp; try with_reducible rfl)
            simp only [Act.put, List.setIfInBounds_toArray, List.set_cons_succ, List.set_cons_zero]
            refine wpAnyH_done (by kernel_rfl) ?_ _
            have HHeld : Hid (Below wr.heap.size wr (w7.setCells wr.heap.size 0 [Value.slice bR R1.length dR, Value.slice bK K1.length dK, Value.slice bV V1.length dV])) := hHeld
            clear hHeld
            go_wp2
            go_meet
            case rel =>
              exact ⟨_, bR, bK, bV, dR, dK, dV, rfl, rfl, hN7.sets [Value.slice bR R1.length dR, Value.slice bK K1.length dK, Value.slice bV V1.length dV] rfl, SlI.apart HI0.out HRR.out hI7 f3 (by omega) (by first | omega | (simp; try omega)) _ _, SlP.apart hK7 f1 (by first | omega | (simp; try omega)) _ _, SlP.apart hV7 f2 (by first | omega | (simp; try omega)) _ _, HHeld.out⟩
        case rest =>
          obtain ⟨bs, bR, bK, bV, dR, dK, dV, rfl, rfl, hblk, hIc, hKc, hVc, hbc⟩ := hcut
          have HBc : Hid (Below w.heap.size w wc) := HBr.out.trans (hbc.mono HBr.out.size)
          by_cases hz : E = 0
          · subst hz
            have hXc := hXr.keep hbc
            have x0 := hXc.at 0 rfl
            have x1 := hXc.at 1 rfl
            have x2 := hXc.at 2 rfl
            have y0 := hblk.at 0 rfl
            have y1 := hblk.at 1 rfl
            have y2 := hblk.at 2 rfl
            have m1 := hIr.below hbc
            have m2 := hKr.below hbc
            have m3 := hVr.below hbc
            clear hbc hblk hXr hXc hYr hIr hKr hVr CALL1 CALL2 HI0 HRR HBr
            go_wp2_with fail
            refine (vsame_any wc aR aK aV bR bK bV cR cK cV dR dK dV R R1 K K1 V V1 hR hK hV m1 m2 m3 hIc hKc hVc).mono ?_
            rintro e w5 ⟨rfl, hb5⟩
            have HB5 : Hid (Below w.heap.size w w5) := HBc.out.trans (hb5.mono HBc.out.size)
            clear hb5 m1 m2 m3 hIc hKc hVc x0 x1 x2 y0 y1 y2
            cases hq : sameV R R1 K K1 V V1
            · have HF : Hid (viewE R K V = 4) := by show _ = _; rw [HE.out, hq]; rfl
              go_wp2
              go_ret
              exact ⟨ret_int HF.out.symm, HB5.out⟩
            · have HF : Hid (viewE R K V = 0) := by show _ = _; rw [HE.out, hq]; rfl
              go_wp2
              go_ret
              exact ⟨ret_int HF.out.symm, HB5.out⟩
          · have hz' : (E != 0) = true := by simpa using hz
            have HF : Hid (viewE R K V = E) := by show _ = _; rw [HE.out, if_pos hz]
            clear hz
            go_wp2
            go_ret
            exact ⟨ret_int HF.out.symm, HBc.out⟩
  · have hr' : (rootsOk R != 0) = true := by simpa using hr
    have HE : Hid (viewE R K V = rootsOk R) := by show _ = _; unfold viewE; rw [if_pos hr]
    clear hr
    go_wp2
    go_ret
    exact ⟨ret_int HE.out.symm, HB.out⟩
end Go.Proofs.Ytdkncnfcgcfopab

/- orangerylaw.seen: a closed fact. -/
namespace Go.Proofs.Ytdkncnfcgcfopab
open Go.ChangeShapes Go.WideShapes Go.ChangeAt Go.RowKit
open Orangery (Pl check rootsOk ofE ofR ofK ofW viewE smallL)

theorem sv1 : ofE smallL [2] = 0 ∧ ofR smallL [2] = [2] ∧ ofK smallL [2] = [(2, 1, 7), (4, 2, 0)] ∧ ofW smallL [2] = [(1, 0, 5)] := by decide +kernel
theorem sv2 : ofE smallL [0] = 0 ∧ ofR smallL [0] = [0] ∧ ofK smallL [0] = smallL ∧ ofW smallL [0] = [] := by decide +kernel
theorem sv3 : ofE smallL [2, 2] = 6 ∧ ofR smallL [2, 2] = [] ∧ ofK smallL [2, 2] = [] ∧ ofW smallL [2, 2] = [] := by decide +kernel
theorem sv4 : viewE [2] [(2, 1, 7), (4, 2, 0)] [(1, 0, 5)] = 0 := by decide +kernel
theorem sv5 : rootsOk [17] = 5 := by decide +kernel

theorem ints1 {w : World} {b : Nat} {x : Int} (h : Blk w b [.int .i64 x]) : SlI w (some ⟨b, 0, none⟩) [x] :=
  Or.inr ⟨b, 0, rfl, h.lt, fun i hi => by
    have : i = 0 := by simp at hi; exact hi
    subst this
    exact h.at 0 rfl⟩
theorem ints2 {w : World} {b : Nat} {x y : Int} (h : Blk w b [.int .i64 x, .int .i64 y]) : SlI w (some ⟨b, 0, none⟩) [x, y] :=
  Or.inr ⟨b, 0, rfl, h.lt, fun i hi => by
    have : i = 0 ∨ i = 1 := by simp at hi; omega
    rcases this with rfl | rfl
    · exact h.at 0 rfl
    · exact h.at 1 rfl⟩
theorem slp_some {w : World} {a : Option Addr} {l : List Pl} (h : SlP w a l) (hl : l ≠ []) : ∃ b off, a = some ⟨b, off, none⟩ ∧ PlsAt w b off l := by
  rcases h with h | ⟨b, off, ha, _, hp⟩
  · exact absurd h hl
  · exact ⟨b, off, ha, hp⟩

theorem of_s1 (w : World) (a a' : Option Addr) (c c' : Nat) (h : SlP w a smallL) (h' : SlI w a' [2]) :
    Calls Try.prog 20 #[.agg #[.slice a 4 c], .slice a' 1 c'] w fun e w' => ∃ aR cR b off cK b' off' cV, e = .returned (.tuple #[viV (.slice aR 1 cR) (.slice (some ⟨b, off, none⟩) 2 cK) (.slice (some ⟨b', off', none⟩) 1 cV), .int .i64 0]) ∧ SlI w' aR [2] ∧ SlP w' (some ⟨b, off, none⟩) [(2, 1, 7), (4, 2, 0)] ∧ SlP w' (some ⟨b', off', none⟩) [(1, 0, 5)] ∧ Below w.heap.size w w' := by
  refine (of_any w a a' c c' smallL [2] (by unfold maxLen; decide) (by unfold maxLen; decide) h h').mono ?_
  rintro e w' hv
  rw [sv1.1, sv1.2.1, sv1.2.2.1, sv1.2.2.2] at hv
  obtain ⟨aR, aK, aV, cR, cK, cV, rfl, _, _, hI, hK, hV, hb⟩ := hv
  obtain ⟨b, off, rfl, _⟩ := slp_some hK (by simp)
  obtain ⟨b', off', rfl, _⟩ := slp_some hV (by simp)
  exact ⟨aR, cR, b, off, cK, b', off', cV, rfl, hI, hK, hV, hb⟩
theorem of_s2 (w : World) (a a' : Option Addr) (c c' : Nat) (h : SlP w a smallL) (h' : SlI w a' [0]) :
    Calls Try.prog 20 #[.agg #[.slice a 4 c], .slice a' 1 c'] w fun e w' => ∃ aR cR aK cK aV cV, e = .returned (.tuple #[viV (.slice aR 1 cR) (.slice aK 4 cK) (.slice aV 0 cV), .int .i64 0]) ∧ Below w.heap.size w w' := by
  refine (of_any w a a' c c' smallL [0] (by unfold maxLen; decide) (by unfold maxLen; decide) h h').mono ?_
  rintro e w' hv
  rw [sv2.1, sv2.2.1, sv2.2.2.1, sv2.2.2.2] at hv
  obtain ⟨aR, aK, aV, cR, cK, cV, rfl, _, _, hI, hK, hV, hb⟩ := hv
  exact ⟨aR, cR, aK, cK, aV, cV, rfl, hb⟩
theorem of_s3 (w : World) (a a' : Option Addr) (c c' : Nat) (h : SlP w a smallL) (h' : SlI w a' [2, 2]) :
    Calls Try.prog 20 #[.agg #[.slice a 4 c], .slice a' 2 c'] w fun e w' => ∃ aR cR aK cK aV cV, e = .returned (.tuple #[viV (.slice aR 0 cR) (.slice aK 0 cK) (.slice aV 0 cV), .int .i64 6]) ∧ Below w.heap.size w w' := by
  refine (of_any w a a' c c' smallL [2, 2] (by unfold maxLen; decide) (by unfold maxLen; decide) h h').mono ?_
  rintro e w' hv
  rw [sv3.1, sv3.2.1, sv3.2.2.1, sv3.2.2.2] at hv
  obtain ⟨aR, aK, aV, cR, cK, cV, rfl, _, _, hI, hK, hV, hb⟩ := hv
  exact ⟨aR, cR, aK, cK, aV, cV, rfl, hb⟩
theorem small_four (w : World) :
    Calls Try.prog 56 #[] w fun e w' => (∃ a, e = .returned (.agg #[.slice a 4 4]) ∧ SlP w' a smallL) ∧ Below w.heap.size w w' := small_any w

set_option maxHeartbeats 2000000 in
set_option maxRecDepth 100000 in
theorem seen_any (w : World) : Calls Try.prog 22 #[] w fun e w' => e = .returned (.bool true) ∧ Below w.heap.size w w' := by
  go_enter Try.func22, Try.ntmps22
  go_wp2_with fail
  refine (small_four w).mono ?_
  rintro e w1 ⟨⟨a1, rfl, hP1⟩, hb1⟩
  go_wp2_with fail
  obtain ⟨W1, hW1, hN1, hB1, _⟩ := laid1 w1 [Value.int IntKind.i64 2] 3
  rw [hW1]
  clear hW1
  have HB1 : Hid (Below w.heap.size w W1) := hb1.trans (hB1.mono hb1.size)
  refine (of_s1 W1 a1 _ 4 1 (hP1.below hB1) (ints1 hN1)).mono ?_
  rintro e w2 ⟨aR, cR, b, off, cK, b', off', cV, rfl, hI2, hK2, hV2, hb2⟩
  have HB2 : Hid (Below w.heap.size w w2) := HB1.out.trans (hb2.mono HB1.out.size)
  clear hP1 hb1 hN1 hB1 HB1 hb2
  go_wp2_with fail
  obtain ⟨W2, hW2, hX2, hB2, _⟩ := laid1 w2 [Value.slice aR 1 cR, Value.slice (some ⟨b, off, none⟩) 2 cK, Value.slice (some ⟨b', off', none⟩) 1 cV] 55
  rw [hW2]
  clear hW2
  have hI3 := hI2.below hB2
  have hK3 := hK2.below hB2
  have hV3 := hV2.below hB2
  have HB3 : Hid (Below w.heap.size w W2) := HB2.out.trans (hB2.mono HB2.out.size)
  clear hI2 hK2 hV2 HB2 hB2
  refine (small_four W2).mono ?_
  rintro e w3 ⟨⟨a3, rfl, hP3⟩, hb3⟩
  have hX3 := hX2.keep hb3
  have hI4 := hI3.below hb3
  have hK4 := hK3.below hb3
  have hV4 := hV3.below hb3
  have HB4 : Hid (Below w.heap.size w w3) := HB3.out.trans (hb3.mono HB3.out.size)
  clear hI3 hK3 hV3 HB3 hX2 hb3
  go_wp2_with fail
  obtain ⟨W3, hW3, hN3, hB3, _⟩ := laid1 w3 [Value.int IntKind.i64 0] 3
  rw [hW3]
  clear hW3
  refine (of_s2 W3 a3 _ 4 1 (hP3.below hB3) (ints1 hN3)).mono ?_
  rintro e w4 ⟨eR, fR, eK, fK, eV, fV, rfl, hb4⟩
  have hb4' : Below w3.heap.size w3 w4 := hB3.trans (hb4.mono hB3.size)
  have hX4 := hX3.keep hb4'
  have hI5 := hI4.below hb4'
  have hK5 := hK4.below hb4'
  have hV5 := hV4.below hb4'
  have HB5 : Hid (Below w.heap.size w w4) := HB4.out.trans (hb4'.mono HB4.out.size)
  clear hI4 hK4 hV4 HB4 hX3 hb4 hb4' hN3 hB3 hP3
  go_wp2_with fail
  obtain ⟨W4, hW4, hY4, hB4, _⟩ := laid1 w4 [Value.slice eR 1 fR, Value.slice eK 4 fK, Value.slice eV 0 fV] 55
  rw [hW4]
  clear hW4
  have hX5 := hX4.keep hB4
  have hI6 := hI5.below hB4
  have hK6 := hK5.below hB4
  have hV6 := hV5.below hB4
  have HB6 : Hid (Below w.heap.size w W4) := HB5.out.trans (hB4.mono HB5.out.size)
  clear hI5 hK5 hV5 HB5 hX4 hB4
  refine (small_four W4).mono ?_
  rintro e w5 ⟨⟨a5, rfl, hP5⟩, hb5⟩
  have hX6 := hX5.keep hb5
  have hY6 := hY4.keep hb5
  have hI7 := hI6.below hb5
  have hK7 := hK6.below hb5
  have hV7 := hV6.below hb5
  have HB7 : Hid (Below w.heap.size w w5) := HB6.out.trans (hb5.mono HB6.out.size)
  clear hI6 hK6 hV6 HB6 hX5 hY4 hb5
  go_wp2_with fail
  obtain ⟨W5, hW5, hN5, hB5, _⟩ := laid1 w5 [Value.int IntKind.i64 2, Value.int IntKind.i64 2] 3
  rw [hW5]
  clear hW5
  refine (of_s3 W5 a5 _ 4 2 (hP5.below hB5) (ints2 hN5)).mono ?_
  rintro e w6 ⟨kR, lR, kK, lK, kV, lV, rfl, hb6⟩
  obtain ⟨W7, hW7, _, hB7, _⟩ := laid1 w6 [Value.slice kR 0 lR, Value.slice kK 0 lK, Value.slice kV 0 lV] 55
  have hb6' : Below w5.heap.size w5 W7 := (hB5.trans (hb6.mono hB5.size)).trans (hB7.mono (Nat.le_trans hB5.size hb6.size))
  have hX7 := hX6.keep hb6'
  have hY7 := hY6.keep hb6'
  have hI8 := hI7.below hb6'
  have hK8 := hK7.below hb6'
  have hV8 := hV7.below hb6'
  have HB8 : Hid (Below w.heap.size w W7) := HB7.out.trans (hb6'.mono HB7.out.size)
  clear hI7 hK7 hV7 HB7 hX6 hY6 hb6 hb6' hN5 hB5 hP5 hB7
  go_upto_region 4 with fail
  clear hW7
  have x0 := hX7.at 0 rfl
  have x1 := hX7.at 1 rfl
  have x2 := hX7.at 2 rfl
  have y1 := hY7.at 1 rfl
  have y2 := hY7.at 2 rfl
  obtain ⟨_, _, e1, p1⟩ := slp_some hK8 (by simp)
  obtain ⟨_, _, e2, p2⟩ := slp_some hV8 (by simp)
  simp only [Option.some.injEq, Addr.mk.injEq, and_true] at e1 e2
  obtain ⟨rfl, rfl⟩ := e1
  obtain ⟨rfl, rfl⟩ := e2
  have c1 : W7.cell? ⟨b, off, none⟩ = some (.int .i64 2) := (p1 0 (by simp)).1
  have c2 : W7.cell? ⟨b', off', none⟩ = some (.int .i64 1) := (p2 0 (by simp)).1
  have HV : Hid (Calls Try.prog 26 #[viV (.slice aR 1 cR) (.slice (some ⟨b, off, none⟩) 2 cK) (.slice (some ⟨b', off', none⟩) 1 cV)] W7 fun e w' => e = .returned (.int .i64 0) ∧ Below W7.heap.size W7 w') := by
    have := vcheck_any W7 aR (some ⟨b, off, none⟩) (some ⟨b', off', none⟩) cR cK cV [2] [(2, 1, 7), (4, 2, 0)] [(1, 0, 5)] (by unfold maxLen; decide) (by unfold maxLen; decide) (by unfold maxLen; decide) (fun e => by simp at e) hI8 hK8 hV8
    rw [sv4] at this
    exact this
  clear p1 p2 hX7 hY7 hI8 hK8 hV8
  go_wp2_with fail
  refine HV.out.mono ?_
  rintro e w8 ⟨rfl, hb8⟩
  have HB9 : Hid (Below w.heap.size w w8) := HB8.out.trans (hb8.mono HB8.out.size)
  clear hb8 HB8 HV x0 x1 x2 y1 y2 c1 c2
  go_wp2_with fail
  obtain ⟨W9, hW9, hN9, hB9, _⟩ := laid1 w8 [Value.int IntKind.i64 17] 3
  rw [hW9]
  clear hW9
  have HR : Hid (Calls Try.prog 23 #[.slice (some ⟨w8.heap.size, 0, none⟩) 1 1] W9 fun e w' => e = .returned (.int .i64 5) ∧ w' = W9) := by
    have := vroots_any W9 (some ⟨w8.heap.size, 0, none⟩) 1 [17] (by unfold maxLen; decide) (ints1 hN9)
    rw [sv5] at this
    exact this
  have HB10 : Hid (Below w.heap.size w W9) := HB9.out.trans (hB9.mono HB9.out.size)
  clear hN9 hB9 HB9
  refine HR.out.mono ?_
  rintro e W9 ⟨rfl, rfl⟩
  clear HR
  go_wp2
  go_ret
  exact ⟨rfl, HB10.out⟩
end Go.Proofs.Ytdkncnfcgcfopab

