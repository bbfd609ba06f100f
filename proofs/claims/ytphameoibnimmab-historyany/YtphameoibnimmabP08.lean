/- 1 texts of the proof: orangerylaw.folded: the closed fact. -/
import Derived.Test.YtphameoibnimmabP07
import Derived.Test.YtphameoibnimmabP05
/- orangerylaw.folded: the closed fact. -/
namespace Go.Proofs.Ytphameoibnimmab
open Go.ChangeShapes Go.WideShapes Go.ChangeAt Go.RowKit
open Orangery (Pl Mv Stp check checkOp foldE foldL foldT histE insE insL insT sameB)

theorem fold_n (w : World) (a : Option Addr) (c n : Nat) (l : List Mv) (hn : l.length = n) (hl : n ≤ 1000) (hc : n ≤ c) (h : SlE opC w a l) :
    Calls Try.prog 6 #[.slice a n c] w fun e w' => Folds w (foldL l) (foldT l) (foldE l) e w' := by
  subst hn
  exact fold_any w a c l (by unfold maxLen; omega) hc h
theorem insert_n (w : World) (a p : Option Addr) (c d n m : Nat) (l : List Stp) (t : List Pl) (o : Mv) (hn : l.length = n) (hm : t.length = m) (hl : n ≤ 1000) (ht : m ≤ 1000) (h1 : SlE stC w a l) (h3 : SlP w p t) :
    Calls Try.prog 11 #[hiV (.slice a n c) (.slice p m d), opV o] w fun e w' => Folds w (insL l t o) (insT l t o) (insE l t o) e w' := by
  subst hn hm
  exact insert_any w a p c d l t o (by omega) (by unfold maxLen; omega) h1 h3
theorem same_n (w : World) (a a' p p' : Option Addr) (c c' d d' n n' m m' : Nat) (l l' : List Stp) (t t' : List Pl) (hn : l.length = n) (hn' : l'.length = n') (hm : t.length = m) (hm' : t'.length = m') (hl : n ≤ 1000) (ht : m ≤ 1000) (h1 : SlE stC w a l) (h2 : SlE stC w a' l') (h3 : SlP w p t) (h4 : SlP w p' t') :
    Calls Try.prog 13 #[hiV (.slice a n c) (.slice p m d), hiV (.slice a' n' c') (.slice p' m' d')] w
      fun e w' => e = .returned (.bool (sameB l l' t t')) ∧ Below w.heap.size w w' := by
  subst hn hn' hm hm'
  exact same_any w a a' p p' c c' d d' l l' t t' (by unfold maxLen; omega) (by unfold maxLen; omega) h1 h2 h3 h4
theorem hcheck_n (w : World) (a p : Option Addr) (c d n m : Nat) (l : List Stp) (t : List Pl) (hn : l.length = n) (hm : t.length = m) (hl : n ≤ 1000) (ht : m ≤ 1000) (h1 : SlE stC w a l) (h3 : SlP w p t) :
    Calls Try.prog 24 #[hiV (.slice a n c) (.slice p m d)] w
      fun e w' => e = .returned (.int .i64 (histE l t)) ∧ Below w.heap.size w w' := by
  subst hn hm
  exact hcheck_any w a p c d l t (by omega) (by unfold maxLen; omega) h1 h3

/-- a history of a known number of steps and places, in memory -/
def HistAt (w : World) (b n m : Nat) (l : List Stp) (t : List Pl) : Prop :=
  ∃ g c p d, Blk w b [.slice (some ⟨g, 0, none⟩) n c, .slice p m d] ∧ SlE stC w (some ⟨g, 0, none⟩) l ∧ SlP w p t
theorem own_some {w : World} {base n : Nat} {v : Value} {l : List Stp} (h : OwnE stC 11 47 w base v l) (hn : l.length = n) (hp : 0 < n) : ∃ g c, v = .slice (some ⟨g, 0, none⟩) n c ∧ SlE stC w (some ⟨g, 0, none⟩) l := by
  obtain ⟨a, cap, rfl, h1, h2⟩ := own_slE h
  rcases h2 with rfl | ⟨g, rfl, _⟩
  · rcases h1 with rfl | ⟨b, off, h1, _⟩
    · simp at hn; omega
    · simp at h1
  · exact ⟨g, cap, by rw [hn], h1⟩
theorem ops2 {w : World} {b : Nat} {o p : Mv} (h : Blk w b (opC o ++ opC p)) : SlE opC w (some ⟨b, 0, none⟩) [o, p] :=
  Or.inr ⟨b, 0, rfl, h.lt, fun j v hv => by rw [Nat.zero_add]; exact h.at j (by simpa using hv)⟩
theorem ops3 {w : World} {b : Nat} {o p q : Mv} (h : Blk w b (opC o ++ opC p ++ opC q)) : SlE opC w (some ⟨b, 0, none⟩) [o, p, q] :=
  Or.inr ⟨b, 0, rfl, h.lt, fun j v hv => by rw [Nat.zero_add]; exact h.at j (by simpa using hv)⟩

def fo1 : Mv := lopO 1 0 1 2
def fo2 : Mv := lopO 3 0 2 1
def fo3 : Mv := lopO 2 1 1 0
def fo4 : Mv := lopO 3 0 5 0
theorem fd1 : foldE [fo1, fo2] = 0 ∧ (foldL [fo1, fo2]).length = 2 ∧ (foldT [fo1, fo2]).length = 1 ∧ ((foldL [fo1, fo2])[1]?).map (·.2.1) = some false := by decide +kernel
theorem fd2 : insE (foldL [fo1, fo2]) (foldT [fo1, fo2]) fo3 = 0 ∧ (insL (foldL [fo1, fo2]) (foldT [fo1, fo2]) fo3).length = 3 ∧ (insT (foldL [fo1, fo2]) (foldT [fo1, fo2]) fo3).length = 2 ∧ ((insL (foldL [fo1, fo2]) (foldT [fo1, fo2]) fo3)[2]?).map (·.2.1) = some true := by decide +kernel
theorem fd3 : foldE [fo2, fo3, fo1] = 0 ∧ (foldL [fo2, fo3, fo1]).length = 3 ∧ (foldT [fo2, fo3, fo1]).length = 2 ∧ sameB (insL (foldL [fo1, fo2]) (foldT [fo1, fo2]) fo3) (foldL [fo2, fo3, fo1]) (insT (foldL [fo1, fo2]) (foldT [fo1, fo2]) fo3) (foldT [fo2, fo3, fo1]) = true := by decide +kernel
theorem fd4 : insE (foldL [fo1, fo2]) (foldT [fo1, fo2]) fo4 = 6 := by decide +kernel
theorem fd5 : histE (insL (foldL [fo1, fo2]) (foldT [fo1, fo2]) fo3) (insT (foldL [fo1, fo2]) (foldT [fo1, fo2]) fo3) = 0 := by decide +kernel

theorem did_at {w : World} {g k : Nat} {l : List Stp} {d : Bool} (h : SlE stC w (some ⟨g, 0, none⟩) l) (hk : (l[k]?).map (·.2.1) = some d) : w.cell? ⟨g, k * 11 + 7, none⟩ = some (.bool d) := by
  have hlt : k < l.length := by
    rcases Nat.lt_or_ge k l.length with h' | h'
    · exact h'
    · rw [List.getElem?_eq_none h'] at hk; simp at hk
  rw [List.getElem?_eq_getElem hlt] at hk
  obtain ⟨b, off, e, _, hr⟩ := h.at stC_len k hlt
  obtain ⟨rfl, rfl⟩ : g = b ∧ 0 = off := by simpa using e
  have := (st_cells hr).2.2.2.2.2.2.2.1
  rw [Nat.zero_add] at this
  rw [this]
  simpa using hk


set_option maxHeartbeats 4000000 in
set_option maxRecDepth 100000 in
theorem folded_any (w : World) :
    Calls Try.prog 7 #[] w fun e w' => e = .returned (.bool true) ∧ Below w.heap.size w w' := by
  have hl1 : ∀ W, Calls Try.prog 23 #[.int .i64 1, .int .i64 0, .int .i64 1, .int .i64 2] W fun e w' => e = .returned (opV fo1) ∧ Below W.heap.size W w' := fun W => lop_any W 1 0 1 2
  have hl2 : ∀ W, Calls Try.prog 23 #[.int .i64 3, .int .i64 0, .int .i64 2, .int .i64 1] W fun e w' => e = .returned (opV fo2) ∧ Below W.heap.size W w' := fun W => lop_any W 3 0 2 1
  have hl3 : ∀ W, Calls Try.prog 23 #[.int .i64 2, .int .i64 1, .int .i64 1, .int .i64 0] W fun e w' => e = .returned (opV fo3) ∧ Below W.heap.size W w' := fun W => lop_any W 2 1 1 0
  have hl4 : ∀ W, Calls Try.prog 23 #[.int .i64 3, .int .i64 0, .int .i64 5, .int .i64 0] W fun e w' => e = .returned (opV fo4) ∧ Below W.heap.size W w' := fun W => lop_any W 3 0 5 0
  obtain ⟨f1a, f1b, f1c, f1d⟩ := fd1
  obtain ⟨f2a, f2b, f2c, f2d⟩ := fd2
  obtain ⟨f3a, f3b, f3c, f3d⟩ := fd3
  have f4 := fd4
  have f5 := fd5
  have HO1 : Hid (∀ W, Calls Try.prog 23 #[.int .i64 1, .int .i64 0, .int .i64 1, .int .i64 2] W fun e w' => e = .returned (opV fo1) ∧ Below W.heap.size W w') := hl1
  have HO2 : Hid (∀ W, Calls Try.prog 23 #[.int .i64 3, .int .i64 0, .int .i64 2, .int .i64 1] W fun e w' => e = .returned (opV fo2) ∧ Below W.heap.size W w') := hl2
  have HO3 : Hid (∀ W, Calls Try.prog 23 #[.int .i64 2, .int .i64 1, .int .i64 1, .int .i64 0] W fun e w' => e = .returned (opV fo3) ∧ Below W.heap.size W w') := hl3
  have HO4 : Hid (∀ W, Calls Try.prog 23 #[.int .i64 3, .int .i64 0, .int .i64 5, .int .i64 0] W fun e w' => e = .returned (opV fo4) ∧ Below W.heap.size W w') := hl4
  have HF1 : Hid (foldE [fo1, fo2] = 0) := f1a
  have HF3 : Hid (foldE [fo2, fo3, fo1] = 0) := f3a
  clear hl1 hl2 hl3 hl4 f1a f3a
  generalize hL1 : foldL [fo1, fo2] = L1 at *
  generalize hT1 : foldT [fo1, fo2] = T1 at *
  generalize hL3 : foldL [fo2, fo3, fo1] = L3 at *
  generalize hT3 : foldT [fo2, fo3, fo1] = T3 at *
  generalize hL2 : insL L1 T1 fo3 = L2 at *
  generalize hT2 : insT L1 T1 fo3 = T2 at *
  have HL1 : Hid (foldL [fo1, fo2] = L1 ∧ foldT [fo1, fo2] = T1 ∧ foldL [fo2, fo3, fo1] = L3 ∧ foldT [fo2, fo3, fo1] = T3 ∧ insL L1 T1 fo3 = L2 ∧ insT L1 T1 fo3 = T2) := ⟨hL1, hT1, hL3, hT3, hL2, hT2⟩
  have HF2 : Hid (insE L1 T1 fo3 = 0 ∧ insE L1 T1 fo4 = 6 ∧ histE L2 T2 = 0 ∧ sameB L2 L3 T2 T3 = true) := ⟨f2a, f4, f5, f3d⟩
  have HN : Hid (L1.length = 2 ∧ T1.length = 1 ∧ L2.length = 3 ∧ T2.length = 2 ∧ L3.length = 3 ∧ T3.length = 2) := ⟨f1b, f1c, f2b, f2c, f3b, f3c⟩
  have HD : Hid ((L1[1]?).map (·.2.1) = some false ∧ (L2[2]?).map (·.2.1) = some true) := ⟨f1d, f2d⟩
  clear hL1 hT1 hL2 hT2 hL3 hT3 f1b f1c f1d f2a f2b f2c f2d f3b f3c f3d f4 f5
  generalize fo1 = O1 at *
  generalize fo2 = O2 at *
  generalize fo3 = O3 at *
  generalize fo4 = O4 at *
  go_enter Try.func7, Try.ntmps7
  go_wp2_with fail
  refine (HO1.out w).mono ?_
  rintro e w1 ⟨rfl, hb⟩
  have HB1 : Hid (Below w.heap.size w w1) := hb
  clear hb
  go_wp2_with fail
  refine (HO2.out w1).mono ?_
  rintro e w2 ⟨rfl, hb⟩
  have HB2 : Hid (Below w.heap.size w w2) := HB1.out.trans (hb.mono HB1.out.size)
  clear hb HB1
  obtain ⟨W3, hW3, hN3, hb, _⟩ := laid1 w2 [Value.int IntKind.i64 O1.fst, Value.int IntKind.i64 O1.snd.fst, Value.int IntKind.i64 O1.snd.snd.fst.fst, Value.int IntKind.i64 O1.snd.snd.fst.snd.fst, Value.int IntKind.i64 O1.snd.snd.fst.snd.snd, Value.int IntKind.i64 O1.snd.snd.snd.fst, Value.int IntKind.i64 O1.snd.snd.snd.snd, Value.int IntKind.i64 O2.fst, Value.int IntKind.i64 O2.snd.fst, Value.int IntKind.i64 O2.snd.snd.fst.fst, Value.int IntKind.i64 O2.snd.snd.fst.snd.fst, Value.int IntKind.i64 O2.snd.snd.fst.snd.snd, Value.int IntKind.i64 O2.snd.snd.snd.fst, Value.int IntKind.i64 O2.snd.snd.snd.snd] 38
  have HB3 : Hid (Below w.heap.size w W3) := HB2.out.trans (hb.mono HB2.out.size)
  have hP3 : SlE opC W3 (some ⟨w2.heap.size, 0, none⟩) [O1, O2] := ops2 hN3
  clear hb HB2 hN3
  go_wp2_with fail
  clear hW3
  refine (fold_n W3 _ 2 2 [O1, O2] rfl (by omega) (by omega) hP3).mono ?_
  rintro e w4 ⟨vL, vT, rfl, hL, hT, hb⟩
  rw [HF1.out]
  rw [HL1.out.1] at hL
  rw [HL1.out.2.1] at hT
  obtain ⟨g1, c1, rfl, hPL⟩ := own_some hL HN.out.1 (by omega)
  obtain ⟨p1, d1, rfl⟩ := hT.val
  have hPT := hT.read
  rw [HN.out.2.1]
  have HB4 : Hid (Below w.heap.size w w4) := HB3.out.trans (hb.mono HB3.out.size)
  clear hL hT hb HB3 hP3
  obtain ⟨W5, hW5, hH, hb, hS5⟩ := laid1 w4 [Value.slice (some ⟨g1, 0, none⟩) 2 c1, Value.slice p1 1 d1] 28
  have hPL5 := hPL.below hb
  have hPT5 := hPT.below hb
  have HB5 : Hid (Below w.heap.size w W5) := HB4.out.trans (hb.mono HB4.out.size)
  clear hPL hPT hb HB4 hS5
  go_upto_region 2 with fail
  clear hW5
  go_cut [3, 4] from 3 to 21 (fun r e4 wc => ∃ bs g2 c2 p2 d2, r = .pointer (some ⟨bs, 0, none⟩) ∧ e4 = .int .i64 0 ∧ Blk wc bs [.slice (some ⟨g2, 0, none⟩) 3 c2, .slice p2 2 d2] ∧ SlE stC wc (some ⟨g2, 0, none⟩) L2 ∧ SlP wc p2 T2 ∧ Below W5.heap.size W5 wc)
  case first =>
    refine wp_region_held_drew (S := fun w' => Below W5.heap.size W5 w') (by kernel_rfl) ((Below.refl _ W5).drew) (fun hHeld => ?_)
    refine take_load 0 17 28 w4.heap.size [Value.slice (some ⟨g1, 0, none⟩) 2 c1, Value.slice p1 1 d1] rfl rfl (by kernel_rfl) (by kernel_rfl) (by kernel_rfl) (fun _ _ _ h => h) (by rfl) (by rfl) (by rfl) (fun w hw => (hH.keep hw).range) Try.underlying28 rfl sizeHist hHeld ?_
    simp only [Act.put, List.setIfInBounds_toArray, List.set_cons_succ, List.set_cons_zero]
    refine wpAnyH_ready (rs := [1, 6]) (by kernel_rfl) (by simp) ?_
    refine AllReadyH.cons rfl (fun K hK => ?_) (AllReadyH.cons rfl (fun K hK => ?_) AllReadyH.nil)
    · skip
      go_simp
      refine (HO3.out _).mono ?_
      rintro e w6 ⟨rfl, hb6⟩
      have hS6 : Below W5.heap.size W5 w6 := hHeld.trans (hb6.mono hHeld.size)
      go_wp2_with fail
      refine hK.out _ _ hS6 (fun hHeld => ?_)
      clear hK K
      refine wpAnyH_ready (rs := [2, 6]) (by kernel_rfl) (by simp) ?_
      refine AllReadyH.cons rfl (fun K hK => ?_) (AllReadyH.cons rfl (fun K hK => ?_) AllReadyH.nil)
      · skip
        go_simp
        refine (insert_n _ (some ⟨g1, 0, none⟩) p1 c1 d1 2 1 L1 T1 O3 HN.out.1 HN.out.2.1 (by omega) (by omega) (hPL5.below hHeld) (hPT5.below hHeld)).mono ?_
        rintro e w7 ⟨vL, vT, rfl, hL, hT, hb7⟩
        rw [HF2.out.1]
        rw [HL1.out.2.2.2.2.1] at hL
        rw [HL1.out.2.2.2.2.2] at hT
        obtain ⟨g2, c2, rfl, hPL⟩ := own_some hL HN.out.2.2.1 (by omega)
        obtain ⟨p2, d2, rfl⟩ := hT.val
        have hPT := hT.read
        rw [HN.out.2.2.2.1] at hT ⊢
        have hS7 : Below W5.heap.size W5 w7 := hHeld.trans (hb7.mono hHeld.size)
        have hsz7 := hb7.size
        have hgt7 : W5.heap.size ≤ w7.heap.size := hS7.size
        go_wp2_with fail
        refine hK.out _ _ hS7 (fun hHeld => ?_)
        clear hK K
        refine take_yes 3 16 (v := ?_) rfl rfl (by kernel_rfl) (by kernel_rfl) (by kernel_rfl) (fun _ _ _ h => h) (by rfl) ?_ hHeld ?_
        rotate_left 1
        · (intro w hSw; go_simp; try with_reducible rfl)
        simp only [Act.put, List.setIfInBounds_toArray, List.set_cons_succ, List.set_cons_zero]
        refine take_yes 4 20 (v := ?_) rfl rfl (by kernel_rfl) (by kernel_rfl) (by kernel_rfl) (fun _ _ _ h => h) (by rfl) ?_ hHeld ?_
        rotate_left 1
        · (intro w hSw; go_simp; try with_reducible rfl)
        simp only [Act.put, List.setIfInBounds_toArray, List.set_cons_succ, List.set_cons_zero]
        refine take_yes 5 21 (v := ?_) rfl rfl (by kernel_rfl) (by kernel_rfl) (by kernel_rfl) (fun _ _ _ h => h) (by rfl) ?_ hHeld ?_
        rotate_left 1
        · (intro w hSw; go_simp; try with_reducible rfl)
        simp only [Act.put, List.setIfInBounds_toArray, List.set_cons_succ, List.set_cons_zero]
        refine wpAnyH_ready (rs := [6]) (by kernel_rfl) (by simp) ?_
        refine AllReadyH.cons rfl (fun K hK => ?_) AllReadyH.nil
        go_simp
        have hN := (Blk.new w7 [Value.slice none 0 0, Value.slice none 0 0] 28)
        refine hK.out _ _ (hHeld.alloc hHeld.size _) (fun hHeld => ?_)
        clear hK K
        refine step_store 7 28 w7.heap.size [Value.slice (some ⟨g2, 0, none⟩) 3 c2, Value.slice p2 2 d2] (by kernel_rfl) rfl rfl (by rfl) (by rfl) (by rfl) (by rfl) hN.there sizeHist ?_ ?_ ?_
        · intro v hv; simp at hv; rcases hv with rfl | rfl <;> rfl
        · exact below_sets hHeld w7.heap.size (by omega) [Value.slice (some ⟨g2, 0, none⟩) 3 c2, Value.slice p2 2 d2] 0
        have hHeld := below_sets hHeld w7.heap.size (by omega) [Value.slice (some ⟨g2, 0, none⟩) 3 c2, Value.slice p2 2 d2] 0
        refine take_yes 8 4 (v := ?_) rfl rfl (by kernel_rfl) (by kernel_rfl) (by kernel_rfl) (fun _ _ _ h => h) (by rfl) ?_ hHeld ?_
        rotate_left 1
        · (intro w hSw; go_simp; try with_reducible rfl)
        simp only [Act.put, List.setIfInBounds_toArray, List.set_cons_succ, List.set_cons_zero]
        refine wpAnyH_done (by kernel_rfl) ?_ _
        have HHeld : Hid (Below W5.heap.size W5 ((w7.alloc (Obj.cells #[Value.slice none 0 0, Value.slice none 0 0] 28)).setCells w7.heap.size 0 [Value.slice (some ⟨g2, 0, none⟩) 3 c2, Value.slice p2 2 d2])) := hHeld
        clear hHeld
        go_wp2
        go_meet
        case rel =>
          exact ⟨_, g2, c2, p2, d2, rfl, rfl, hN.sets [Value.slice (some ⟨g2, 0, none⟩) 3 c2, Value.slice p2 2 d2] rfl, hPL.below (below_sets (Go.Joins.below_alloc1 w7 _) w7.heap.size (Nat.le_refl _) [Value.slice (some ⟨g2, 0, none⟩) 3 c2, Value.slice p2 2 d2] 0), hPT.below (below_sets (Go.Joins.below_alloc1 w7 _) w7.heap.size (Nat.le_refl _) [Value.slice (some ⟨g2, 0, none⟩) 3 c2, Value.slice p2 2 d2] 0), HHeld.out⟩
      · skip
        go_simp
        have hN := (Blk.new w6 [Value.slice none 0 0, Value.slice none 0 0] 28)
        refine hK.out _ _ (hHeld.alloc hHeld.size _) (fun hHeld => ?_)
        clear hK K
        refine wpAnyH_ready (rs := [2]) (by kernel_rfl) (by simp) ?_
        refine AllReadyH.cons rfl (fun K hK => ?_) AllReadyH.nil
        go_simp
        refine (insert_n _ (some ⟨g1, 0, none⟩) p1 c1 d1 2 1 L1 T1 O3 HN.out.1 HN.out.2.1 (by omega) (by omega) (hPL5.below hHeld) (hPT5.below hHeld)).mono ?_
        rintro e w7 ⟨vL, vT, rfl, hL, hT, hb7⟩
        rw [HF2.out.1]
        rw [HL1.out.2.2.2.2.1] at hL
        rw [HL1.out.2.2.2.2.2] at hT
        obtain ⟨g2, c2, rfl, hPL⟩ := own_some hL HN.out.2.2.1 (by omega)
        obtain ⟨p2, d2, rfl⟩ := hT.val
        have hPT := hT.read
        rw [HN.out.2.2.2.1] at hT ⊢
        have hS7 : Below W5.heap.size W5 w7 := hHeld.trans (hb7.mono hHeld.size)
        have hN7 := hN.keep hb7
        have hsz7 := hb7.size
        have hgt7 : W5.heap.size ≤ w7.heap.size := hS7.size
        go_wp2_with fail
        refine hK.out _ _ hS7 (fun hHeld => ?_)
        clear hK K
        refine take_yes 3 16 (v := ?_) rfl rfl (by kernel_rfl) (by kernel_rfl) (by kernel_rfl) (fun _ _ _ h => h) (by rfl) ?_ hHeld ?_
        rotate_left 1
        · (intro w hSw; go_simp; try with_reducible rfl)
        simp only [Act.put, List.setIfInBounds_toArray, List.set_cons_succ, List.set_cons_zero]
        refine take_yes 4 20 (v := ?_) rfl rfl (by kernel_rfl) (by kernel_rfl) (by kernel_rfl) (fun _ _ _ h => h) (by rfl) ?_ hHeld ?_
        rotate_left 1
        · (intro w hSw; go_simp; try with_reducible rfl)
        simp only [Act.put, List.setIfInBounds_toArray, List.set_cons_succ, List.set_cons_zero]
        refine take_yes 5 21 (v := ?_) rfl rfl (by kernel_rfl) (by kernel_rfl) (by kernel_rfl) (fun _ _ _ h => h) (by rfl) ?_ hHeld ?_
        rotate_left 1
        · (intro w hSw; go_simp; try with_reducible rfl)
        simp only [Act.put, List.setIfInBounds_toArray, List.set_cons_succ, List.set_cons_zero]
        have hlt7 : w6.heap.size < w7.heap.size := hN7.lt
        have hgt6 : W5.heap.size ≤ w6.heap.size := hS6.size
        refine step_store 7 28 w6.heap.size [Value.slice (some ⟨g2, 0, none⟩) 3 c2, Value.slice p2 2 d2] (by kernel_rfl) rfl rfl (by rfl) (by rfl) (by rfl) (by rfl) hN7.there sizeHist ?_ ?_ ?_
        · intro v hv; simp at hv; rcases hv with rfl | rfl <;> rfl
        · exact below_sets hHeld w6.heap.size (by omega) [Value.slice (some ⟨g2, 0, none⟩) 3 c2, Value.slice p2 2 d2] 0
        have hHeld := below_sets hHeld w6.heap.size (by omega) [Value.slice (some ⟨g2, 0, none⟩) 3 c2, Value.slice p2 2 d2] 0
        refine take_yes 8 4 (v := ?_) rfl rfl (by kernel_rfl) (by kernel_rfl) (by kernel_rfl) (fun _ _ _ h => h) (by rfl) ?_ hHeld ?_
        rotate_left 1
        · (intro w hSw; go_simp; try with_reducible rfl)
        simp only [Act.put, List.setIfInBounds_toArray, List.set_cons_succ, List.set_cons_zero]
        refine wpAnyH_done (by kernel_rfl) ?_ _
        have HHeld : Hid (Below W5.heap.size W5 (w7.setCells w6.heap.size 0 [Value.slice (some ⟨g2, 0, none⟩) 3 c2, Value.slice p2 2 d2])) := hHeld
        clear hHeld
        go_wp2
        go_meet
        case rel =>
          exact ⟨_, g2, c2, p2, d2, rfl, rfl, hN7.sets [Value.slice (some ⟨g2, 0, none⟩) 3 c2, Value.slice p2 2 d2] rfl, (OwnE.others w6.heap.size (by first | omega | (simp; try omega)) [Value.slice (some ⟨g2, 0, none⟩) 3 c2, Value.slice p2 2 d2] 0 w7 hL).read, (OwnS.others w6.heap.size (by first | omega | (simp; try omega)) [Value.slice (some ⟨g2, 0, none⟩) 3 c2, Value.slice p2 2 d2] 0 w7 hT).read, HHeld.out⟩
    · skip
      go_simp
      have hN := (Blk.new W5 [Value.slice none 0 0, Value.slice none 0 0] 28).drew
      refine hK.out _ _ (hHeld.alloc hHeld.size _) (fun hHeld => ?_)
      clear hK K
      refine wpAnyH_ready (rs := [1]) (by kernel_rfl) (by simp) ?_
      refine AllReadyH.cons rfl (fun K hK => ?_) AllReadyH.nil
      go_simp
      refine (HO3.out _).mono ?_
      rintro e w6 ⟨rfl, hb6⟩
      have hS6 : Below W5.heap.size W5 w6 := hHeld.trans (hb6.mono hHeld.size)
      have hN6 := hN.keep hb6
      go_wp2_with fail
      refine hK.out _ _ hS6 (fun hHeld => ?_)
      clear hK K
      refine wpAnyH_ready (rs := [2]) (by kernel_rfl) (by simp) ?_
      refine AllReadyH.cons rfl (fun K hK => ?_) AllReadyH.nil
      go_simp
      refine (insert_n _ (some ⟨g1, 0, none⟩) p1 c1 d1 2 1 L1 T1 O3 HN.out.1 HN.out.2.1 (by omega) (by omega) (hPL5.below hHeld) (hPT5.below hHeld)).mono ?_
      rintro e w7 ⟨vL, vT, rfl, hL, hT, hb7⟩
      rw [HF2.out.1]
      rw [HL1.out.2.2.2.2.1] at hL
      rw [HL1.out.2.2.2.2.2] at hT
      obtain ⟨g2, c2, rfl, hPL⟩ := own_some hL HN.out.2.2.1 (by omega)
      obtain ⟨p2, d2, rfl⟩ := hT.val
      have hPT := hT.read
      rw [HN.out.2.2.2.1] at hT ⊢
      have hS7 : Below W5.heap.size W5 w7 := hHeld.trans (hb7.mono hHeld.size)
      have hN7 := hN6.keep hb7
      have hsz7 := hb7.size
      have hgt7 : W5.heap.size ≤ w7.heap.size := hS7.size
      go_wp2_with fail
      refine hK.out _ _ hS7 (fun hHeld => ?_)
      clear hK K
      refine take_yes 3 16 (v := ?_) rfl rfl (by kernel_rfl) (by kernel_rfl) (by kernel_rfl) (fun _ _ _ h => h) (by rfl) ?_ hHeld ?_
      rotate_left 1
      · (intro w hSw; go_simp; try with_reducible rfl)
      simp only [Act.put, List.setIfInBounds_toArray, List.set_cons_succ, List.set_cons_zero]
      refine take_yes 4 20 (v := ?_) rfl rfl (by kernel_rfl) (by kernel_rfl) (by kernel_rfl) (fun _ _ _ h => h) (by rfl) ?_ hHeld ?_
      rotate_left 1
      · (intro w hSw; go_simp; try with_reducible rfl)
      simp only [Act.put, List.setIfInBounds_toArray, List.set_cons_succ, List.set_cons_zero]
      refine take_yes 5 21 (v := ?_) rfl rfl (by kernel_rfl) (by kernel_rfl) (by kernel_rfl) (fun _ _ _ h => h) (by rfl) ?_ hHeld ?_
      rotate_left 1
      · (intro w hSw; go_simp; try with_reducible rfl)
      simp only [Act.put, List.setIfInBounds_toArray, List.set_cons_succ, List.set_cons_zero]
      have hlt6 : W5.heap.size < w6.heap.size := hN6.lt
      refine step_store 7 28 W5.heap.size [Value.slice (some ⟨g2, 0, none⟩) 3 c2, Value.slice p2 2 d2] (by kernel_rfl) rfl rfl (by rfl) (by rfl) (by rfl) (by rfl) hN7.there sizeHist ?_ ?_ ?_
      · intro v hv; simp at hv; rcases hv with rfl | rfl <;> rfl
      · exact below_sets hHeld W5.heap.size (by omega) [Value.slice (some ⟨g2, 0, none⟩) 3 c2, Value.slice p2 2 d2] 0
      have hHeld := below_sets hHeld W5.heap.size (by omega) [Value.slice (some ⟨g2, 0, none⟩) 3 c2, Value.slice p2 2 d2] 0
      refine take_yes 8 4 (v := ?_) rfl rfl (by kernel_rfl) (by kernel_rfl) (by kernel_rfl) (fun _ _ _ h => h) (by rfl) ?_ hHeld ?_
      rotate_left 1
      · (intro w hSw; go_simp; try with_reducible rfl)
      simp only [Act.put, List.setIfInBounds_toArray, List.set_cons_succ, List.set_cons_zero]
      refine wpAnyH_done (by kernel_rfl) ?_ _
      have HHeld : Hid (Below W5.heap.size W5 (w7.setCells W5.heap.size 0 [Value.slice (some ⟨g2, 0, none⟩) 3 c2, Value.slice p2 2 d2])) := hHeld
      clear hHeld
      go_wp2
      go_meet
      case rel =>
        exact ⟨_, g2, c2, p2, d2, rfl, rfl, hN7.sets [Value.slice (some ⟨g2, 0, none⟩) 3 c2, Value.slice p2 2 d2] rfl, (OwnE.others W5.heap.size (by first | omega | (simp; try omega)) [Value.slice (some ⟨g2, 0, none⟩) 3 c2, Value.slice p2 2 d2] 0 w7 hL).read, (OwnS.others W5.heap.size (by first | omega | (simp; try omega)) [Value.slice (some ⟨g2, 0, none⟩) 3 c2, Value.slice p2 2 d2] 0 w7 hT).read, HHeld.out⟩
  case rest =>
    obtain ⟨bs, g2, c2, p2, d2, rfl, rfl, hG, hPL2, hPT2, hb⟩ := hcut
    have hH6 := hH.keep hb
    have hPL6 := hPL5.below hb
    have hPT6 := hPT5.below hb
    have HB6 : Hid (Below w.heap.size w wc) := HB5.out.trans (hb.mono HB5.out.size)
    clear hH hPL5 hPT5 HB5 hb
    have hG6 := hG
    have hQL6 := hPL2
    have hQT6 := hPT2
    clear hG hPL2 hPT2
    go_wp2_with fail
    refine (HO2.out wc).mono ?_
    rintro e w8 ⟨rfl, hb⟩
    have hH7 := hH6.keep hb
    have hG7 := hG6.keep hb
    have hPL7 := hPL6.below hb
    have hPT7 := hPT6.below hb
    have hQL7 := hQL6.below hb
    have hQT7 := hQT6.below hb
    have HB7 : Hid (Below w.heap.size w w8) := HB6.out.trans (hb.mono HB6.out.size)
    clear hH6 hG6 hPL6 hPT6 hQL6 hQT6 HB6
    clear hb
    go_wp2_with fail
    refine (HO3.out w8).mono ?_
    rintro e w9 ⟨rfl, hb⟩
    have hH8 := hH7.keep hb
    have hG8 := hG7.keep hb
    have hPL8 := hPL7.below hb
    have hPT8 := hPT7.below hb
    have hQL8 := hQL7.below hb
    have hQT8 := hQT7.below hb
    have HB8 : Hid (Below w.heap.size w w9) := HB7.out.trans (hb.mono HB7.out.size)
    clear hH7 hG7 hPL7 hPT7 hQL7 hQT7 HB7
    clear hb
    go_wp2_with fail
    refine (HO1.out w9).mono ?_
    rintro e w10 ⟨rfl, hb⟩
    have hH9 := hH8.keep hb
    have hG9 := hG8.keep hb
    have hPL9 := hPL8.below hb
    have hPT9 := hPT8.below hb
    have hQL9 := hQL8.below hb
    have hQT9 := hQT8.below hb
    have HB9 : Hid (Below w.heap.size w w10) := HB8.out.trans (hb.mono HB8.out.size)
    clear hH8 hG8 hPL8 hPT8 hQL8 hQT8 HB8
    clear hb
    obtain ⟨W11, hW11, hN11, hb, hS11⟩ := laid1 w10 [Value.int IntKind.i64 O2.fst, Value.int IntKind.i64 O2.snd.fst, Value.int IntKind.i64 O2.snd.snd.fst.fst, Value.int IntKind.i64 O2.snd.snd.fst.snd.fst, Value.int IntKind.i64 O2.snd.snd.fst.snd.snd, Value.int IntKind.i64 O2.snd.snd.snd.fst, Value.int IntKind.i64 O2.snd.snd.snd.snd, Value.int IntKind.i64 O3.fst, Value.int IntKind.i64 O3.snd.fst, Value.int IntKind.i64 O3.snd.snd.fst.fst, Value.int IntKind.i64 O3.snd.snd.fst.snd.fst, Value.int IntKind.i64 O3.snd.snd.fst.snd.snd, Value.int IntKind.i64 O3.snd.snd.snd.fst, Value.int IntKind.i64 O3.snd.snd.snd.snd, Value.int IntKind.i64 O1.fst, Value.int IntKind.i64 O1.snd.fst, Value.int IntKind.i64 O1.snd.snd.fst.fst, Value.int IntKind.i64 O1.snd.snd.fst.snd.fst, Value.int IntKind.i64 O1.snd.snd.fst.snd.snd, Value.int IntKind.i64 O1.snd.snd.snd.fst, Value.int IntKind.i64 O1.snd.snd.snd.snd] 38
    have hH10 := hH9.keep hb
    have hG10 := hG9.keep hb
    have hPL10 := hPL9.below hb
    have hPT10 := hPT9.below hb
    have hQL10 := hQL9.below hb
    have hQT10 := hQT9.below hb
    have HB10 : Hid (Below w.heap.size w W11) := HB9.out.trans (hb.mono HB9.out.size)
    clear hH9 hG9 hPL9 hPT9 hQL9 hQT9 HB9
    have hP11 : SlE opC W11 (some ⟨w10.heap.size, 0, none⟩) [O2, O3, O1] := ops3 hN11
    clear hb hN11 hS11
    go_wp2_with fail
    clear hW11
    refine (fold_n W11 _ 3 3 [O2, O3, O1] rfl (by omega) (by omega) hP11).mono ?_
    rintro e w12 ⟨vL, vT, rfl, hL, hT, hb⟩
    rw [HF3.out]
    rw [HL1.out.2.2.1] at hL
    rw [HL1.out.2.2.2.1] at hT
    obtain ⟨g3, c3, rfl, hRL⟩ := own_some hL HN.out.2.2.2.2.1 (by omega)
    obtain ⟨p3, d3, rfl⟩ := hT.val
    have hRT := hT.read
    rw [HN.out.2.2.2.2.2]
    have hH11 := hH10.keep hb
    have hG11 := hG10.keep hb
    have hPL11 := hPL10.below hb
    have hPT11 := hPT10.below hb
    have hQL11 := hQL10.below hb
    have hQT11 := hQT10.below hb
    have HB11 : Hid (Below w.heap.size w w12) := HB10.out.trans (hb.mono HB10.out.size)
    clear hH10 hG10 hPL10 hPT10 hQL10 hQT10 HB10
    clear hL hT hb hP11
    obtain ⟨W13, hW13, hX, hb, hS13⟩ := laid1 w12 [Value.slice (some ⟨g3, 0, none⟩) 3 c3, Value.slice p3 2 d3] 28
    have hH12 := hH11.keep hb
    have hG12 := hG11.keep hb
    have hPL12 := hPL11.below hb
    have hPT12 := hPT11.below hb
    have hQL12 := hQL11.below hb
    have hQT12 := hQT11.below hb
    have HB12 : Hid (Below w.heap.size w W13) := HB11.out.trans (hb.mono HB11.out.size)
    clear hH11 hG11 hPL11 hPT11 hQL11 hQT11 HB11
    have hRL13 := hRL.below hb
    have hRT13 := hRT.below hb
    clear hRL hRT hb hS13
    go_upto_region 4 with fail
    clear hW13
    go_cut [8] from 7 to 35 (fun e8 wc => e8 = .int .i64 6 ∧ Below W13.heap.size W13 wc)
    case first =>
      refine wp_region_held_drew (S := fun w' => Below W13.heap.size W13 w') (by kernel_rfl) ((Below.refl _ W13).drew) (fun hHeld => ?_)
      refine take_load 0 31 28 w4.heap.size [Value.slice (some ⟨g1, 0, none⟩) 2 c1, Value.slice p1 1 d1] rfl rfl (by kernel_rfl) (by kernel_rfl) (by kernel_rfl) (fun _ _ _ h => h) (by rfl) (by rfl) (by rfl) (fun w hw => (hH12.keep hw).range) Try.underlying28 rfl sizeHist hHeld ?_
      simp only [Act.put, List.setIfInBounds_toArray, List.set_cons_succ, List.set_cons_zero]
      refine wpAnyH_ready (rs := [1, 6]) (by kernel_rfl) (by simp) ?_
      refine AllReadyH.cons rfl (fun K hK => ?_) (AllReadyH.cons rfl (fun K hK => ?_) AllReadyH.nil)
      · skip
        go_simp
        refine (HO4.out _).mono ?_
        rintro e w6 ⟨rfl, hb6⟩
        have hS6 : Below W13.heap.size W13 w6 := hHeld.trans (hb6.mono hHeld.size)
        go_wp2_with fail
        refine hK.out _ _ hS6 (fun hHeld => ?_)
        clear hK K
        refine wpAnyH_ready (rs := [2, 6]) (by kernel_rfl) (by simp) ?_
        refine AllReadyH.cons rfl (fun K hK => ?_) (AllReadyH.cons rfl (fun K hK => ?_) AllReadyH.nil)
        · skip
          go_simp
          refine (insert_n _ (some ⟨g1, 0, none⟩) p1 c1 d1 2 1 L1 T1 O4 HN.out.1 HN.out.2.1 (by omega) (by omega) (hPL12.below hHeld) (hPT12.below hHeld)).mono ?_
          rintro e w7 ⟨vL, vT, rfl, hL, hT, hb7⟩
          rw [HF2.out.2.1]
          obtain ⟨aL, cL, rfl, _, _⟩ := hL.val
          obtain ⟨aT, cT, rfl⟩ := hT.val
          have hS7 : Below W13.heap.size W13 w7 := hHeld.trans (hb7.mono hHeld.size)
          have hsz7 := hb7.size
          have hgt7 : W13.heap.size ≤ w7.heap.size := hS7.size
          go_wp2_with fail
          refine hK.out _ _ hS7 (fun hHeld => ?_)
          clear hK K
          refine take_yes 3 30 (v := ?_) rfl rfl (by kernel_rfl) (by kernel_rfl) (by kernel_rfl) (fun _ _ _ h => h) (by rfl) ?_ hHeld ?_
          rotate_left 1
          · (intro w hSw; go_simp; try with_reducible rfl)
          simp only [Act.put, List.setIfInBounds_toArray, List.set_cons_succ, List.set_cons_zero]
          refine take_yes 4 34 (v := ?_) rfl rfl (by kernel_rfl) (by kernel_rfl) (by kernel_rfl) (fun _ _ _ h => h) (by rfl) ?_ hHeld ?_
          rotate_left 1
          · (intro w hSw; go_simp; try with_reducible rfl)
          simp only [Act.put, List.setIfInBounds_toArray, List.set_cons_succ, List.set_cons_zero]
          refine take_yes 5 35 (v := ?_) rfl rfl (by kernel_rfl) (by kernel_rfl) (by kernel_rfl) (fun _ _ _ h => h) (by rfl) ?_ hHeld ?_
          rotate_left 1
          · (intro w hSw; go_simp; try with_reducible rfl)
          simp only [Act.put, List.setIfInBounds_toArray, List.set_cons_succ, List.set_cons_zero]
          refine wpAnyH_ready (rs := [6]) (by kernel_rfl) (by simp) ?_
          refine AllReadyH.cons rfl (fun K hK => ?_) AllReadyH.nil
          go_simp
          have hN := (Blk.new w7 [Value.slice none 0 0, Value.slice none 0 0] 28)
          refine hK.out _ _ (hHeld.alloc hHeld.size _) (fun hHeld => ?_)
          clear hK K
          refine step_store 7 28 w7.heap.size [Value.slice aL (insL L1 T1 O4).length cL, Value.slice aT (insT L1 T1 O4).length cT] (by kernel_rfl) rfl rfl (by rfl) (by rfl) (by rfl) (by rfl) hN.there sizeHist ?_ ?_ ?_
          · intro v hv; simp at hv; rcases hv with rfl | rfl <;> rfl
          · exact below_sets hHeld w7.heap.size (by omega) [Value.slice aL (insL L1 T1 O4).length cL, Value.slice aT (insT L1 T1 O4).length cT] 0
          have hHeld := below_sets hHeld w7.heap.size (by omega) [Value.slice aL (insL L1 T1 O4).length cL, Value.slice aT (insT L1 T1 O4).length cT] 0
          refine take_yes 8 8 (v := ?_) rfl rfl (by kernel_rfl) (by kernel_rfl) (by kernel_rfl) (fun _ _ _ h => h) (by rfl) ?_ hHeld ?_
          rotate_left 1
          · (intro w hSw; go_simp; try with_reducible rfl)
          simp only [Act.put, List.setIfInBounds_toArray, List.set_cons_succ, List.set_cons_zero]
          refine wpAnyH_done (by kernel_rfl) ?_ _
          have HHeld : Hid (Below W13.heap.size W13 ((w7.alloc (Obj.cells #[Value.slice none 0 0, Value.slice none 0 0] 28)).setCells w7.heap.size 0 [Value.slice aL (insL L1 T1 O4).length cL, Value.slice aT (insT L1 T1 O4).length cT])) := hHeld
          clear hHeld
          go_wp2
          go_meet
          case rel =>
            exact ⟨rfl, HHeld.out⟩
        · skip
          go_simp
          have hN := (Blk.new w6 [Value.slice none 0 0, Value.slice none 0 0] 28)
          refine hK.out _ _ (hHeld.alloc hHeld.size _) (fun hHeld => ?_)
          clear hK K
          refine wpAnyH_ready (rs := [2]) (by kernel_rfl) (by simp) ?_
          refine AllReadyH.cons rfl (fun K hK => ?_) AllReadyH.nil
          go_simp
          refine (insert_n _ (some ⟨g1, 0, none⟩) p1 c1 d1 2 1 L1 T1 O4 HN.out.1 HN.out.2.1 (by omega) (by omega) (hPL12.below hHeld) (hPT12.below hHeld)).mono ?_
          rintro e w7 ⟨vL, vT, rfl, hL, hT, hb7⟩
          rw [HF2.out.2.1]
          obtain ⟨aL, cL, rfl, _, _⟩ := hL.val
          obtain ⟨aT, cT, rfl⟩ := hT.val
          have hS7 : Below W13.heap.size W13 w7 := hHeld.trans (hb7.mono hHeld.size)
          have hN7 := hN.keep hb7
          have hsz7 := hb7.size
          have hgt7 : W13.heap.size ≤ w7.heap.size := hS7.size
          go_wp2_with fail
          refine hK.out _ _ hS7 (fun hHeld => ?_)
          clear hK K
          refine take_yes 3 30 (v := ?_) rfl rfl (by kernel_rfl) (by kernel_rfl) (by kernel_rfl) (fun _ _ _ h => h) (by rfl) ?_ hHeld ?_
          rotate_left 1
          · (intro w hSw; go_simp; try with_reducible rfl)
          simp only [Act.put, List.setIfInBounds_toArray, List.set_cons_succ, List.set_cons_zero]
          refine take_yes 4 34 (v := ?_) rfl rfl (by kernel_rfl) (by kernel_rfl) (by kernel_rfl) (fun _ _ _ h => h) (by rfl) ?_ hHeld ?_
          rotate_left 1
          · (intro w hSw; go_simp; try with_reducible rfl)
          simp only [Act.put, List.setIfInBounds_toArray, List.set_cons_succ, List.set_cons_zero]
          refine take_yes 5 35 (v := ?_) rfl rfl (by kernel_rfl) (by kernel_rfl) (by kernel_rfl) (fun _ _ _ h => h) (by rfl) ?_ hHeld ?_
          rotate_left 1
          · (intro w hSw; go_simp; try with_reducible rfl)
          simp only [Act.put, List.setIfInBounds_toArray, List.set_cons_succ, List.set_cons_zero]
          have hlt7 : w6.heap.size < w7.heap.size := hN7.lt
          have hgt6 : W13.heap.size ≤ w6.heap.size := hS6.size
          refine step_store 7 28 w6.heap.size [Value.slice aL (insL L1 T1 O4).length cL, Value.slice aT (insT L1 T1 O4).length cT] (by kernel_rfl) rfl rfl (by rfl) (by rfl) (by rfl) (by rfl) hN7.there sizeHist ?_ ?_ ?_
          · intro v hv; simp at hv; rcases hv with rfl | rfl <;> rfl
          · exact below_sets hHeld w6.heap.size (by omega) [Value.slice aL (insL L1 T1 O4).length cL, Value.slice aT (insT L1 T1 O4).length cT] 0
          have hHeld := below_sets hHeld w6.heap.size (by omega) [Value.slice aL (insL L1 T1 O4).length cL, Value.slice aT (insT L1 T1 O4).length cT] 0
          refine take_yes 8 8 (v := ?_) rfl rfl (by kernel_rfl) (by kernel_rfl) (by kernel_rfl) (fun _ _ _ h => h) (by rfl) ?_ hHeld ?_
          rotate_left 1
          · (intro w hSw; go_simp; try with_reducible rfl)
          simp only [Act.put, List.setIfInBounds_toArray, List.set_cons_succ, List.set_cons_zero]
          refine wpAnyH_done (by kernel_rfl) ?_ _
          have HHeld : Hid (Below W13.heap.size W13 (w7.setCells w6.heap.size 0 [Value.slice aL (insL L1 T1 O4).length cL, Value.slice aT (insT L1 T1 O4).length cT])) := hHeld
          clear hHeld
          go_wp2
          go_meet
          case rel =>
            exact ⟨rfl, HHeld.out⟩
      · skip
        go_simp
        have hN := (Blk.new W13 [Value.slice none 0 0, Value.slice none 0 0] 28).drew
        refine hK.out _ _ (hHeld.alloc hHeld.size _) (fun hHeld => ?_)
        clear hK K
        refine wpAnyH_ready (rs := [1]) (by kernel_rfl) (by simp) ?_
        refine AllReadyH.cons rfl (fun K hK => ?_) AllReadyH.nil
        go_simp
        refine (HO4.out _).mono ?_
        rintro e w6 ⟨rfl, hb6⟩
        have hS6 : Below W13.heap.size W13 w6 := hHeld.trans (hb6.mono hHeld.size)
        have hN6 := hN.keep hb6
        go_wp2_with fail
        refine hK.out _ _ hS6 (fun hHeld => ?_)
        clear hK K
        refine wpAnyH_ready (rs := [2]) (by kernel_rfl) (by simp) ?_
        refine AllReadyH.cons rfl (fun K hK => ?_) AllReadyH.nil
        go_simp
        refine (insert_n _ (some ⟨g1, 0, none⟩) p1 c1 d1 2 1 L1 T1 O4 HN.out.1 HN.out.2.1 (by omega) (by omega) (hPL12.below hHeld) (hPT12.below hHeld)).mono ?_
        rintro e w7 ⟨vL, vT, rfl, hL, hT, hb7⟩
        rw [HF2.out.2.1]
        obtain ⟨aL, cL, rfl, _, _⟩ := hL.val
        obtain ⟨aT, cT, rfl⟩ := hT.val
        have hS7 : Below W13.heap.size W13 w7 := hHeld.trans (hb7.mono hHeld.size)
        have hN7 := hN6.keep hb7
        have hsz7 := hb7.size
        have hgt7 : W13.heap.size ≤ w7.heap.size := hS7.size
        go_wp2_with fail
        refine hK.out _ _ hS7 (fun hHeld => ?_)
        clear hK K
        refine take_yes 3 30 (v := ?_) rfl rfl (by kernel_rfl) (by kernel_rfl) (by kernel_rfl) (fun _ _ _ h => h) (by rfl) ?_ hHeld ?_
        rotate_left 1
        · (intro w hSw; go_simp; try with_reducible rfl)
        simp only [Act.put, List.setIfInBounds_toArray, List.set_cons_succ, List.set_cons_zero]
        refine take_yes 4 34 (v := ?_) rfl rfl (by kernel_rfl) (by kernel_rfl) (by kernel_rfl) (fun _ _ _ h => h) (by rfl) ?_ hHeld ?_
        rotate_left 1
        · (intro w hSw; go_simp; try with_reducible rfl)
        simp only [Act.put, List.setIfInBounds_toArray, List.set_cons_succ, List.set_cons_zero]
        refine take_yes 5 35 (v := ?_) rfl rfl (by kernel_rfl) (by kernel_rfl) (by kernel_rfl) (fun _ _ _ h => h) (by rfl) ?_ hHeld ?_
        rotate_left 1
        · (intro w hSw; go_simp; try with_reducible rfl)
        simp only [Act.put, List.setIfInBounds_toArray, List.set_cons_succ, List.set_cons_zero]
        have hlt6 : W13.heap.size < w6.heap.size := hN6.lt
        refine step_store 7 28 W13.heap.size [Value.slice aL (insL L1 T1 O4).length cL, Value.slice aT (insT L1 T1 O4).length cT] (by kernel_rfl) rfl rfl (by rfl) (by rfl) (by rfl) (by rfl) hN7.there sizeHist ?_ ?_ ?_
        · intro v hv; simp at hv; rcases hv with rfl | rfl <;> rfl
        · exact below_sets hHeld W13.heap.size (by omega) [Value.slice aL (insL L1 T1 O4).length cL, Value.slice aT (insT L1 T1 O4).length cT] 0
        have hHeld := below_sets hHeld W13.heap.size (by omega) [Value.slice aL (insL L1 T1 O4).length cL, Value.slice aT (insT L1 T1 O4).length cT] 0
        refine take_yes 8 8 (v := ?_) rfl rfl (by kernel_rfl) (by kernel_rfl) (by kernel_rfl) (fun _ _ _ h => h) (by rfl) ?_ hHeld ?_
        rotate_left 1
        · (intro w hSw; go_simp; try with_reducible rfl)
        simp only [Act.put, List.setIfInBounds_toArray, List.set_cons_succ, List.set_cons_zero]
        refine wpAnyH_done (by kernel_rfl) ?_ _
        have HHeld : Hid (Below W13.heap.size W13 (w7.setCells W13.heap.size 0 [Value.slice aL (insL L1 T1 O4).length cL, Value.slice aT (insT L1 T1 O4).length cT])) := hHeld
        clear hHeld
        go_wp2
        go_meet
        case rel =>
          exact ⟨rfl, HHeld.out⟩
    case rest =>
      obtain ⟨rfl, hb⟩ := hcut
      have hX12 := hX
      have hRL12 := hRL13
      have hRT12 := hRT13
      have hH13 := hH12.keep hb
      have hG13 := hG12.keep hb
      have hPL13 := hPL12.below hb
      have hPT13 := hPT12.below hb
      have hQL13 := hQL12.below hb
      have hQT13 := hQT12.below hb
      have hX13 := hX12.keep hb
      have hRL13 := hRL12.below hb
      have hRT13 := hRT12.below hb
      have HB13 : Hid (Below w.heap.size w wc) := HB12.out.trans (hb.mono HB12.out.size)
      clear hH12 hG12 hPL12 hPT12 hQL12 hQT12 hX12 hRL12 hRT12 HB12
      clear hb
      have k0 : ∀ w', Below wc.heap.size wc w' → w'.cell? ⟨w4.heap.size, 0, none⟩ = some (.slice (some ⟨g1, 0, none⟩) 2 c1) := fun w' h => (hH13.keep h).at 0 rfl
      have k1 : ∀ w', Below wc.heap.size wc w' → w'.cell? ⟨w4.heap.size, 1, none⟩ = some (.slice p1 1 d1) := fun w' h => (hH13.keep h).at 1 rfl
      have k2 : ∀ w', Below wc.heap.size wc w' → w'.cell? ⟨bs, 0, none⟩ = some (.slice (some ⟨g2, 0, none⟩) 3 c2) := fun w' h => (hG13.keep h).at 0 rfl
      have k3 : ∀ w', Below wc.heap.size wc w' → w'.cell? ⟨bs, 1, none⟩ = some (.slice p2 2 d2) := fun w' h => (hG13.keep h).at 1 rfl
      have k4 : ∀ w', Below wc.heap.size wc w' → w'.cell? ⟨w12.heap.size, 0, none⟩ = some (.slice (some ⟨g3, 0, none⟩) 3 c3) := fun w' h => (hX13.keep h).at 0 rfl
      have k5 : ∀ w', Below wc.heap.size wc w' → w'.cell? ⟨w12.heap.size, 1, none⟩ = some (.slice p3 2 d3) := fun w' h => (hX13.keep h).at 1 rfl
      have k6 : ∀ w', Below wc.heap.size wc w' → w'.cell? ⟨g1, 18, none⟩ = some (.bool false) := fun w' h => did_at (hPL13.below h) HD.out.1
      have k7 : ∀ w', Below wc.heap.size wc w' → w'.cell? ⟨g2, 29, none⟩ = some (.bool true) := fun w' h => did_at (hQL13.below h) HD.out.2
      have KEEP : Hid (∀ w', Below wc.heap.size wc w' → w'.cell? ⟨w4.heap.size, 0, none⟩ = some (.slice (some ⟨g1, 0, none⟩) 2 c1) ∧ w'.cell? ⟨w4.heap.size, 1, none⟩ = some (.slice p1 1 d1) ∧ w'.cell? ⟨bs, 0, none⟩ = some (.slice (some ⟨g2, 0, none⟩) 3 c2) ∧ w'.cell? ⟨bs, 1, none⟩ = some (.slice p2 2 d2) ∧ w'.cell? ⟨w12.heap.size, 0, none⟩ = some (.slice (some ⟨g3, 0, none⟩) 3 c3) ∧ w'.cell? ⟨w12.heap.size, 1, none⟩ = some (.slice p3 2 d3) ∧ w'.cell? ⟨g1, 18, none⟩ = some (.bool false) ∧ w'.cell? ⟨g2, 29, none⟩ = some (.bool true)) := fun w' h => ⟨k0 w' h, k1 w' h, k2 w' h, k3 w' h, k4 w' h, k5 w' h, k6 w' h, k7 w' h⟩
      clear k0 k1 k2 k3 k4 k5 k6 k7
      have HPL : Hid (SlE stC wc (some ⟨g1, 0, none⟩) L1) := hPL13
      have HPT : Hid (SlP wc p1 T1) := hPT13
      have HQL : Hid (SlE stC wc (some ⟨g2, 0, none⟩) L2) := hQL13
      have HQT : Hid (SlP wc p2 T2) := hQT13
      have HRL : Hid (SlE stC wc (some ⟨g3, 0, none⟩) L3) := hRL13
      have HRT : Hid (SlP wc p3 T3) := hRT13
      clear hH13 hG13 hPL13 hPT13 hQL13 hQT13 hX13 hRL13 hRT13
      obtain ⟨m0, m1, m2, m3, m4, m5, m6, m7⟩ := KEEP.out wc (Below.refl _ _)
      go_wp2_with fail
      refine (same_n wc (some ⟨g2, 0, none⟩) (some ⟨g3, 0, none⟩) p2 p3 c2 c3 d2 d3 3 3 2 2 L2 L3 T2 T3 HN.out.2.2.1 HN.out.2.2.2.2.1 HN.out.2.2.2.1 HN.out.2.2.2.2.2 (by omega) (by omega) HQL.out HRL.out HQT.out HRT.out).mono ?_
      rintro e wn ⟨rfl, hb⟩
      rw [HF2.out.2.2.2]
      clear m0 m1 m2 m3 m4 m5 m6 m7
      obtain ⟨m0, m1, m2, m3, m4, m5, m6, m7⟩ := KEEP.out wn hb
      go_wp2_with fail
      refine (hcheck_n wn (some ⟨g2, 0, none⟩) p2 c2 d2 3 2 L2 T2 HN.out.2.2.1 HN.out.2.2.2.1 (by omega) (by omega) (HQL.out.below hb) (HQT.out.below hb)).mono ?_
      rintro e wm ⟨rfl, hb2⟩
      rw [HF2.out.2.2.1]
      have HBE : Hid (Below w.heap.size w wm) := HB13.out.trans ((hb.trans (hb2.mono hb.size)).mono HB13.out.size)
      clear m0 m1 m2 m3 m4 m5 m6 m7 hb hb2
      go_wp2
      go_ret
      exact ⟨rfl, HBE.out⟩
end Go.Proofs.Ytphameoibnimmab

