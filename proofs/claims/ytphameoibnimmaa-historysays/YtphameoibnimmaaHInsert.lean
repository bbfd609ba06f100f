/- history.Insert. -/
import Derived.Test.YtphameoibnimmaaHCheck
import Derived.Test.YtphameoibnimmaaOrE
namespace Go.Proofs.Ytphameoibnimmaa
open Go.ChangeShapes Go.WideShapes Go.ChangeAt Go.RowKit
open Orangery (Pl Mv Stp check checkOp foldE foldL foldT histE hasM thereB insE insL insT orI)

theorem there_has {l : List Stp} {m : List Mv} (hm : l.map (·.1) = m) (o : Mv) : thereB l o = hasM m o.1 o.2.1 := by
  subst hm
  rw [Bool.eq_iff_iff, Orangery.hasM_iff]
  unfold thereB
  rw [List.any_eq_true]
  constructor
  · rintro ⟨s, hs, h⟩
    simp at h
    exact ⟨s.1, List.mem_map.2 ⟨s, hs, rfl⟩, h⟩
  · rintro ⟨x, hx, h⟩
    obtain ⟨s, hs, rfl⟩ := List.mem_map.1 hx
    exact ⟨s, hs, by simp [h]⟩
theorem ins_err {l : List Stp} {t : List Pl} {o : Mv} (h : insE l t o ≠ 0) : insL l t o = [] ∧ insT l t o = [] := by
  unfold insL insT
  rw [if_pos h, if_pos h]
  exact ⟨rfl, rfl⟩
theorem insE_or {l : List Stp} {t : List Pl} {o : Mv} (h : orI (histE l t) (checkOp o) ≠ 0) : insE l t o = orI (histE l t) (checkOp o) := by
  unfold insE
  unfold orI at h ⊢
  by_cases h1 : histE l t = 0
  · rw [if_neg (by simp [h1])] at h
    rw [if_neg (by simp [h1]), if_pos h, if_neg (by simp [h1])]
  · rw [if_pos h1, if_pos h1]
theorem or_zero {x y : Int} (h : orI x y = 0) : x = 0 ∧ y = 0 := by
  unfold orI at h
  split at h
  · contradiction
  · rename_i hx; exact ⟨by simpa using hx, h⟩
theorem insE_go {l : List Stp} {t : List Pl} {o : Mv} {m : List Mv} (hm : l.map (·.1) = m) (h : orI (histE l t) (checkOp o) = 0) :
    (hasM m o.1 o.2.1 = true → insE l t o = 6) ∧ (hasM m o.1 o.2.1 = false → insE l t o = foldE (m ++ [o]) ∧ insL l t o = foldL (m ++ [o]) ∧ insT l t o = foldT (m ++ [o])) := by
  obtain ⟨h1, h2⟩ := or_zero h
  have ht := there_has hm o
  constructor
  · intro hh
    unfold insE
    rw [if_neg (by simp [h1]), if_neg (by simp [h2]), if_pos (by rw [ht]; exact hh)]
  · intro hh
    have e : insE l t o = foldE (m ++ [o]) := by
      unfold insE
      rw [if_neg (by simp [h1]), if_neg (by simp [h2]), if_neg (by rw [ht, hh]; simp), hm]
    refine ⟨e, ?_, ?_⟩
    · unfold insL
      rw [e, hm]
      by_cases hz : foldE (m ++ [o]) = 0
      · rw [if_neg (by simp [hz])]
      · rw [if_pos hz, (Orangery.fold_err hz).1]
    · unfold insT
      rw [e, hm]
      by_cases hz : foldE (m ++ [o]) = 0
      · rw [if_neg (by simp [hz])]
      · rw [if_pos hz, (Orangery.fold_err hz).2]
theorem hist_len {l : List Stp} {t : List Pl} (h : histE l t = 0) : l.length ≤ 30 := by
  have h1 : foldE (l.map (·.1)) = 0 := by
    unfold histE at h
    split at h
    · contradiction
    · rename_i hx; simpa using hx
  have := ((Orangery.foldE_zero _).1 h1).1
  simpa using this

set_option maxHeartbeats 2000000 in
set_option maxRecDepth 100000 in
theorem insert_any (w : World) (a p : Option Addr) (c d : Nat) (l : List Stp) (t : List Pl) (o : Mv) (hl : l.length * 88 ≤ 140737488351232) (ht : t.length ≤ maxLen) (h1 : SlE stC w a l) (h3 : SlP w p t) :
    Calls Try.prog 30 #[hiV (.slice a l.length c) (.slice p t.length d), opV o] w fun e w' => Folds w (insL l t o) (insT l t o) (insE l t o) e w' := by
  obtain ⟨i0, hi, hz0, hz1, hz2⟩ := info_parts infoOp
  obtain ⟨m, hm⟩ : ∃ m, l.map (·.1) = m := ⟨_, rfl⟩
  have HBAD : Hid (orI (histE l t) (checkOp o) ≠ 0 → insE l t o = orI (histE l t) (checkOp o)) := insE_or
  have HGO : Hid (orI (histE l t) (checkOp o) = 0 → (hasM m o.1 o.2.1 = true → insE l t o = 6) ∧ (hasM m o.1 o.2.1 = false → insE l t o = foldE (m ++ [o]) ∧ insL l t o = foldL (m ++ [o]) ∧ insT l t o = foldT (m ++ [o]))) := insE_go hm
  have HLEN : Hid (orI (histE l t) (checkOp o) = 0 → m.length ≤ 30) := fun h => by rw [← hm, List.length_map]; exact hist_len (or_zero h).1
  have HM : Hid (l.map (·.1) = m) := hm
  clear hm
  obtain ⟨o1, o2, ⟨o3, o4, o5⟩, o6, o7⟩ := o
  obtain ⟨W0, hW, hH, hO, hR, hB, hS⟩ := laid3 w [Value.slice a l.length c, Value.slice p t.length d] 62 [Value.int IntKind.i64 o1, Value.int IntKind.i64 o2, Value.int IntKind.i64 o3, Value.int IntKind.i64 o4, Value.int IntKind.i64 o5, Value.int IntKind.i64 o6, Value.int IntKind.i64 o7] 49 [Value.slice none 0 0, Value.slice none 0 0] 62
  have hP := h1.below hB
  have hT := h3.below hB
  have HS : Hid (W0.heap.size = w.heap.size + 3) := hS
  clear h1 h3 hS
  go_enter Try.func30, Try.ntmps30
  go_wp2_with fail
  clear hW
  have x0 := hH.at 0 rfl
  have x1 := hH.at 1 rfl
  have m0 := hO.at 0 rfl
  have m1 := hO.at 1 rfl
  have m2 := hO.at 2 rfl
  have m3 := hO.at 3 rfl
  have m4 := hO.at 4 rfl
  have m5 := hO.at 5 rfl
  have m6 := hO.at 6 rfl
  go_region_held3 (fun w' => w'.cell? ⟨w.heap.size, 0, none⟩ = some (.slice a l.length c) ∧ w'.cell? ⟨w.heap.size, 1, none⟩ = some (.slice p t.length d) ∧ w'.cell? ⟨w.heap.size + 1, 0, none⟩ = some (.int .i64 o1) ∧ w'.cell? ⟨w.heap.size + 1, 1, none⟩ = some (.int .i64 o2) ∧ w'.cell? ⟨w.heap.size + 1, 2, none⟩ = some (.int .i64 o3) ∧ w'.cell? ⟨w.heap.size + 1, 3, none⟩ = some (.int .i64 o4) ∧ w'.cell? ⟨w.heap.size + 1, 4, none⟩ = some (.int .i64 o5) ∧ w'.cell? ⟨w.heap.size + 1, 5, none⟩ = some (.int .i64 o6) ∧ w'.cell? ⟨w.heap.size + 1, 6, none⟩ = some (.int .i64 o7)) (go_keep)
    (first | (go_at_call 34; refine (hcheck_any _ a p c d l t hl ht ?_ ?_).mono ?_; exact hP.drew; exact hT; rintro e w1 ⟨rfl, hb1⟩; have hb1' : Below W0.heap.size W0 w1 := ((Below.refl _ W0).drew).trans hb1; have hH1 := hH.keep hb1'; have x10 := hH1.at 0 rfl; have x11 := hH1.at 1 rfl; have hO1 := hO.keep hb1'; have m10 := hO1.at 0 rfl; have m11 := hO1.at 1 rfl; have m12 := hO1.at 2 rfl; have m13 := hO1.at 3 rfl; have m14 := hO1.at 4 rfl; have m15 := hO1.at 5 rfl; have m16 := hO1.at 6 rfl) | (go_at_call 27; refine (moveCheck_any _ (o1, o2, (o3, o4, o5), o6, o7)).mono ?_; rintro e w2 ⟨rfl, hb2⟩; have hb2' := hb1'.trans (hb2.mono hb1'.size); have hH2 := hH.keep hb2'; have x20 := hH2.at 0 rfl; have x21 := hH2.at 1 rfl; have hO2 := hO.keep hb2'; have m20 := hO2.at 0 rfl; have m21 := hO2.at 1 rfl; have m22 := hO2.at 2 rfl; have m23 := hO2.at 3 rfl; have m24 := hO2.at 4 rfl; have m25 := hO2.at 5 rfl; have m26 := hO2.at 6 rfl) | (go_at_call 54; refine (orE_any _ _ _ (histE l t) (checkOp (o1, o2, (o3, o4, o5), o6, o7)) ?_ ?_).mono ?_; simp; simp; rintro e w3 ⟨rfl, rfl⟩))
  have hH3 := hH2.alloc (Obj.cells #[Value.int IntKind.i64 (histE l t), Value.int IntKind.i64 (checkOp (o1, o2, (o3, o4, o5), o6, o7))] 22)
  have hO3 := hO2.alloc (Obj.cells #[Value.int IntKind.i64 (histE l t), Value.int IntKind.i64 (checkOp (o1, o2, (o3, o4, o5), o6, o7))] 22)
  have hR3 := (hR.keep hb2').alloc (Obj.cells #[Value.int IntKind.i64 (histE l t), Value.int IntKind.i64 (checkOp (o1, o2, (o3, o4, o5), o6, o7))] 22)
  have hb3 : Below W0.heap.size W0 (w2.alloc (Obj.cells #[Value.int IntKind.i64 (histE l t), Value.int IntKind.i64 (checkOp (o1, o2, (o3, o4, o5), o6, o7))] 22)) := hb2'.alloc hb2'.size _
  have hP3 := hP.below hb3
  have hT3 := hT.below hb3
  have HB3 : Hid (Below w.heap.size w (w2.alloc (Obj.cells #[Value.int IntKind.i64 (histE l t), Value.int IntKind.i64 (checkOp (o1, o2, (o3, o4, o5), o6, o7))] 22))) := hB.trans (hb3.mono hB.size)
  have hsz3 := hb3.size
  rw [HS.out] at hsz3
  generalize w2.alloc (Obj.cells #[Value.int IntKind.i64 (histE l t), Value.int IntKind.i64 (checkOp (o1, o2, (o3, o4, o5), o6, o7))] 22) = W3 at *
  clear hH hO hR hB hP hT x0 x1 m0 m1 m2 m3 m4 m5 m6 x10 x11 m10 m11 m12 m13 m14 m15 m16 x20 x21 m20 m21 m22 m23 m24 m25 m26 hb1 hb1' hb2 hb2' hO1 hO2 hH1 hH2 hb3
  generalize orI (histE l t) (checkOp (o1, o2, (o3, o4, o5), o6, o7)) = E at *
  by_cases hz : E = 0
  · subst hz
    have HG := HGO.out rfl
    have hml := HLEN.out rfl
    have HG1 : Hid (hasM m o1 o2 = true → insE l t (o1, o2, (o3, o4, o5), o6, o7) = 6) := HG.1
    have HG2 : Hid (hasM m o1 o2 = false → insE l t (o1, o2, (o3, o4, o5), o6, o7) = foldE (m ++ [(o1, o2, (o3, o4, o5), o6, o7)]) ∧ insL l t (o1, o2, (o3, o4, o5), o6, o7) = foldL (m ++ [(o1, o2, (o3, o4, o5), o6, o7)]) ∧ insT l t (o1, o2, (o3, o4, o5), o6, o7) = foldT (m ++ [(o1, o2, (o3, o4, o5), o6, o7)])) := HG.2
    clear HG HGO HLEN HBAD
    have x0 := hH3.at 0 rfl
    have x1 := hH3.at 1 rfl
    go_wp2_with fail
    refine (hops_any W3 a c l (.slice p t.length d) hl hP3).mono ?_
    rintro e w4 ⟨v4, rfl, hO4, hb4⟩
    rw [HM.out] at hO4
    obtain ⟨a4, c4, rfl, hP4, hc4⟩ := hO4.val
    have hOp4 := hO3.keep hb4
    have hR4 := hR3.keep hb4
    have HB4 : Hid (Below w.heap.size w w4) := HB3.out.trans (hb4.mono HB3.out.size)
    have hsz4 : w.heap.size + 3 ≤ w4.heap.size := by have := hb4.size; omega
    have hsz34 := hb4.size
    clear hO3 hR3 hH3 hP3 hT3 HB3 hb4 x0 x1
    have m0 := hOp4.at 0 rfl
    have m1 := hOp4.at 1 rfl
    go_wp2_with fail
    refine (has_any w4 a4 c4 m o1 o2 (by unfold maxLen; omega) hP4).mono ?_
    rintro e w5 ⟨rfl, hb5⟩
    have hOp5 := hOp4.keep hb5
    have hR5 := hR4.keep hb5
    have hO5 := (hO4.keep hb5)
    have HB5 : Hid (Below w.heap.size w w5) := HB4.out.trans (hb5.mono HB4.out.size)
    have hsz5 : W3.heap.size ≤ w5.heap.size := by have := hb5.size; omega
    have HE5 : Hid (hasS m o1 o2 = hasM m o1 o2) := rfl
    rw [HE5.out]
    clear hOp4 hR4 hO4 hP4 HB4 hb5 m0 m1
    cases hq : hasM m o1 o2
    · obtain ⟨e1, e2, e3⟩ := HG2.out hq
      have HQ : Hid (insE l t (o1, o2, (o3, o4, o5), o6, o7) = foldE (m ++ [(o1, o2, (o3, o4, o5), o6, o7)]) ∧ insL l t (o1, o2, (o3, o4, o5), o6, o7) = foldL (m ++ [(o1, o2, (o3, o4, o5), o6, o7)]) ∧ insT l t (o1, o2, (o3, o4, o5), o6, o7) = foldT (m ++ [(o1, o2, (o3, o4, o5), o6, o7)])) := ⟨e1, e2, e3⟩
      clear e1 e2 e3 HG1 HG2 hq HE5
      obtain ⟨W6, hW6, hN, hBn, _⟩ := laid1 w5 [Value.int IntKind.i64 o1, Value.int IntKind.i64 o2, Value.int IntKind.i64 o3, Value.int IntKind.i64 o4, Value.int IntKind.i64 o5, Value.int IntKind.i64 o6, Value.int IntKind.i64 o7] 49
      have hR6 := hR5.keep hBn
      have hown6 : W6.ownsRow W3.heap.size 49 7 (.slice a4 m.length c4) m.length (m.flatMap opC) := hO5.keep hBn
      have HB6 : Hid (Below w.heap.size w W6) := HB5.out.trans (hBn.mono HB5.out.size)
      have HN : Hid (Blk W6 w5.heap.size [Value.int IntKind.i64 o1, Value.int IntKind.i64 o2, Value.int IntKind.i64 o3, Value.int IntKind.i64 o4, Value.int IntKind.i64 o5, Value.int IntKind.i64 o6, Value.int IntKind.i64 o7]) := hN
      have m0 := hOp5.at 0 rfl
      have m1 := hOp5.at 1 rfl
      have m2 := hOp5.at 2 rfl
      have m3 := hOp5.at 3 rfl
      have m4 := hOp5.at 4 rfl
      have m5 := hOp5.at 5 rfl
      have m6 := hOp5.at 6 rfl
      have hsz6 : W3.heap.size ≤ W6.heap.size := by have := hBn.size; omega
      clear hOp5 hR5 hO5 HB5 hN hBn
      go_wp2_with (at_builtin; refine wpList_append_own _ rfl _ _ 59 rfl W3.heap.size 49 i0 _ 7 56 Try.underlying59 hi hz0 hz1 hz2 rfl (by decide) _ _ _ rfl hown6 ⟨w5.heap.size, 0, none⟩ 1 1 [Value.int IntKind.i64 o1, Value.int IntKind.i64 o2, Value.int IntKind.i64 o3, Value.int IntKind.i64 o4, Value.int IntKind.i64 o5, Value.int IntKind.i64 o6, Value.int IntKind.i64 o7] rfl rfl ?c1 ?c2 ?c3 ?c4 ?c5 ?_)
      case c1 => intro j u hj; first | exact HN.out.at j hj | (rw [Addr.add_mid, Nat.zero_add]; exact HN.out.at j hj)
      case c2 => first | exact ⟨rfl, rfl, rfl, rfl, rfl, rfl, rfl⟩ | exact opC_one (o1, o2, (o3, o4, o5), o6, o7)
      case c3 => unfold maxLen; omega
      case c4 => omega
      case c5 => omega
      intro v7 w7 hown' hgrow _
      obtain ⟨Mn, hMn⟩ : ∃ Mn, Mn = m ++ [(o1, o2, (o3, o4, o5), o6, o7)] := ⟨_, rfl⟩
      have hO7 : OwnE opC 7 49 w7 W3.heap.size v7 Mn := by
        show World.ownsRow _ _ _ _ _ _ _
        rw [hMn]
        simpa [opC] using hown'
      have hgb : ∀ g, (Value.slice a4 m.length c4).ownBlock = some g → W3.heap.size ≤ g := fun g hg => (hown6.lt g hg).1
      have hR7 := hR6.grown hgrow (by intro e; have := hgb _ e.symm; omega)
      have HB7 : Hid (Below w.heap.size w w7) := HB6.out.grown hgrow (by omega) (fun g hg => by have := hgb g hg; omega)
      have hlen7 : Mn.length ≤ maxLen := by rw [hMn]; simp; unfold maxLen; omega
      have HMN : Hid (Mn = m ++ [(o1, o2, (o3, o4, o5), o6, o7)]) := hMn
      have hsz7 : w.heap.size + 3 ≤ w7.heap.size := by have := hgrow.size; omega
      obtain ⟨a7, c7, rfl, hP7, hc7⟩ := hO7.val
      clear hMn hown' hown6 hgrow hgb hR6 HB6 hO7 m0 m1 m2 m3 m4 m5 m6 hW6 HN
      go_wp2_with fail
      refine (fold_any w7 a7 c7 Mn hlen7 hc7 hP7).mono ?_
      rintro e w8 ⟨vL, vT, rfl, hL8, hT8, hb8⟩
      have hR8 := hR7.keep hb8
      have HB8 : Hid (Below w.heap.size w w8) := HB7.out.trans (hb8.mono HB7.out.size)
      have hL9 := hL8.mono (base' := w.heap.size + 3) hsz7
      have hT9 := hT8.mono (base' := w.heap.size + 3) hsz7
      obtain ⟨aT, cT, rfl⟩ := hT9.val
      obtain ⟨aL, cL, rfl, _, _⟩ := hL9.val
      have r0 := hR8.at 0 rfl
      have r1 := hR8.at 1 rfl
      have rf := hR8.frz
      clear hL8 hT8 hP7 hR7 HB7 hb8
      go_wp2
      have hRf := hR8.sets [Value.slice aL (foldL Mn).length cL, Value.slice aT (foldT Mn).length cT] rfl
      refine ret_cell_tmp Try.results30 rfl rfl (hRf.load Try.underlying62 rfl sizeHist) ?_
      rw [HQ.out.1, HQ.out.2.1, HQ.out.2.2, ← HMN.out]
      have e1 := (OwnE.others (w.heap.size + 1 + 1) (by omega) [Value.slice aL (foldL Mn).length cL, Value.slice aT (foldT Mn).length cT] 0 w8 hL9).mono (base' := w.heap.size) (by omega)
      have e2 := (OwnS.others (w.heap.size + 1 + 1) (by omega) [Value.slice aL (foldL Mn).length cL, Value.slice aT (foldT Mn).length cT] 0 w8 hT9).mono (base' := w.heap.size) (by omega)
      exact ⟨_, _, rfl, e1, e2, below_sets HB8.out (w.heap.size + 1 + 1) (by omega) [Value.slice aL (foldL Mn).length cL, Value.slice aT (foldT Mn).length cT] 0⟩
    · have HE : Hid (insE l t (o1, o2, (o3, o4, o5), o6, o7) = 6) := HG1.out hq
      have r0 := hR5.at 0 rfl
      have r1 := hR5.at 1 rfl
      have rf := hR5.frz
      clear HG1 HG2 hq HE5
      go_wp2
      have hRf := hR5.sets [Value.slice none 0 0, Value.slice none 0 0] rfl
      refine ret_cell_tmp Try.results30 rfl rfl (hRf.load Try.underlying62 rfl sizeHist) ?_
      have hzz := ins_err (l := l) (t := t) (o := (o1, o2, (o3, o4, o5), o6, o7)) (by rw [HE.out]; decide)
      rw [HE.out]
      exact folds_err hzz.1 hzz.2 (below_sets HB5.out (w.heap.size + 1 + 1) (by omega) [Value.slice none 0 0, Value.slice none 0 0] 0)
  · have HE : Hid (insE l t (o1, o2, (o3, o4, o5), o6, o7) = E) := HBAD.out hz
    have HZ : Hid (E ≠ 0) := hz
    have hz' : (E != 0) = true := by simpa using hz
    have r0 := hR3.at 0 rfl
    have r1 := hR3.at 1 rfl
    have rf := hR3.frz
    clear HBAD HGO HLEN hz
    go_wp2
    have hRf := hR3.sets [Value.slice none 0 0, Value.slice none 0 0] rfl
    refine ret_cell_tmp Try.results30 rfl rfl (hRf.load Try.underlying62 rfl sizeHist) ?_
    have hzz := ins_err (l := l) (t := t) (o := (o1, o2, (o3, o4, o5), o6, o7)) (by rw [HE.out]; exact HZ.out)
    rw [HE.out]
    exact folds_err hzz.1 hzz.2 (below_sets HB3.out (w.heap.size + 1 + 1) (by omega) [Value.slice none 0 0, Value.slice none 0 0] 0)
end Go.Proofs.Ytphameoibnimmaa
