/- 5 texts of the proof: history.Insert. slices.Grow of nothing, slices.Concat at places. view.split: what is known, and the way up, each in new memory. view.Of. Hubs, histories and views that lie in given blocks; what a call with a result and an error leaves. -/
import Derived.Lib.AppendZerosOnto
import Derived.Laws.AppendOwnNone
import Derived.Maps.AppendAt
import Derived.Deep.RegionHeld3
import Derived.Deep.DeepCutAuto
import Derived.Test.YthlhnokgcnieeadGreatDoorP09
import Derived.Test.YthlhnokgcnieeadGreatDoorP07
import Derived.Test.YthlhnokgcnieeadGreatDoorP03
import Derived.Test.YthlhnokgcnieeadGreatDoorP05
import Derived.Test.YthlhnokgcnieeadGreatDoorP04
/- history.Insert. -/
namespace Go.Proofs.YthlhnokgcnieeadGreatDoor
open Go.ChangeShapes Go.WideShapes Go.ChangeAt Go.RowKit
open Orangery (Pl Mv Stp check checkOp foldE foldL foldT histE hasM thereB insE insL insT orI)

theorem there_has {l : List Stp} {m : List Mv} (hm : l.map (·.1) = m) (o : Mv) : thereB l o = hasM m o.1 o.2.1 := by
  subst hm
  rw [Bool.eq_iff_iff, Orangery.hasM_iff]
  unfold thereB
  rw [List.any_eq_true]
  constructor
  · rintro ⟨s, hs, h⟩
    simp at h
    exact ⟨s.1, List.mem_map.2 ⟨s, hs, rfl⟩, h⟩
  · rintro ⟨x, hx, h⟩
    obtain ⟨s, hs, rfl⟩ := List.mem_map.1 hx
    exact ⟨s, hs, by simp [h]⟩
theorem ins_err {l : List Stp} {t : List Pl} {o : Mv} (h : insE l t o ≠ 0) : insL l t o = [] ∧ insT l t o = [] := by
  unfold insL insT
  rw [if_pos h, if_pos h]
  exact ⟨rfl, rfl⟩
theorem insE_or {l : List Stp} {t : List Pl} {o : Mv} (h : orI (histE l t) (checkOp o) ≠ 0) : insE l t o = orI (histE l t) (checkOp o) := by
  unfold insE
  unfold orI at h ⊢
  by_cases h1 : histE l t = 0
  · rw [if_neg (by simp [h1])] at h
    rw [if_neg (by simp [h1]), if_pos h, if_neg (by simp [h1])]
  · rw [if_pos h1, if_pos h1]
theorem or_zero {x y : Int} (h : orI x y = 0) : x = 0 ∧ y = 0 := by
  unfold orI at h
  split at h
  · contradiction
  · rename_i hx; exact ⟨by simpa using hx, h⟩
theorem insE_go {l : List Stp} {t : List Pl} {o : Mv} {m : List Mv} (hm : l.map (·.1) = m) (h : orI (histE l t) (checkOp o) = 0) :
    (hasM m o.1 o.2.1 = true → insE l t o = 6) ∧ (hasM m o.1 o.2.1 = false → insE l t o = foldE (m ++ [o]) ∧ insL l t o = foldL (m ++ [o]) ∧ insT l t o = foldT (m ++ [o])) := by
  obtain ⟨h1, h2⟩ := or_zero h
  have ht := there_has hm o
  constructor
  · intro hh
    unfold insE
    rw [if_neg (by simp [h1]), if_neg (by simp [h2]), if_pos (by rw [ht]; exact hh)]
  · intro hh
    have e : insE l t o = foldE (m ++ [o]) := by
      unfold insE
      rw [if_neg (by simp [h1]), if_neg (by simp [h2]), if_neg (by rw [ht, hh]; simp), hm]
    refine ⟨e, ?_, ?_⟩
    · unfold insL
      rw [e, hm]
      by_cases hz : foldE (m ++ [o]) = 0
      · rw [if_neg (by simp [hz])]
      · rw [if_pos hz, (Orangery.fold_err hz).1]
    · unfold insT
      rw [e, hm]
      by_cases hz : foldE (m ++ [o]) = 0
      · rw [if_neg (by simp [hz])]
      · rw [if_pos hz, (Orangery.fold_err hz).2]
theorem hist_len {l : List Stp} {t : List Pl} (h : histE l t = 0) : l.length ≤ 30 := by
  have h1 : foldE (l.map (·.1)) = 0 := by
    unfold histE at h
    split at h
    · contradiction
    · rename_i hx; simpa using hx
  have := ((Orangery.foldE_zero _).1 h1).1
  simpa using this

set_option maxHeartbeats 2000000 in
set_option maxRecDepth 100000 in
theorem insert_any (w : World) (a p : Option Addr) (c d : Nat) (l : List Stp) (t : List Pl) (o : Mv) (hl : l.length * 88 ≤ 140737488351232) (ht : t.length ≤ maxLen) (h1 : SlE stC w a l) (h3 : SlP w p t) :
    Calls Tryz.prog 63 #[hiV (.slice a l.length c) (.slice p t.length d), opV o] w fun e w' => Folds w (insL l t o) (insT l t o) (insE l t o) e w' := by
  obtain ⟨i0, hi, hz0, hz1, hz2⟩ := info_parts infoOp
  obtain ⟨m, hm⟩ : ∃ m, l.map (·.1) = m := ⟨_, rfl⟩
  have HBAD : Hid (orI (histE l t) (checkOp o) ≠ 0 → insE l t o = orI (histE l t) (checkOp o)) := insE_or
  have HGO : Hid (orI (histE l t) (checkOp o) = 0 → (hasM m o.1 o.2.1 = true → insE l t o = 6) ∧ (hasM m o.1 o.2.1 = false → insE l t o = foldE (m ++ [o]) ∧ insL l t o = foldL (m ++ [o]) ∧ insT l t o = foldT (m ++ [o]))) := insE_go hm
  have HLEN : Hid (orI (histE l t) (checkOp o) = 0 → m.length ≤ 30) := fun h => by rw [← hm, List.length_map]; exact hist_len (or_zero h).1
  have HM : Hid (l.map (·.1) = m) := hm
  clear hm
  obtain ⟨o1, o2, ⟨o3, o4, o5⟩, o6, o7⟩ := o
  obtain ⟨W0, hW, hH, hO, hR, hB, hS⟩ := laid3 w [Value.slice a l.length c, Value.slice p t.length d] 28 [Value.int IntKind.i64 o1, Value.int IntKind.i64 o2, Value.int IntKind.i64 o3, Value.int IntKind.i64 o4, Value.int IntKind.i64 o5, Value.int IntKind.i64 o6, Value.int IntKind.i64 o7] 41 [Value.slice none 0 0, Value.slice none 0 0] 28
  have hP := h1.below hB
  have hT := h3.below hB
  have HS : Hid (W0.heap.size = w.heap.size + 3) := hS
  clear h1 h3 hS
  go_enter Tryz.func63, Tryz.ntmps63
  go_wp2_with fail
  clear hW
  have x0 := hH.at 0 rfl
  have x1 := hH.at 1 rfl
  have m0 := hO.at 0 rfl
  have m1 := hO.at 1 rfl
  have m2 := hO.at 2 rfl
  have m3 := hO.at 3 rfl
  have m4 := hO.at 4 rfl
  have m5 := hO.at 5 rfl
  have m6 := hO.at 6 rfl
  go_region_held3 (fun w' => w'.cell? ⟨w.heap.size, 0, none⟩ = some (.slice a l.length c) ∧ w'.cell? ⟨w.heap.size, 1, none⟩ = some (.slice p t.length d) ∧ w'.cell? ⟨w.heap.size + 1, 0, none⟩ = some (.int .i64 o1) ∧ w'.cell? ⟨w.heap.size + 1, 1, none⟩ = some (.int .i64 o2) ∧ w'.cell? ⟨w.heap.size + 1, 2, none⟩ = some (.int .i64 o3) ∧ w'.cell? ⟨w.heap.size + 1, 3, none⟩ = some (.int .i64 o4) ∧ w'.cell? ⟨w.heap.size + 1, 4, none⟩ = some (.int .i64 o5) ∧ w'.cell? ⟨w.heap.size + 1, 5, none⟩ = some (.int .i64 o6) ∧ w'.cell? ⟨w.heap.size + 1, 6, none⟩ = some (.int .i64 o7)) (go_keep)
    (first | (go_at_call 36; refine (hcheck_any _ a p c d l t hl ht ?_ ?_).mono ?_; exact hP.drew; exact hT; rintro e w1 ⟨rfl, hb1⟩; have hb1' : Below W0.heap.size W0 w1 := ((Below.refl _ W0).drew).trans hb1; have hH1 := hH.keep hb1'; have x10 := hH1.at 0 rfl; have x11 := hH1.at 1 rfl; have hO1 := hO.keep hb1'; have m10 := hO1.at 0 rfl; have m11 := hO1.at 1 rfl; have m12 := hO1.at 2 rfl; have m13 := hO1.at 3 rfl; have m14 := hO1.at 4 rfl; have m15 := hO1.at 5 rfl; have m16 := hO1.at 6 rfl) | (go_at_call 62; refine (moveCheck_any _ (o1, o2, (o3, o4, o5), o6, o7)).mono ?_; rintro e w2 ⟨rfl, hb2⟩; have hb2' := hb1'.trans (hb2.mono hb1'.size); have hH2 := hH.keep hb2'; have x20 := hH2.at 0 rfl; have x21 := hH2.at 1 rfl; have hO2 := hO.keep hb2'; have m20 := hO2.at 0 rfl; have m21 := hO2.at 1 rfl; have m22 := hO2.at 2 rfl; have m23 := hO2.at 3 rfl; have m24 := hO2.at 4 rfl; have m25 := hO2.at 5 rfl; have m26 := hO2.at 6 rfl) | (go_at_call 20; refine (orE_any _ _ _ (histE l t) (checkOp (o1, o2, (o3, o4, o5), o6, o7)) ?_ ?_).mono ?_; simp; simp; rintro e w3 ⟨rfl, rfl⟩))
  have hH3 := hH2.alloc (Obj.cells #[Value.int IntKind.i64 (histE l t), Value.int IntKind.i64 (checkOp (o1, o2, (o3, o4, o5), o6, o7))] 32)
  have hO3 := hO2.alloc (Obj.cells #[Value.int IntKind.i64 (histE l t), Value.int IntKind.i64 (checkOp (o1, o2, (o3, o4, o5), o6, o7))] 32)
  have hR3 := (hR.keep hb2').alloc (Obj.cells #[Value.int IntKind.i64 (histE l t), Value.int IntKind.i64 (checkOp (o1, o2, (o3, o4, o5), o6, o7))] 32)
  have hb3 : Below W0.heap.size W0 (w2.alloc (Obj.cells #[Value.int IntKind.i64 (histE l t), Value.int IntKind.i64 (checkOp (o1, o2, (o3, o4, o5), o6, o7))] 32)) := hb2'.alloc hb2'.size _
  have hP3 := hP.below hb3
  have hT3 := hT.below hb3
  have HB3 : Hid (Below w.heap.size w (w2.alloc (Obj.cells #[Value.int IntKind.i64 (histE l t), Value.int IntKind.i64 (checkOp (o1, o2, (o3, o4, o5), o6, o7))] 32))) := hB.trans (hb3.mono hB.size)
  have hsz3 := hb3.size
  rw [HS.out] at hsz3
  generalize w2.alloc (Obj.cells #[Value.int IntKind.i64 (histE l t), Value.int IntKind.i64 (checkOp (o1, o2, (o3, o4, o5), o6, o7))] 32) = W3 at *
  clear hH hO hR hB hP hT x0 x1 m0 m1 m2 m3 m4 m5 m6 x10 x11 m10 m11 m12 m13 m14 m15 m16 x20 x21 m20 m21 m22 m23 m24 m25 m26 hb1 hb1' hb2 hb2' hO1 hO2 hH1 hH2 hb3
  generalize orI (histE l t) (checkOp (o1, o2, (o3, o4, o5), o6, o7)) = E at *
  by_cases hz : E = 0
  · subst hz
    have HG := HGO.out rfl
    have hml := HLEN.out rfl
    have HG1 : Hid (hasM m o1 o2 = true → insE l t (o1, o2, (o3, o4, o5), o6, o7) = 6) := HG.1
    have HG2 : Hid (hasM m o1 o2 = false → insE l t (o1, o2, (o3, o4, o5), o6, o7) = foldE (m ++ [(o1, o2, (o3, o4, o5), o6, o7)]) ∧ insL l t (o1, o2, (o3, o4, o5), o6, o7) = foldL (m ++ [(o1, o2, (o3, o4, o5), o6, o7)]) ∧ insT l t (o1, o2, (o3, o4, o5), o6, o7) = foldT (m ++ [(o1, o2, (o3, o4, o5), o6, o7)])) := HG.2
    clear HG HGO HLEN HBAD
    have x0 := hH3.at 0 rfl
    have x1 := hH3.at 1 rfl
    go_wp2_with fail
    refine (hops_any W3 a c l (.slice p t.length d) hl hP3).mono ?_
    rintro e w4 ⟨v4, rfl, hO4, hb4⟩
    rw [HM.out] at hO4
    obtain ⟨a4, c4, rfl, hP4, hc4⟩ := hO4.val
    have hOp4 := hO3.keep hb4
    have hR4 := hR3.keep hb4
    have HB4 : Hid (Below w.heap.size w w4) := HB3.out.trans (hb4.mono HB3.out.size)
    have hsz4 : w.heap.size + 3 ≤ w4.heap.size := by have := hb4.size; omega
    have hsz34 := hb4.size
    clear hO3 hR3 hH3 hP3 hT3 HB3 hb4 x0 x1
    have m0 := hOp4.at 0 rfl
    have m1 := hOp4.at 1 rfl
    go_wp2_with fail
    refine (has_any w4 a4 c4 m o1 o2 (by unfold maxLen; omega) hP4).mono ?_
    rintro e w5 ⟨rfl, hb5⟩
    have hOp5 := hOp4.keep hb5
    have hR5 := hR4.keep hb5
    have hO5 := (hO4.keep hb5)
    have HB5 : Hid (Below w.heap.size w w5) := HB4.out.trans (hb5.mono HB4.out.size)
    have hsz5 : W3.heap.size ≤ w5.heap.size := by have := hb5.size; omega
    have HE5 : Hid (hasS m o1 o2 = hasM m o1 o2) := rfl
    rw [HE5.out]
    clear hOp4 hR4 hO4 hP4 HB4 hb5 m0 m1
    cases hq : hasM m o1 o2
    · obtain ⟨e1, e2, e3⟩ := HG2.out hq
      have HQ : Hid (insE l t (o1, o2, (o3, o4, o5), o6, o7) = foldE (m ++ [(o1, o2, (o3, o4, o5), o6, o7)]) ∧ insL l t (o1, o2, (o3, o4, o5), o6, o7) = foldL (m ++ [(o1, o2, (o3, o4, o5), o6, o7)]) ∧ insT l t (o1, o2, (o3, o4, o5), o6, o7) = foldT (m ++ [(o1, o2, (o3, o4, o5), o6, o7)])) := ⟨e1, e2, e3⟩
      clear e1 e2 e3 HG1 HG2 hq HE5
      obtain ⟨W6, hW6, hN, hBn, _⟩ := laid1 w5 [Value.int IntKind.i64 o1, Value.int IntKind.i64 o2, Value.int IntKind.i64 o3, Value.int IntKind.i64 o4, Value.int IntKind.i64 o5, Value.int IntKind.i64 o6, Value.int IntKind.i64 o7] 41
      have hR6 := hR5.keep hBn
      have hown6 : W6.ownsRow W3.heap.size 41 7 (.slice a4 m.length c4) m.length (m.flatMap opC) := hO5.keep hBn
      have HB6 : Hid (Below w.heap.size w W6) := HB5.out.trans (hBn.mono HB5.out.size)
      have HN : Hid (Blk W6 w5.heap.size [Value.int IntKind.i64 o1, Value.int IntKind.i64 o2, Value.int IntKind.i64 o3, Value.int IntKind.i64 o4, Value.int IntKind.i64 o5, Value.int IntKind.i64 o6, Value.int IntKind.i64 o7]) := hN
      have m0 := hOp5.at 0 rfl
      have m1 := hOp5.at 1 rfl
      have m2 := hOp5.at 2 rfl
      have m3 := hOp5.at 3 rfl
      have m4 := hOp5.at 4 rfl
      have m5 := hOp5.at 5 rfl
      have m6 := hOp5.at 6 rfl
      have hsz6 : W3.heap.size ≤ W6.heap.size := by have := hBn.size; omega
      clear hOp5 hR5 hO5 HB5 hN hBn
      go_wp2_with (at_builtin; refine wpList_append_own _ rfl _ _ 129 rfl W3.heap.size 41 i0 _ 7 56 Tryz.underlying129 hi hz0 hz1 hz2 rfl (by decide) _ _ _ rfl hown6 ⟨w5.heap.size, 0, none⟩ 1 1 [Value.int IntKind.i64 o1, Value.int IntKind.i64 o2, Value.int IntKind.i64 o3, Value.int IntKind.i64 o4, Value.int IntKind.i64 o5, Value.int IntKind.i64 o6, Value.int IntKind.i64 o7] rfl rfl ?c1 ?c2 ?c3 ?c4 ?c5 ?_)
      case c1 => intro j u hj; first | exact HN.out.at j hj | (rw [Addr.add_mid, Nat.zero_add]; exact HN.out.at j hj)
      case c2 => first | exact ⟨rfl, rfl, rfl, rfl, rfl, rfl, rfl⟩ | exact opC_one (o1, o2, (o3, o4, o5), o6, o7)
      case c3 => unfold maxLen; omega
      case c4 => omega
      case c5 => omega
      intro v7 w7 hown' hgrow _
      obtain ⟨Mn, hMn⟩ : ∃ Mn, Mn = m ++ [(o1, o2, (o3, o4, o5), o6, o7)] := ⟨_, rfl⟩
      have hO7 : OwnE opC 7 41 w7 W3.heap.size v7 Mn := by
        show World.ownsRow _ _ _ _ _ _ _
        rw [hMn]
        simpa [opC] using hown'
      have hgb : ∀ g, (Value.slice a4 m.length c4).ownBlock = some g → W3.heap.size ≤ g := fun g hg => (hown6.lt g hg).1
      have hR7 := hR6.grown hgrow (by intro e; have := hgb _ e.symm; omega)
      have HB7 : Hid (Below w.heap.size w w7) := HB6.out.grown hgrow (by omega) (fun g hg => by have := hgb g hg; omega)
      have hlen7 : Mn.length ≤ maxLen := by rw [hMn]; simp; unfold maxLen; omega
      have HMN : Hid (Mn = m ++ [(o1, o2, (o3, o4, o5), o6, o7)]) := hMn
      have hsz7 : w.heap.size + 3 ≤ w7.heap.size := by have := hgrow.size; omega
      obtain ⟨a7, c7, rfl, hP7, hc7⟩ := hO7.val
      clear hMn hown' hown6 hgrow hgb hR6 HB6 hO7 m0 m1 m2 m3 m4 m5 m6 hW6 HN
      go_wp2_with fail
      refine (fold_any w7 a7 c7 Mn hlen7 hc7 hP7).mono ?_
      rintro e w8 ⟨vL, vT, rfl, hL8, hT8, hb8⟩
      have hR8 := hR7.keep hb8
      have HB8 : Hid (Below w.heap.size w w8) := HB7.out.trans (hb8.mono HB7.out.size)
      have hL9 := hL8.mono (base' := w.heap.size + 3) hsz7
      have hT9 := hT8.mono (base' := w.heap.size + 3) hsz7
      obtain ⟨aT, cT, rfl⟩ := hT9.val
      obtain ⟨aL, cL, rfl, _, _⟩ := hL9.val
      have r0 := hR8.at 0 rfl
      have r1 := hR8.at 1 rfl
      have rf := hR8.frz
      clear hL8 hT8 hP7 hR7 HB7 hb8
      go_wp2
      have hRf := hR8.sets [Value.slice aL (foldL Mn).length cL, Value.slice aT (foldT Mn).length cT] rfl
      refine ret_cell_tmp Tryz.results63 rfl rfl (hRf.load Tryz.underlying28 rfl sizeHist) ?_
      rw [HQ.out.1, HQ.out.2.1, HQ.out.2.2, ← HMN.out]
      have e1 := (OwnE.others (w.heap.size + 1 + 1) (by omega) [Value.slice aL (foldL Mn).length cL, Value.slice aT (foldT Mn).length cT] 0 w8 hL9).mono (base' := w.heap.size) (by omega)
      have e2 := (OwnS.others (w.heap.size + 1 + 1) (by omega) [Value.slice aL (foldL Mn).length cL, Value.slice aT (foldT Mn).length cT] 0 w8 hT9).mono (base' := w.heap.size) (by omega)
      exact ⟨_, _, rfl, e1, e2, below_sets HB8.out (w.heap.size + 1 + 1) (by omega) [Value.slice aL (foldL Mn).length cL, Value.slice aT (foldT Mn).length cT] 0⟩
    · have HE : Hid (insE l t (o1, o2, (o3, o4, o5), o6, o7) = 6) := HG1.out hq
      have r0 := hR5.at 0 rfl
      have r1 := hR5.at 1 rfl
      have rf := hR5.frz
      clear HG1 HG2 hq HE5
      go_wp2
      have hRf := hR5.sets [Value.slice none 0 0, Value.slice none 0 0] rfl
      refine ret_cell_tmp Tryz.results63 rfl rfl (hRf.load Tryz.underlying28 rfl sizeHist) ?_
      have hzz := ins_err (l := l) (t := t) (o := (o1, o2, (o3, o4, o5), o6, o7)) (by rw [HE.out]; decide)
      rw [HE.out]
      exact folds_err hzz.1 hzz.2 (below_sets HB5.out (w.heap.size + 1 + 1) (by omega) [Value.slice none 0 0, Value.slice none 0 0] 0)
  · have HE : Hid (insE l t (o1, o2, (o3, o4, o5), o6, o7) = E) := HBAD.out hz
    have HZ : Hid (E ≠ 0) := hz
    have hz' : (E != 0) = true := by simpa using hz
    have r0 := hR3.at 0 rfl
    have r1 := hR3.at 1 rfl
    have rf := hR3.frz
    clear HBAD HGO HLEN hz
    go_wp2
    have hRf := hR3.sets [Value.slice none 0 0, Value.slice none 0 0] rfl
    refine ret_cell_tmp Tryz.results63 rfl rfl (hRf.load Tryz.underlying28 rfl sizeHist) ?_
    have hzz := ins_err (l := l) (t := t) (o := (o1, o2, (o3, o4, o5), o6, o7)) (by rw [HE.out]; exact HZ.out)
    rw [HE.out]
    exact folds_err hzz.1 hzz.2 (below_sets HB3.out (w.heap.size + 1 + 1) (by omega) [Value.slice none 0 0, Value.slice none 0 0] 0)
end Go.Proofs.YthlhnokgcnieeadGreatDoor

/- slices.Grow of nothing, slices.Concat at places. -/
namespace Go.Proofs.YthlhnokgcnieeadGreatDoor
open Go.ChangeShapes Go.WideShapes Go.ChangeAt Go.RowKit
open Orangery (Pl)

theorem encPl_one (p : Pl) : ∀ v ∈ encPl p, v.oneCell' = true := by
  intro v hv
  simp [encPl] at hv
  rcases hv with rfl | rfl | rfl <;> rfl
theorem encPl_len (x : Pl) : (encPl x).length = 3 := rfl
/-- one slice behind another one of the call's own -/
theorem SlP.news {w : World} {ad : Addr} {l : List Pl} (h : SlP w (some ad) l) : ∀ j u, (l.flatMap encPl)[j]? = some u → w.cell? (ad.add j) = some u := by
  intro j u hj
  rcases h with rfl | ⟨b, off, ha, _, hp⟩
  · simp at hj
  · simp at ha
    subst ha
    exact pls_flat hp j u hj
theorem SlP.none_nil {w : World} {l : List Pl} (h : SlP w none l) : l = [] := by
  rcases h with rfl | ⟨b, off, h, _⟩
  · rfl
  · simp at h

end Go.Proofs.YthlhnokgcnieeadGreatDoor

/- view.split: what is known, and the way up, each in new memory. -/
namespace Go.Proofs.YthlhnokgcnieeadGreatDoor
open Go.ChangeShapes Go.WideShapes Go.ChangeAt Go.RowKit
open Orangery (Pl rootsOk knB abB wyB viewK viewW)

/-- two slices of places of the call's own, in rows apart -/
def Two (W : World) (base : Nat) (v u : Value) (K V : List Pl) : Prop :=
  OwnE encPl 3 93 W base v K ∧ OwnE encPl 3 93 W base u V ∧ (v.ownBlock = none ∨ v.ownBlock ≠ u.ownBlock)

theorem Two.swap {W : World} {base : Nat} {v u : Value} {K V : List Pl} (h : Two W base v u K V) : Two W base u v V K := by
  obtain ⟨h1, h2, h3⟩ := h
  refine ⟨h2, h1, ?_⟩
  rcases h3 with h3 | h3
  · rw [h3]
    cases u.ownBlock with
    | none => exact Or.inl rfl
    | some g => exact Or.inr (by simp)
  · exact Or.inr (fun e => h3 e.symm)
theorem Two.nil (W : World) (base : Nat) : Two W base (.slice none 0 0) (.slice none 0 0) [] [] := ⟨OwnE.nil _ _, OwnE.nil _ _, Or.inl rfl⟩
theorem Two.keep {W W' : World} {base : Nat} {v u : Value} {K V : List Pl} (h : Two W base v u K V) (hb : Below W.heap.size W W') : Two W' base v u K V := ⟨h.1.keep hb, h.2.1.keep hb, h.2.2⟩
theorem Two.other {W : World} {base : Nat} {v u : Value} {K V : List Pl} (h : Two W base v u K V) (g : Nat) (hg : g < base) (j : Nat) (x : Value) : Two (W.setCell ⟨g, j, none⟩ x) base v u K V := ⟨h.1.other g hg j x, h.2.1.other g hg j x, h.2.2⟩
theorem Two.mono {W : World} {base base' : Nat} {v u : Value} {K V : List Pl} (h : Two W base v u K V) (hb : base' ≤ base) : Two W base' v u K V := ⟨h.1.mono hb, h.2.1.mono hb, h.2.2⟩
theorem Two.others {base : Nat} {v u : Value} {K V : List Pl} (g : Nat) (hg : g < base) (us : List Value) (o : Nat) (W : World) (h : Two W base v u K V) : Two (W.setCells g o us) base v u K V := ⟨OwnE.others g hg us o W h.1, OwnE.others g hg us o W h.2.1, h.2.2⟩
/-- behind an append to the one -/
theorem Two.grew {W W' : World} {base : Nat} {v u v' : Value} {K K' V : List Pl} (h : Two W base v u K V) (hown : OwnE encPl 3 93 W' base v' K') (hg : W.grownBy W' v.ownBlock) (hat : v'.ownBlock = v.ownBlock ∨ v'.ownBlock = some W.heap.size) : Two W' base v' u K' V := by
  have hs := h.swap
  obtain ⟨h1, h2, h3⟩ := h
  refine ⟨hown, World.ownsRow.kept h2 hg hs.2.2, ?_⟩
  rcases hat with e | e
  · rw [e]; exact h3
  · right
    rw [e]
    intro e2
    have := (World.ownsRow.lt h2 W.heap.size e2.symm).2
    omega

theorem sizeParts : (Tryz.prog.info? 125).map (·.size) = some 2 := by kernel_rfl

set_option maxHeartbeats 2000000 in
set_option maxRecDepth 100000 in
theorem split_any (w : World) (a a' : Option Addr) (c c' : Nat) (l : List Pl) (R : List Int) (hl : l.length ≤ 1000) (hR : R.length ≤ 1000) (h : SlP w a l) (h' : SlI w a' R) :
    Calls Tryz.prog 59 #[.agg #[.slice a l.length c], .slice a' R.length c'] w
      fun e w' => ∃ v u, e = .returned (.agg #[v, u]) ∧ Two w' w.heap.size v u (viewK l R) (viewW l R) ∧ Below w.heap.size w w' := by
  obtain ⟨i0, hi, hz0, hz1, hz2⟩ := info_parts infoPlace
  obtain ⟨W0, hW, hT, hQ, hO, hS, hB, hsz⟩ := laid4 w [Value.slice a l.length c] 26 [Value.slice a' R.length c'] 37 [Value.slice none 0 0, Value.slice none 0 0] 125 [Value.slice none 0 0, Value.slice none 0 0] 125
  have t0 := hT.at 0 rfl
  go_enter Tryz.func59, Tryz.ntmps59
  go_wp2
  clear hW t0
  have HP : Hid (SlP w a l) := h
  have HI : Hid (SlI w a' R) := h'
  have HS : Hid (Blk W0 (w.heap.size + 1 + 1 + 1) [Value.slice none 0 0, Value.slice none 0 0]) := hS
  have HO : Hid (Blk W0 (w.heap.size + 1 + 1) [Value.slice none 0 0, Value.slice none 0 0]) := hO
  have HB : Hid (Below w.heap.size w W0) := hB
  have HT : Hid (Blk W0 w.heap.size [Value.slice a l.length c]) := hT
  have HQ : Hid (Blk W0 (w.heap.size + 1) [Value.slice a' R.length c']) := hQ
  have hl' : l.length ≤ maxLen := by unfold maxLen; omega
  have hR' : R.length ≤ maxLen := by unfold maxLen; omega
  clear h h' hS hO hB hT hQ
  go_loopw [15] (fun i W => ∃ (k : Nat) (v u : Value), k ≤ l.length ∧ i = .int .i64 k ∧ Blk W (w.heap.size + 1 + 1 + 1) [v, u] ∧ Two W (w.heap.size + 4) v u ((l.take k).filter fun p => knB l R p.1) ((l.take k).filter fun p => wyB l R p.1) ∧ Below (w.heap.size + 3) W0 W) (fun i _ => l.length - (intOf i).toNat)
  case atStart => exact ⟨0, _, _, Nat.zero_le _, rfl, HS.out, Two.nil _ _, Below.refl _ _⟩
  case round =>
    obtain ⟨k, v, u, hk, rfl, hblk, htwo, hb⟩ := hrel
    have hge : w.heap.size + 4 ≤ wr.heap.size := by have := hb.size; omega
    have HBw : Hid (Below w.heap.size w wr) := HB.out.trans (hb.mono (by omega))
    by_cases hlt : k < l.length
    · have hPW : SlP wr a l := HP.out.below HBw.out
      have hIW : SlI wr a' R := HI.out.below HBw.out
      rcases hPW with h9 | ⟨b, off, rfl, hbl, hp⟩
      · exact absurd hlt (by simp [h9])
      obtain ⟨g0, g1, g2⟩ := hp k hlt
      have HK1 : Hid ((l.take (k + 1)).filter (fun p => knB l R p.1) = (l.take k).filter (fun p => knB l R p.1) ++ if knB l R l[k].1 = true then [l[k]] else []) := Orangery.viewK_take l R k hlt
      have HW1 : Hid ((l.take (k + 1)).filter (fun p => wyB l R p.1) = (l.take k).filter (fun p => wyB l R p.1) ++ if wyB l R l[k].1 = true then [l[k]] else []) := Orangery.viewW_take l R k hlt
      have hkl : ((l.take k).filter fun p => knB l R p.1).length ≤ 1000 := Nat.le_trans (List.length_filter_le _ _) (by simp; omega)
      have hwl : ((l.take k).filter fun p => wyB l R p.1).length ≤ 1000 := Nat.le_trans (List.length_filter_le _ _) (by simp; omega)
      generalize l[k] = q at *
      obtain ⟨q0, q1, q2⟩ := q
      simp only at g0 g1 g2 HK1 HW1
      generalize (l.take k).filter (fun p => knB l R p.1) = K at *
      generalize (l.take k).filter (fun p => wyB l R p.1) = V at *
      obtain ⟨W1, hW1, hN, hBn, hS1⟩ := laid1 wr [Value.int IntKind.i64 q0, Value.int IntKind.i64 q1, Value.int IntKind.i64 q2] 93
      have n0 := hN.at 0 rfl
      have HP1 : Hid (SlP W1 (some ⟨b, off, none⟩) l) := (HP.out.below HBw.out).below hBn
      have HI1 : Hid (SlI W1 a' R) := hIW.below hBn
      have HT1 : Hid (Blk W1 w.heap.size [Value.slice (some ⟨b, off, none⟩) l.length c]) := (HT.out.below hb (by omega)).keep hBn
      have HQ1 : Hid (Blk W1 (w.heap.size + 1) [Value.slice a' R.length c']) := (HQ.out.below hb (by omega)).keep hBn
      have HN1 : Hid (Blk W1 wr.heap.size [Value.int IntKind.i64 q0, Value.int IntKind.i64 q1, Value.int IntKind.i64 q2]) := hN
      have HX1 : Hid (Blk W1 (w.heap.size + 1 + 1 + 1) [v, u]) := hblk.keep hBn
      have HT2 : Hid (Two W1 (w.heap.size + 4) v u K V) := htwo.keep hBn
      have HB1 : Hid (Below (w.heap.size + 3) W0 W1) := hb.trans (hBn.mono (by omega))
      clear hp hIW hN hblk htwo hb hBn HBw
      go_wp2_with fail
      clear hW1 g0 g1 g2 n0
      refine (vsplit1_any W1 q0 (w.heap.size + 1) w.heap.size (some ⟨b, off, none⟩) a' c c' l R hl' hR' HP1.out HI1.out (HT1.out.lt) (HT1.out.at 0 rfl) (HQ1.out.at 0 rfl)).mono ?_
      rintro e w2 ⟨rfl, hb2⟩
      have hsz2 : w.heap.size + 5 ≤ w2.heap.size := by have := hb2.size; omega
      have hlt2 : wr.heap.size < w2.heap.size := by have := hb2.size; omega
      cases hkn : knB l R q0
      · have HKE : Hid ((l.take (k + 1)).filter (fun p => knB l R p.1) = K) := by show _ = _; rw [HK1.out, hkn]; simp
        have n0 := (HN1.out.keep hb2).at 0 rfl
        have HN2 : Hid (Blk w2 wr.heap.size [Value.int IntKind.i64 q0, Value.int IntKind.i64 q1, Value.int IntKind.i64 q2]) := HN1.out.keep hb2
        have HX2 : Hid (Blk w2 (w.heap.size + 1 + 1 + 1) [v, u]) := HX1.out.keep hb2
        have HT3 : Hid (Two w2 (w.heap.size + 4) v u K V) := HT2.out.keep hb2
        have HB2 : Hid (Below (w.heap.size + 3) W0 w2) := HB1.out.trans (hb2.mono (by omega))
        have HC2 : Hid (Calls Tryz.prog 75 #[.int .i64 q0, .pointer (some ⟨w.heap.size + 1, 0, none⟩), .pointer (some ⟨w.heap.size, 0, none⟩)] w2 fun e w' => e = .returned (.bool (abB l R q0)) ∧ Below w2.heap.size w2 w') :=
          vsplit2_any w2 q0 (w.heap.size + 1) w.heap.size (some ⟨b, off, none⟩) a' c c' l R hl' hR' (HP1.out.below hb2) (HI1.out.below hb2) (HT1.out.keep hb2).lt ((HT1.out.keep hb2).at 0 rfl) ((HQ1.out.keep hb2).at 0 rfl)
        have HWE : Hid (wyB l R q0 = abB l R q0) := by show _ = _; rw [Orangery.wy_ab, hkn]; rfl
        clear HK1 HN1 HX1 HT2 HB1 hb2 HP1 HI1 HT1 HQ1 hkn
        go_wp2_with fail
        refine HC2.out.mono ?_
        rintro e w3 ⟨rfl, hb3⟩
        have hsz3 : w.heap.size + 5 ≤ w3.heap.size := by have := hb3.size; omega
        have hlt3 : wr.heap.size < w3.heap.size := by have := hb3.size; omega
        clear HC2 n0
        have hN3 := HN2.out.keep hb3
        have hX3 := HX2.out.keep hb3
        have HT4 : Hid (Two w3 (w.heap.size + 4) v u K V) := HT3.out.keep hb3
        have HB3 : Hid (Below (w.heap.size + 3) W0 w3) := HB2.out.trans (hb3.mono (by omega))
        clear HN2 HX2 HT3 HB2 hb3
        cases hab : abB l R q0
        · have HVE : Hid ((l.take (k + 1)).filter (fun p => wyB l R p.1) = V) := by show _ = _; rw [HW1.out, HWE.out, hab]; simp
          clear hab HWE
          go_wp2
          go_roundw
          case rel => exact ⟨k + 1, v, u, hlt, by go_num, hX3, by rw [HKE.out, HVE.out]; exact HT4.out, HB3.out⟩
          case measure => simp [intOf]; omega
        · have HVE : Hid ((l.take (k + 1)).filter (fun p => wyB l R p.1) = V ++ [(q0, q1, q2)]) := by show _ = _; rw [HW1.out, HWE.out, hab]; simp
          clear hab HWE
          obtain ⟨WW, hWW, hZ, hBz, hSz⟩ := laid1 w3 [Value.int IntKind.i64 q0, Value.int IntKind.i64 q1, Value.int IntKind.i64 q2] 93
          have m0 := hN3.at 0 rfl
          have m1 := hN3.at 1 rfl
          have m2 := hN3.at 2 rfl
          have x1 := hX3.at 1 rfl
          have HTZ : Hid (Two WW (w.heap.size + 4) v u K V) := HT4.out.keep hBz
          have hown : WW.ownsRow (w.heap.size + 4) 93 3 u V.length (V.flatMap encPl) := HTZ.out.2.1
          have HXZ : Hid (Blk WW (w.heap.size + 1 + 1 + 1) [v, u]) := hX3.keep hBz
          have HBZ : Hid (Below (w.heap.size + 3) W0 WW) := HB3.out.trans (hBz.mono (by omega))
          have HZ : Hid (Blk WW w3.heap.size [Value.int IntKind.i64 q0, Value.int IntKind.i64 q1, Value.int IntKind.i64 q2]) := hZ
          clear hN3 hX3 HT4 HB3 hBz hZ
          go_wp2_with (at_builtin; refine wpList_append_own_at _ rfl _ _ 24 rfl (w.heap.size + 4) 93 i0 _ 3 24 Tryz.underlying24 hi hz0 hz1 hz2 rfl (by decide) _ _ _ rfl hown ⟨w3.heap.size, 0, none⟩ 1 1 [.int .i64 q0, .int .i64 q1, .int .i64 q2] rfl rfl ?c1 ?c2 ?c3 ?c4 ?c5 ?_)
          case c1 => intro j y hj; rw [Addr.add_mid, Nat.zero_add]; exact HZ.out.at j hj
          case c2 => exact encPl_one (q0, q1, q2)
          case c3 => unfold maxLen; omega
          case c4 => omega
          case c5 => omega
          intro u' w4 hown' hgrow _ hat
          rw [← hSz] at hat
          have hlo : ∀ g, u.ownBlock = some g → w.heap.size + 4 ≤ g := fun g hg => (World.ownsRow.lt hown g hg).1
          have hO' : OwnE encPl 3 93 w4 (w.heap.size + 4) u' (V ++ [(q0, q1, q2)]) := by simpa [OwnE, encPl] using hown'
          obtain ⟨a4, c4, rfl, _⟩ := hO'.val
          rw [List.length_append, List.length_singleton] at hO' hat
          have HTW : Hid (Two w4 (w.heap.size + 4) v (.slice a4 (V.length + 1) c4) K (V ++ [(q0, q1, q2)])) := (HTZ.out.swap.grew hO' hgrow hat).swap
          have hX4 := HXZ.out.grown hgrow (fun e => by have := hlo _ e.symm; omega)
          have HB4 : Hid (Below (w.heap.size + 3) W0 w4) := HBZ.out.grown hgrow (by omega) (fun g hg => by have := hlo g hg; omega)
          have y1 := hX4.at 1 rfl
          have yf := hX4.frz
          have HX4 : Hid (Blk w4 (w.heap.size + 1 + 1 + 1) [v, u]) := hX4
          clear hown hown' hgrow hat hO' hlo hSz HTZ HXZ HBZ HZ hX4 hWW m0 m1 m2 x1
          go_wp2
          go_roundw
          case rel => exact ⟨k + 1, v, _, hlt, by go_num, HX4.out.set 1 (by simp) (.slice a4 (V.length + 1) c4), by rw [HKE.out, HVE.out]; exact HTW.out.other _ (by omega) _ _, HB4.out.setCell (by show _ ≤ w.heap.size + 1 + 1 + 1; omega) _⟩
          case measure => simp [intOf]; omega
      · have HKE : Hid ((l.take (k + 1)).filter (fun p => knB l R p.1) = K ++ [(q0, q1, q2)]) := by show _ = _; rw [HK1.out, hkn]; simp
        have HVE : Hid ((l.take (k + 1)).filter (fun p => wyB l R p.1) = V) := by show _ = _; rw [HW1.out, Orangery.wy_ab, hkn]; simp
        have hN3 := HN1.out.keep hb2
        have hX3 := HX1.out.keep hb2
        have HT4 : Hid (Two w2 (w.heap.size + 4) v u K V) := HT2.out.keep hb2
        have HB3 : Hid (Below (w.heap.size + 3) W0 w2) := HB1.out.trans (hb2.mono (by omega))
        clear HK1 HN1 HX1 HT2 HB1 hb2 HP1 HI1 HT1 HQ1 hkn HW1
        obtain ⟨WW, hWW, hZ, hBz, hSz⟩ := laid1 w2 [Value.int IntKind.i64 q0, Value.int IntKind.i64 q1, Value.int IntKind.i64 q2] 93
        have m0 := hN3.at 0 rfl
        have m1 := hN3.at 1 rfl
        have m2 := hN3.at 2 rfl
        have x1 := hX3.at 0 rfl
        have HTZ : Hid (Two WW (w.heap.size + 4) v u K V) := HT4.out.keep hBz
        have hown : WW.ownsRow (w.heap.size + 4) 93 3 v K.length (K.flatMap encPl) := HTZ.out.1
        have HXZ : Hid (Blk WW (w.heap.size + 1 + 1 + 1) [v, u]) := hX3.keep hBz
        have HBZ : Hid (Below (w.heap.size + 3) W0 WW) := HB3.out.trans (hBz.mono (by omega))
        have HZ : Hid (Blk WW w2.heap.size [Value.int IntKind.i64 q0, Value.int IntKind.i64 q1, Value.int IntKind.i64 q2]) := hZ
        clear hN3 hX3 HT4 HB3 hBz hZ
        go_wp2_with (at_builtin; refine wpList_append_own_at _ rfl _ _ 24 rfl (w.heap.size + 4) 93 i0 _ 3 24 Tryz.underlying24 hi hz0 hz1 hz2 rfl (by decide) _ _ _ rfl hown ⟨w2.heap.size, 0, none⟩ 1 1 [.int .i64 q0, .int .i64 q1, .int .i64 q2] rfl rfl ?c1 ?c2 ?c3 ?c4 ?c5 ?_)
        case c1 => intro j y hj; rw [Addr.add_mid, Nat.zero_add]; exact HZ.out.at j hj
        case c2 => exact encPl_one (q0, q1, q2)
        case c3 => unfold maxLen; omega
        case c4 => omega
        case c5 => omega
        intro v' w4 hown' hgrow _ hat
        rw [← hSz] at hat
        have hlo : ∀ g, v.ownBlock = some g → w.heap.size + 4 ≤ g := fun g hg => (World.ownsRow.lt hown g hg).1
        have hO' : OwnE encPl 3 93 w4 (w.heap.size + 4) v' (K ++ [(q0, q1, q2)]) := by simpa [OwnE, encPl] using hown'
        obtain ⟨a4, c4, rfl, _⟩ := hO'.val
        rw [List.length_append, List.length_singleton] at hO' hat
        have HTW : Hid (Two w4 (w.heap.size + 4) (.slice a4 (K.length + 1) c4) u (K ++ [(q0, q1, q2)]) V) := HTZ.out.grew hO' hgrow hat
        have hX4 := HXZ.out.grown hgrow (fun e => by have := hlo _ e.symm; omega)
        have HB4 : Hid (Below (w.heap.size + 3) W0 w4) := HBZ.out.grown hgrow (by omega) (fun g hg => by have := hlo g hg; omega)
        have y1 := hX4.at 0 rfl
        have yf := hX4.frz
        have HX4 : Hid (Blk w4 (w.heap.size + 1 + 1 + 1) [v, u]) := hX4
        clear hown hown' hgrow hat hO' hlo hSz HTZ HXZ HBZ HZ hX4 hWW m0 m1 m2 x1
        go_wp2
        go_roundw
        case rel => exact ⟨k + 1, _, u, hlt, by go_num, HX4.out.set 0 (by simp) (.slice a4 (K.length + 1) c4), by rw [HKE.out, HVE.out]; exact HTW.out.other _ (by omega) _ _, HB4.out.setCell (by show _ ≤ w.heap.size + 1 + 1 + 1; omega) _⟩
        case measure => simp [intOf]; omega
    · have hkl : k = l.length := by omega
      subst hkl
      rw [List.take_of_length_le (Nat.le_refl _)] at htwo
      have htwo : Two wr (w.heap.size + 4) v u (viewK l R) (viewW l R) := htwo
      obtain ⟨a5, c5, rfl, _⟩ := htwo.1.val
      obtain ⟨a6, c6, rfl, _⟩ := htwo.2.1.val
      have HTW : Hid (Two wr (w.heap.size + 4) (.slice a5 (viewK l R).length c5) (.slice a6 (viewW l R).length c6) (viewK l R) (viewW l R)) := htwo
      have hO2 := HO.out.below hb (by omega)
      have HX2 : Hid (Blk (wr.setCells (w.heap.size + 1 + 1) 0 [.slice a5 (viewK l R).length c5, .slice a6 (viewW l R).length c6]) (w.heap.size + 1 + 1) [.slice a5 (viewK l R).length c5, .slice a6 (viewW l R).length c6]) := hO2.sets [.slice a5 (viewK l R).length c5, .slice a6 (viewW l R).length c6] rfl
      have x0 := hblk.at 0 rfl
      have x1 := hblk.at 1 rfl
      have y0 := hO2.at 0 rfl
      have y1 := hO2.at 1 rfl
      have yf := hO2.frz
      clear htwo hO2 hblk hb
      go_wp2
      refine ret_cell (vs := [.slice a5 (viewK l R).length c5, .slice a6 (viewW l R).length c6]) Tryz.results59 rfl (HX2.out.load Tryz.underlying125 rfl sizeParts) ⟨_, _, rfl, ?_, ?_⟩
      · exact ((HTW.out.other _ (by omega) _ _).other _ (by omega) _ _).mono (by omega)
      · exact below_sets HBw.out _ (by omega) [.slice a5 (viewK l R).length c5, .slice a6 (viewW l R).length c6] 0
end Go.Proofs.YthlhnokgcnieeadGreatDoor

/- view.Of. -/
namespace Go.Proofs.YthlhnokgcnieeadGreatDoor
open Go.ChangeShapes Go.WideShapes Go.ChangeAt Go.RowKit
open Orangery (Pl rootsOk check orI ofE ofR ofK ofW viewK viewW)

/-- a view's value -/
abbrev viV (r k v : Value) : Value := .agg #[r, k, v]

/-- an address in new memory -/
def Fresh (B : Nat) (a : Option Addr) : Prop := ∀ b off, a = some ⟨b, off, none⟩ → B ≤ b
theorem Fresh.none {B : Nat} : Fresh B none := fun _ _ e => by simp at e

/-- what a call leaves that answers a view and an error; its roots may lie where those lay that were handed in -/
def Views (w : World) (a' : Option Addr) (R : List Int) (K V : List Pl) (E : Int) (e : Ending) (w' : World) : Prop :=
  ∃ aR aK aV cR cK cV, e = .returned (.tuple #[viV (.slice aR R.length cR) (.slice aK K.length cK) (.slice aV V.length cV), .int .i64 E]) ∧ ((aK = none → cK = 0) ∧ (aV = none → cV = 0)) ∧ (Fresh w.heap.size aK ∧ Fresh w.heap.size aV ∧ (aR = a' ∨ Fresh w.heap.size aR)) ∧ SlI w' aR R ∧ SlP w' aK K ∧ SlP w' aV V ∧ Below w.heap.size w w'

theorem sizeView : (Tryz.prog.info? 62).map (·.size) = some 3 := by kernel_rfl

theorem OwnE.reads {W : World} {base : Nat} {a : Option Addr} {n c : Nat} {K : List Pl} (h : OwnE encPl 3 93 W base (.slice a n c) K) : SlP W a K ∧ (a = none → c = 0) ∧ Fresh base a := by
  have h1 := own_pls h
  rcases h1 with ⟨h2, rfl⟩ | ⟨g, cap, e, hb, hg, _, _, hp, _⟩
  · simp at h2
    obtain ⟨rfl, _, rfl⟩ := h2
    exact ⟨Or.inl rfl, fun _ => rfl, Fresh.none⟩
  · simp at e
    obtain ⟨rfl, _, _⟩ := e
    exact ⟨Or.inr ⟨g, 0, rfl, hg, hp.1⟩, fun hn => by simp at hn, fun b off e => by simp at e; omega⟩
theorem OwnI.fresh {W : World} {base : Nat} {a : Option Addr} {n c : Nat} {l : List Int} (h : OwnI W base (.slice a n c) l) : Fresh base a := by
  rcases h.2 with ⟨h2, _⟩ | ⟨g, cap, cur, e, hb, _⟩
  · simp at h2
    obtain ⟨rfl, _⟩ := h2
    exact Fresh.none
  · simp at e
    obtain ⟨rfl, _⟩ := e
    exact fun b off e => by simp at e; omega
theorem Fresh.mono {B B' : Nat} {a : Option Addr} (h : Fresh B a) (hb : B' ≤ B) : Fresh B' a := fun b off e => Nat.le_trans hb (h b off e)

set_option maxHeartbeats 2000000 in
set_option maxRecDepth 100000 in
theorem of_any (w : World) (a a' : Option Addr) (c c' : Nat) (l : List Pl) (R : List Int) (hl : l.length ≤ maxLen) (hR : R.length ≤ maxLen) (h : SlP w a l) (h' : SlI w a' R) :
    Calls Tryz.prog 35 #[.agg #[.slice a l.length c], .slice a' R.length c'] w (Views w a' (ofR l R) (ofK l R) (ofW l R) (ofE l R)) := by
  obtain ⟨W0, hW, hT, hV, hB, hS⟩ := laid2 w [Value.slice a l.length c] 26 [Value.slice none 0 0, Value.slice none 0 0, Value.slice none 0 0] 62
  have t0 := hT.at 0 rfl
  have HP : Hid (SlP w a l) := h
  have HI : Hid (SlI w a' R) := h'
  clear h h'
  go_enter Tryz.func35, Tryz.ntmps35
  go_wp2_with fail
  clear hW
  refine (check_any W0 a c l hl (HP.out.below hB)).mono ?_
  rintro e w1 ⟨rfl, hb1⟩
  go_wp2_with fail
  have hb1w : Below w.heap.size w w1 := hB.trans (hb1.mono hB.size)
  refine (vroots_any w1 a' c' R hR (HI.out.below hb1w)).mono ?_
  rintro e w1 ⟨rfl, rfl⟩
  go_wp2_with fail
  obtain ⟨W2, hW2, hN2, hB2, hS2⟩ := laid1 w1 [Value.int IntKind.i64 (check l), Value.int IntKind.i64 (rootsOk R)] 32
  rw [hW2]
  clear hW2
  refine (orE_any W2 w1.heap.size 2 (check l) (rootsOk R) (hN2.at 0 rfl) (hN2.at 1 rfl)).mono ?_
  rintro e w2 ⟨rfl, rfl⟩
  have hT2 := (hT.keep hb1).keep hB2
  have hV2 := (hV.keep hb1).keep hB2
  have HB2 : Hid (Below w.heap.size w w2) := hb1w.trans (hB2.mono hb1w.size)
  have HE : Hid (ofE l R = orI (check l) (rootsOk R)) := rfl
  clear hT hV hB hb1 hb1w hN2 hB2 t0
  by_cases hz : orI (check l) (rootsOk R) = 0
  · obtain ⟨hck, hro⟩ := Orangery.ofE_zero (l := l) (R := R) hz
    have hl2 : l.length ≤ 1000 := by have := Orangery.check_len l hck; omega
    have hR2 : R.length ≤ 1000 := by have := Orangery.rootsOk_len hro; omega
    obtain ⟨e1, e2, e3⟩ := Orangery.of_ok (l := l) (R := R) hz
    have HZ : Hid (ofE l R = 0) := hz
    have HV : Hid (ofR l R = R ∧ ofK l R = viewK l R ∧ ofW l R = viewW l R) := ⟨e1, e2, e3⟩
    rw [hz]
    clear hz hck hro HE e1 e2 e3
    have t0 := hT2.at 0 rfl
    go_wp2_with fail
    refine (split_any w2 a a' c c' l R hl2 hR2 (HP.out.below HB2.out) (HI.out.below HB2.out)).mono ?_
    rintro e w3 ⟨v, u, rfl, htwo, hb3⟩
    clear t0 hT2
    obtain ⟨a5, c5, rfl, _⟩ := htwo.1.val
    obtain ⟨a6, c6, rfl, _⟩ := htwo.2.1.val
    obtain ⟨W4, hW4, hX, hB4, hS4⟩ := laid1 w3 [Value.slice a5 (viewK l R).length c5, Value.slice a6 (viewW l R).length c6] 125
    have hV4 := (hV2.keep hb3).keep hB4
    have HT4 : Hid (Two W4 w2.heap.size (.slice a5 (viewK l R).length c5) (.slice a6 (viewW l R).length c6) (viewK l R) (viewW l R)) := htwo.keep hB4
    have HB4 : Hid (Below w.heap.size w W4) := (HB2.out.trans (hb3.mono HB2.out.size)).trans (hB4.mono (Nat.le_trans HB2.out.size hb3.size))
    have x0 := hX.at 0 rfl
    have x1 := hX.at 1 rfl
    have hlt4 : w2.heap.size ≤ w3.heap.size := hb3.size
    have hV2lt : w.heap.size + 1 < w2.heap.size := hV2.lt
    clear htwo hb3 hV2 hB4
    go_upto_region 5 with fail
    clear hW4
    have HI4 : Hid (SlI W4.drew a' R) := HI.out.below (HB4.out.drew)
    have y0 := hV4.at 0 rfl
    have y1 := hV4.at 1 rfl
    have y2 := hV4.at 2 rfl
    have yf := hV4.frz
    have ne1 : ¬ w.heap.size + 1 = w3.heap.size := by have := hV2lt; omega
    have ne2 : ¬ w3.heap.size = w.heap.size + 1 := by have := hV2lt; omega
    go_region_held3 (fun w' => w'.cell? ⟨w3.heap.size, 0, none⟩ = some (.slice a5 (viewK l R).length c5) ∧ w'.cell? ⟨w3.heap.size, 1, none⟩ = some (.slice a6 (viewW l R).length c6)) (go_keep)
      (first | (go_at_call 44; refine (cloneInts_any _ a' c' R hR2 ?_).mono ?_; exact HI4.out; rintro e w5 ⟨v5, rfl, hO5, hb5⟩; obtain ⟨a7, c7, rfl, hI7⟩ := hO5.val; have hb5' : Below W4.heap.size W4 w5 := ((Below.refl _ W4).drew).trans hb5; have hX5 := hX.keep hb5'; have x50 := hX5.at 0 rfl; have x51 := hX5.at 1 rfl; have hV5 := hV4.keep hb5'; have y50 := hV5.at 0 rfl; have y51 := hV5.at 1 rfl; have y52 := hV5.at 2 rfl; have yf5 := hV5.frz))
    go_wp2
    have HVf := hV5.sets [Value.slice a7 R.length c7, Value.slice a5 (viewK l R).length c5, Value.slice a6 (viewW l R).length c6] rfl
    have hTf := Two.others (w.heap.size + 1) hV2lt [Value.slice a7 R.length c7, Value.slice a5 (viewK l R).length c5, Value.slice a6 (viewW l R).length c6] 0 _ (HT4.out.keep hb5')
    have hOf := OwnI.others (w.heap.size + 1) (by have h1 : w3.heap.size < W4.heap.size := hX.lt; show w.heap.size + 1 < W4.heap.size; omega) [Value.slice a7 R.length c7, Value.slice a5 (viewK l R).length c5, Value.slice a6 (viewW l R).length c6] 0 _ hO5
    have hBf : Below w.heap.size w w5 := HB4.out.trans (hb5'.mono HB4.out.size)
    refine ret_cell_tmp Tryz.results35 rfl rfl (HVf.load Tryz.underlying62 rfl sizeView) ?_
    obtain ⟨e1, e2, e3⟩ := HV.out
    unfold Views
    rw [e1, e2, e3, HZ.out]
    exact ⟨a7, a5, a6, c7, c5, c6, rfl, ⟨hTf.1.reads.2.1, hTf.2.1.reads.2.1⟩, ⟨hTf.1.reads.2.2.mono HB2.out.size, hTf.2.1.reads.2.2.mono HB2.out.size, Or.inr (hOf.fresh.mono HB4.out.size)⟩, hOf.reads, hTf.1.reads.1, hTf.2.1.reads.1, below_sets hBf (w.heap.size + 1) (by omega) [Value.slice a7 R.length c7, Value.slice a5 (viewK l R).length c5, Value.slice a6 (viewW l R).length c6] 0⟩
  · have hz' : (orI (check l) (rootsOk R) != 0) = true := by simpa using hz
    obtain ⟨e1, e2, e3⟩ := Orangery.of_bad (l := l) (R := R) hz
    have HV : Hid (ofR l R = [] ∧ ofK l R = [] ∧ ofW l R = []) := ⟨e1, e2, e3⟩
    have HVf : Hid (Blk (w2.setCells (w.heap.size + 1) 0 [Value.slice none 0 0, Value.slice none 0 0, Value.slice none 0 0]) (w.heap.size + 1) [Value.slice none 0 0, Value.slice none 0 0, Value.slice none 0 0]) := hV2.sets _ rfl
    have y0 := hV2.at 0 rfl
    have y1 := hV2.at 1 rfl
    have y2 := hV2.at 2 rfl
    have yf := hV2.frz
    generalize orI (check l) (rootsOk R) = E at *
    clear hz e1 e2 e3 hT2 hV2
    go_wp2
    refine ret_cell_tmp Tryz.results35 rfl rfl (HVf.out.load Tryz.underlying62 rfl sizeView) ?_
    obtain ⟨e1, e2, e3⟩ := HV.out
    unfold Views
    rw [e1, e2, e3, HE.out]
    exact ⟨none, none, none, 0, 0, 0, rfl, ⟨fun _ => rfl, fun _ => rfl⟩, ⟨Fresh.none, Fresh.none, Or.inr Fresh.none⟩, Or.inl rfl, Or.inl rfl, Or.inl rfl, below_sets HB2.out (w.heap.size + 1) (by omega) [Value.slice none 0 0, Value.slice none 0 0, Value.slice none 0 0] 0⟩
end Go.Proofs.YthlhnokgcnieeadGreatDoor

/- Hubs, histories and views that lie in given blocks; what a call with a result and an error leaves. -/
namespace Go.Proofs.YthlhnokgcnieeadGreatDoor
open Go.ChangeShapes Go.WideShapes Go.ChangeAt Go.RowKit
open Orangery (Pl Mv Stp Rc Pr Hb peerE peersE rootsOk hubE histE newHb prOf stepE stepH noHb)

/-- a hub, all of it in blocks of D -/
structure HuD (D : Nat → Prop) (a p q : Option Addr) (X : List Pm) (h : Hb) : Prop where
  steps : InL D a h.1.1
  places : InL D p h.1.2
  peers : InL D q X
  roots : ∀ x ∈ X, InL D x.2.1 x.1.2.2
theorem HuD.imp {D D' : Nat → Prop} {a p q : Option Addr} {X : List Pm} {h : Hb} (hd : HuD D a p q X h) (hg : ∀ b, D b → D' b) : HuD D' a p q X h :=
  ⟨hd.steps.imp hg, hd.places.imp hg, hd.peers.imp hg, fun x hx => (hd.roots x hx).imp hg⟩
def HuX (D : Nat → Prop) (h : Hb) (w : World) (vs : List Value) : Prop :=
  ∃ a c p d q g X, vs = [.slice a h.1.1.length c, .slice p h.1.2.length d, .int .i64 h.2.1, .slice q X.length g] ∧ HuAt w a p q X h ∧ HuD D a p q X h
theorem HuX.is {D : Nat → Prop} {h : Hb} {w : World} {vs : List Value} (hx : HuX D h w vs) : HuIs w (.agg vs.toArray) h := by
  obtain ⟨a, c, p, d, q, g, X, rfl, hx, _⟩ := hx
  exact ⟨a, c, p, d, q, g, X, rfl, hx⟩
theorem HuX.len {D : Nat → Prop} {h : Hb} {w : World} {vs : List Value} (hx : HuX D h w vs) : vs.length = 4 := by
  obtain ⟨a, c, p, d, q, g, X, rfl, hx, _⟩ := hx
  rfl
theorem HuX.keep {D : Nat → Prop} {h : Hb} {w w' : World} {vs : List Value} (hx : HuX D h w vs) (hb : Below w.heap.size w w') : HuX D h w' vs := by
  obtain ⟨a, c, p, d, q, g, X, rfl, hx, hd⟩ := hx
  exact ⟨a, c, p, d, q, g, X, rfl, hx.keep hb, hd⟩
theorem HuX.imp {D D' : Nat → Prop} {h : Hb} {w : World} {vs : List Value} (hx : HuX D h w vs) (hg : ∀ b, D b → D' b) : HuX D' h w vs := by
  obtain ⟨a, c, p, d, q, g, X, rfl, hx, hd⟩ := hx
  exact ⟨a, c, p, d, q, g, X, rfl, hx, hd.imp hg⟩
theorem HuX.sets {D : Nat → Prop} {h : Hb} {w : World} {vs : List Value} (hx : HuX D h w vs) (b : Nat) (hg : ∀ b', D b' → b' ≠ b) (us : List Value) (o : Nat) : HuX D h (w.setCells b o us) vs := by
  obtain ⟨a, c, p, d, q, g, X, rfl, hx, hd⟩ := hx
  refine ⟨a, c, p, d, q, g, X, rfl, ⟨hx.steps.sets (hd.steps.off hg) us o, hx.places.sets (hd.places.off hg) us o, ⟨hx.peers.reads.sets (hd.peers.off hg) us o, fun x hm => ?_⟩, hx.are, hx.few1, hx.few2, hx.few3⟩, hd⟩
  exact ⟨(hx.peers.roots x hm).1.setsO ((hd.roots x hm).off hg) us o, (hx.peers.roots x hm).2⟩
theorem HuIs.x {h : Hb} {w : World} {v : Value} (hx : HuIs w v h) : ∃ vs, v = .agg vs.toArray ∧ HuX (· < w.heap.size) h w vs := by
  obtain ⟨a, c, p, d, q, g, X, rfl, hx⟩ := hx
  exact ⟨_, rfl, a, c, p, d, q, g, X, rfl, hx, ⟨hx.steps.isin, hx.places.isin, hx.peers.reads.isin, fun x hm => (hx.peers.roots x hm).1.isin⟩⟩
theorem HuX.no (D : Nat → Prop) (w : World) : HuX D noHb w [.slice none 0 0, .slice none 0 0, .int .i64 0, .slice none 0 0] :=
  ⟨none, 0, none, 0, none, 0, [], rfl, ⟨Or.inl rfl, Or.inl rfl, ⟨Or.inl rfl, by intro x hx; simp at hx⟩, rfl, by simp [noHb], by simp [noHb, maxLen], by simp [maxLen]⟩, ⟨Or.inl rfl, Or.inl rfl, Or.inl rfl, by intro x hx; simp at hx⟩⟩
theorem HuX.one {D : Nat → Prop} {h : Hb} {w : World} {vs : List Value} (hx : HuX D h w vs) : ∀ v ∈ vs, v.oneCell' = true := by
  obtain ⟨a, c, p, d, q, g, X, rfl, _⟩ := hx
  intro v hv
  simp at hv
  rcases hv with rfl | rfl | rfl | rfl <;> rfl

/-- a history, all of it in blocks of D -/
def HiX (D : Nat → Prop) (L : List Stp) (T : List Pl) (w : World) (vs : List Value) : Prop :=
  ∃ a c p d, vs = [.slice a L.length c, .slice p T.length d] ∧ SlE stC w a L ∧ SlP w p T ∧ InL D a L ∧ InL D p T
theorem HiX.len {D : Nat → Prop} {L : List Stp} {T : List Pl} {w : World} {vs : List Value} (hx : HiX D L T w vs) : vs.length = 2 := by
  obtain ⟨a, c, p, d, rfl, _⟩ := hx
  rfl
theorem HiX.keep {D : Nat → Prop} {L : List Stp} {T : List Pl} {w w' : World} {vs : List Value} (hx : HiX D L T w vs) (hb : Below w.heap.size w w') : HiX D L T w' vs := by
  obtain ⟨a, c, p, d, rfl, h1, h2, h3⟩ := hx
  exact ⟨a, c, p, d, rfl, h1.below hb, h2.below hb, h3⟩
theorem HiX.sets {D : Nat → Prop} {L : List Stp} {T : List Pl} {w : World} {vs : List Value} (hx : HiX D L T w vs) (b : Nat) (hg : ∀ b', D b' → b' ≠ b) (us : List Value) (o : Nat) : HiX D L T (w.setCells b o us) vs := by
  obtain ⟨a, c, p, d, rfl, h1, h2, h3, h4⟩ := hx
  exact ⟨a, c, p, d, rfl, h1.sets (h3.off hg) us o, h2.sets (h4.off hg) us o, h3, h4⟩
theorem HiX.one {D : Nat → Prop} {L : List Stp} {T : List Pl} {w : World} {vs : List Value} (hx : HiX D L T w vs) : ∀ v ∈ vs, v.oneCell' = true := by
  obtain ⟨a, c, p, d, rfl, _⟩ := hx
  intro v hv
  simp at hv
  rcases hv with rfl | rfl <;> rfl
/-- a view, all of it in blocks of D -/
def ViX (D : Nat → Prop) (R : List Int) (K V : List Pl) (w : World) (vs : List Value) : Prop :=
  ∃ aR aK aV cR cK cV, vs = [.slice aR R.length cR, .slice aK K.length cK, .slice aV V.length cV] ∧ SlI w aR R ∧ SlP w aK K ∧ SlP w aV V ∧ InL D aR R ∧ InL D aK K ∧ InL D aV V
theorem ViX.len {D : Nat → Prop} {R : List Int} {K V : List Pl} {w : World} {vs : List Value} (hx : ViX D R K V w vs) : vs.length = 3 := by
  obtain ⟨aR, aK, aV, cR, cK, cV, rfl, _⟩ := hx
  rfl
theorem ViX.keep {D : Nat → Prop} {R : List Int} {K V : List Pl} {w w' : World} {vs : List Value} (hx : ViX D R K V w vs) (hb : Below w.heap.size w w') : ViX D R K V w' vs := by
  obtain ⟨aR, aK, aV, cR, cK, cV, rfl, h1, h2, h3, h4⟩ := hx
  exact ⟨aR, aK, aV, cR, cK, cV, rfl, h1.below hb, h2.below hb, h3.below hb, h4⟩
theorem ViX.sets {D : Nat → Prop} {R : List Int} {K V : List Pl} {w : World} {vs : List Value} (hx : ViX D R K V w vs) (b : Nat) (hg : ∀ b', D b' → b' ≠ b) (us : List Value) (o : Nat) : ViX D R K V (w.setCells b o us) vs := by
  obtain ⟨aR, aK, aV, cR, cK, cV, rfl, h1, h2, h3, h4, h5, h6⟩ := hx
  exact ⟨aR, aK, aV, cR, cK, cV, rfl, h1.setsO (h4.off hg) us o, h2.sets (h5.off hg) us o, h3.sets (h6.off hg) us o, h4, h5, h6⟩
theorem ViX.one {D : Nat → Prop} {R : List Int} {K V : List Pl} {w : World} {vs : List Value} (hx : ViX D R K V w vs) : ∀ v ∈ vs, v.oneCell' = true := by
  obtain ⟨aR, aK, aV, cR, cK, cV, rfl, _⟩ := hx
  intro v hv
  simp at hv
  rcases hv with rfl | rfl | rfl <;> rfl

/-- what a call with a result and an error leaves -/
def Gives (Q : World → List Value → Prop) (w : World) (E : Int) (e : Ending) (w' : World) : Prop :=
  ∃ vs : List Value, e = .returned (.tuple #[.agg vs.toArray, .int .i64 E]) ∧ Q w' vs ∧ Below w.heap.size w w'
/-- the blocks that were there, and those that are new -/
def Old (n m : Nat) (b : Nat) : Prop := b < n ∨ m ≤ b
theorem old_ne {n m : Nat} (h : n < m) : ∀ b, Old n m b → b ≠ n := by
  intro b hb
  rcases hb with hb | hb <;> omega
theorem old_ge {m : Nat} : ∀ {b : Nat}, Old 0 m b → m ≤ b := by
  intro b hb
  rcases hb with hb | hb <;> omega
theorem old_ne0 {n m : Nat} (h : n < m) : ∀ b, Old 0 m b → b ≠ n := by
  intro b hb
  have := old_ge hb
  omega
theorem views_gives {w w' : World} {a' : Option Addr} {R : List Int} {K V : List Pl} {E : Int} {e : Ending} {n : Nat} (h : Views w a' R K V E e w') (ha : InL (· < n) a' R) : Gives (ViX (Old n w.heap.size) R K V) w E e w' := by
  obtain ⟨aR, aK, aV, cR, cK, cV, rfl, _, ⟨f1, f2, f3⟩, h1, h2, h3, hb⟩ := h
  refine ⟨_, rfl, ⟨aR, aK, aV, cR, cK, cV, rfl, h1, h2, h3, ?_, ?_, ?_⟩, hb⟩
  · rcases f3 with f3 | f3
    · subst f3; exact ha.imp (fun b hb => Or.inl hb)
    · exact Or.inr (fun b off e => Or.inr (f3 _ _ e))
  · exact Or.inr (fun b off e => Or.inr (f1 _ _ e))
  · exact Or.inr (fun b off e => Or.inr (f2 _ _ e))
theorem HuX.low {D : Nat → Prop} {h : Hb} {w : World} {vs : List Value} (hx : HuX D h w vs) : HuX (· < w.heap.size) h w vs := by
  obtain ⟨a, c, p, d, q, g, X, rfl, hx, _⟩ := hx
  exact ⟨a, c, p, d, q, g, X, rfl, hx, ⟨hx.steps.isin, hx.places.isin, hx.peers.reads.isin, fun x hm => (hx.peers.roots x hm).1.isin⟩⟩
theorem HuX.lowD {D : Nat → Prop} {h : Hb} {w : World} {vs : List Value} (hx : HuX D h w vs) : HuX (fun b => D b ∧ b < w.heap.size) h w vs := by
  obtain ⟨a, c, p, d, q, g, X, rfl, hx, hd⟩ := hx
  exact ⟨a, c, p, d, q, g, X, rfl, hx, ⟨hd.steps.and hx.steps.isin, hd.places.and hx.places.isin, hd.peers.and hx.peers.reads.isin, fun x hm => (hd.roots x hm).and (hx.peers.roots x hm).1.isin⟩⟩
theorem HuX.any {D : Nat → Prop} {h : Hb} {w : World} {vs : List Value} (hx : HuX D h w vs) : HuX (fun _ => True) h w vs := hx.imp (fun _ _ => trivial)
theorem HiX.low {D : Nat → Prop} {L : List Stp} {T : List Pl} {w : World} {vs : List Value} (hx : HiX D L T w vs) : HiX (· < w.heap.size) L T w vs := by
  obtain ⟨a, c, p, d, rfl, h1, h2, _⟩ := hx
  exact ⟨a, c, p, d, rfl, h1, h2, h1.isin, h2.isin⟩
theorem HiX.lowD {D : Nat → Prop} {L : List Stp} {T : List Pl} {w : World} {vs : List Value} (hx : HiX D L T w vs) : HiX (fun b => D b ∧ b < w.heap.size) L T w vs := by
  obtain ⟨a, c, p, d, rfl, h1, h2, h3, h4⟩ := hx
  exact ⟨a, c, p, d, rfl, h1, h2, h3.and h1.isin, h4.and h2.isin⟩
theorem HiX.imp {D D' : Nat → Prop} {L : List Stp} {T : List Pl} {w : World} {vs : List Value} (hx : HiX D L T w vs) (hg : ∀ b, D b → D' b) : HiX D' L T w vs := by
  obtain ⟨a, c, p, d, rfl, h1, h2, h3, h4⟩ := hx
  exact ⟨a, c, p, d, rfl, h1, h2, h3.imp hg, h4.imp hg⟩
theorem HiX.any {D : Nat → Prop} {L : List Stp} {T : List Pl} {w : World} {vs : List Value} (hx : HiX D L T w vs) : HiX (fun _ => True) L T w vs := by
  obtain ⟨a, c, p, d, rfl, h1, h2, h3, h4⟩ := hx
  exact ⟨a, c, p, d, rfl, h1, h2, h3.imp (fun _ _ => trivial), h4.imp (fun _ _ => trivial)⟩
theorem ViX.low {D : Nat → Prop} {R : List Int} {K V : List Pl} {w : World} {vs : List Value} (hx : ViX D R K V w vs) : ViX (· < w.heap.size) R K V w vs := by
  obtain ⟨aR, aK, aV, cR, cK, cV, rfl, h1, h2, h3, _⟩ := hx
  exact ⟨aR, aK, aV, cR, cK, cV, rfl, h1, h2, h3, h1.isin, h2.isin, h3.isin⟩
theorem ViX.lowD {D : Nat → Prop} {R : List Int} {K V : List Pl} {w : World} {vs : List Value} (hx : ViX D R K V w vs) : ViX (fun b => D b ∧ b < w.heap.size) R K V w vs := by
  obtain ⟨aR, aK, aV, cR, cK, cV, rfl, h1, h2, h3, h4, h5, h6⟩ := hx
  exact ⟨aR, aK, aV, cR, cK, cV, rfl, h1, h2, h3, h4.and h1.isin, h5.and h2.isin, h6.and h3.isin⟩
theorem ViX.imp {D D' : Nat → Prop} {R : List Int} {K V : List Pl} {w : World} {vs : List Value} (hx : ViX D R K V w vs) (hg : ∀ b, D b → D' b) : ViX D' R K V w vs := by
  obtain ⟨aR, aK, aV, cR, cK, cV, rfl, h1, h2, h3, h4, h5, h6⟩ := hx
  exact ⟨aR, aK, aV, cR, cK, cV, rfl, h1, h2, h3, h4.imp hg, h5.imp hg, h6.imp hg⟩
theorem ViX.any {D : Nat → Prop} {R : List Int} {K V : List Pl} {w : World} {vs : List Value} (hx : ViX D R K V w vs) : ViX (fun _ => True) R K V w vs := by
  obtain ⟨aR, aK, aV, cR, cK, cV, rfl, h1, h2, h3, h4, h5, h6⟩ := hx
  exact ⟨aR, aK, aV, cR, cK, cV, rfl, h1, h2, h3, h4.imp (fun _ _ => trivial), h5.imp (fun _ _ => trivial), h6.imp (fun _ _ => trivial)⟩
theorem folds_gives {w w' : World} {L : List Stp} {T : List Pl} {E : Int} {e : Ending} (n : Nat) (h : Folds w L T E e w') : Gives (HiX (Old n w.heap.size) L T) w E e w' := by
  obtain ⟨vL, vT, rfl, hL, hT, hb⟩ := h
  obtain ⟨aL, cL, rfl, hLr, _⟩ := hL.val
  obtain ⟨aT, cT, rfl⟩ := hT.val
  exact ⟨_, rfl, ⟨aL, cL, aT, cT, rfl, hLr, hT.read, (row_in hL.row).imp (fun b hb => Or.inr hb), (row_in hT.row).imp (fun b hb => Or.inr hb)⟩, hb⟩
end Go.Proofs.YthlhnokgcnieeadGreatDoor

