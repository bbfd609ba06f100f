/- 5 texts of the proof: orangeryref.table: places laid out by node. orangeryref.between: by tables. orangeryref.table of places in whatever order: of one node the last one counts. orangeryref.places: the places of a table. orangeryref.CheckRoots, orangeryref.AllOf. -/
import Derived.Deep.WholeRow
import Derived.Deep.DeepCutAuto
import Derived.Test.YtkjgoikcibgonacGreatP07
import Derived.Test.YtkjgoikcibgonacGreatP03
import Derived.Test.YtkjgoikcibgonacGreatP09
import Derived.Test.YtkjgoikcibgonacGreatP05
/- orangeryref.table: places laid out by node. -/
namespace Go.Proofs.YtkjgoikcibgonacGreat
open Go.ChangeShapes Go.WideShapes Go.ChangeAt Go.RowKit
open Orangery (Pl Mv Stp outL inL tabAt find scan)

/-- the places of a table -/
def tabL (t : Nat → Pl) : List Pl := (List.range 16).map t
/-- the value of a table -/
def tabV (t : Nat → Pl) : Value := .agg ((tabL t).flatMap encPl).toArray

theorem tabL_len (t : Nat → Pl) : (tabL t).length = 16 := by simp [tabL]
theorem tabL_get (t : Nat → Pl) (i : Nat) (h : i < (tabL t).length) : (tabL t)[i] = t i := by simp [tabL]
theorem tabL_set (t u : Nat → Pl) (k : Nat) (p : Pl) (h1 : u k = p) (h2 : ∀ n, n ≠ k → u n = t n) : (tabL t).set k p = tabL u := by
  apply List.ext_getElem
  · simp [tabL]
  · intro i hi hi'
    rw [List.getElem_set, tabL_get]
    by_cases hik : k = i
    · subst hik; rw [if_pos rfl, tabL_get, h1]
    · rw [if_neg hik, tabL_get, h2 i (by omega)]

theorem HoldsP.set1 {w : World} {g : Nat} {m : List Pl} (h : HoldsP w g m) (i : Nat) (hi : i < m.length) (x : Int) :
    HoldsP (w.setCell ⟨g, i * 3 + 1, none⟩ (.int .i64 x)) g (m.set i (m[i].1, x, m[i].2.2)) := by
  obtain ⟨hp, hf⟩ := h
  refine ⟨?_, ?_⟩
  · intro k hk
    have hk' : k < m.length := by simpa using hk
    have h0 := hp i hi
    have h1 := hp k hk'
    simp only [Nat.zero_add] at h0 h1 ⊢
    by_cases hik : i = k
    · subst hik
      simp only [List.getElem_set_self]
      refine ⟨?_, ?_, ?_⟩
      · rw [World.cell?_setCell_other _ _ _ _ (by simp), h0.1]
      · rw [World.cell?_setCell_same _ _ _ h0.2.1]
      · rw [World.cell?_setCell_other _ _ _ _ (by simp), h0.2.2]
    · rw [List.getElem_set_ne hik]
      refine ⟨?_, ?_, ?_⟩
      all_goals
        rw [World.cell?_setCell_other _ _ _ _ (by simp <;> omega)]
      · exact h1.1
      · exact h1.2.1
      · exact h1.2.2
  · intro k hk
    simp only [World.frozen?_setCell]
    exact hf k (by simpa using hk)

theorem HoldsP.range {w : World} {g : Nat} {m : List Pl} (h : HoldsP w g m) : w.rangeAt g 0 (m.flatMap encPl) := by
  intro j v hv
  have := pls_flat h.1 j v hv
  rw [Addr.add_mid] at this
  exact this

theorem HoldsP.of_range {w : World} {g : Nat} {m : List Pl} (h : w.rangeAt g 0 (m.flatMap encPl)) (hf : ∀ i, i < m.length * 3 → w.frozen? ⟨g, i, none⟩ = false) : HoldsP w g m := by
  refine ⟨fun i hi => ?_, hf⟩
  obtain ⟨h0, h1, h2⟩ := flat_get m i hi
  exact ⟨h _ _ h0, h _ _ h1, h _ _ h2⟩

theorem HoldsP.there {w : World} {g : Nat} {m : List Pl} (h : HoldsP w g m) : w.there g 0 (m.length * 3) := by
  intro j hj
  have hr := h.range.isSome j (by rw [flat_len]; exact hj)
  exact ⟨hr, by rw [Nat.zero_add]; exact h.2 j hj⟩

theorem HoldsP.other {w : World} {g b : Nat} {m : List Pl} (h : HoldsP w g m) (hne : g ≠ b) (j : Nat) (v : Value) : HoldsP (w.setCell ⟨b, j, none⟩ v) g m := by
  refine ⟨fun i hi => ?_, fun i hi => by simp only [World.frozen?_setCell]; exact h.2 i hi⟩
  rw [World.cell?_setCell_other _ _ _ _ (by simp <;> omega), World.cell?_setCell_other _ _ _ _ (by simp <;> omega), World.cell?_setCell_other _ _ _ _ (by simp <;> omega)]
  exact h.1 i hi

theorem Blk.holds {w : World} {b : Nat} {m : List Pl} (h : Blk w b (m.flatMap encPl)) : HoldsP w b m :=
  HoldsP.of_range (fun j v hv => by rw [Nat.zero_add]; exact h.at j hv) (fun i _ => h.frz i)

theorem infoTable : (Tryz.prog.info? 56).map (·.size) = some 48 := by kernel_rfl

theorem tab_step (l : List Pl) (j : Nat) (hj : j < l.length) (hs : scan 0 l = 0) (n : Nat) : tabAt (l.take (j + 1)) n = if (n : Int) = l[j].1 then l[j] else tabAt (l.take j) n := by
  obtain ⟨h1, h2⟩ := (Orangery.scan0_iff l).1 hs
  have hr := (Orangery.inRangeB_iff _).1 (h1 l[j] (List.getElem_mem hj))
  have h2' := List.pairwise_iff_getElem.1 h2
  have hf : find (l.take (j + 1)) n = if (n : Int) = l[j].1 then l[j] else find (l.take j) n := by
    rw [List.take_succ_eq_append_getElem hj]
    by_cases hn : (n : Int) = l[j].1
    · rw [if_pos hn, Orangery.find_append, Orangery.find_cons, if_pos hn.symm]
      intro q hq
      obtain ⟨i, hi, rfl⟩ := List.getElem_of_mem hq
      rw [List.getElem_take]
      have := h2' i j (by simp at hi; omega) hj (by simp at hi; omega)
      omega
    · rw [if_neg hn, Orangery.find_front]
      intro q hq
      simp at hq
      subst hq
      omega
  unfold tabAt
  rw [hf]
  by_cases hn : (n : Int) = l[j].1
  · rw [if_pos hn, if_pos hn, if_neg (by omega)]
  · rw [if_neg hn, if_neg hn]

set_option maxHeartbeats 1000000 in
theorem table_any (w : World) (a : Option Addr) (c : Nat) (l : List Pl) (hl : l.length ≤ 1000) (h : SlP w a l) (hs : scan 0 l = 0) :
    Calls Tryz.prog 25 #[.slice a l.length c] w
      fun e w' => e = .returned (tabV fun n => tabAt l n) ∧ Below w.heap.size w w' := by
  go_enter Tryz.func25, Tryz.ntmps25
  go_wp2
  obtain ⟨W0, hW, h0, h1, hB, hS⟩ := laid2 w ((tabL fun _ => (0, 0, 0)).flatMap encPl) 56 ((tabL fun _ => (0, 0, 0)).flatMap encPl) 56
  replace hW : (w.alloc (Obj.cells #[Value.int IntKind.i64 0, Value.int IntKind.i64 0, Value.int IntKind.i64 0, Value.int IntKind.i64 0, Value.int IntKind.i64 0, Value.int IntKind.i64 0, Value.int IntKind.i64 0, Value.int IntKind.i64 0, Value.int IntKind.i64 0, Value.int IntKind.i64 0, Value.int IntKind.i64 0, Value.int IntKind.i64 0, Value.int IntKind.i64 0, Value.int IntKind.i64 0, Value.int IntKind.i64 0, Value.int IntKind.i64 0, Value.int IntKind.i64 0, Value.int IntKind.i64 0, Value.int IntKind.i64 0, Value.int IntKind.i64 0, Value.int IntKind.i64 0, Value.int IntKind.i64 0, Value.int IntKind.i64 0, Value.int IntKind.i64 0, Value.int IntKind.i64 0, Value.int IntKind.i64 0, Value.int IntKind.i64 0, Value.int IntKind.i64 0, Value.int IntKind.i64 0, Value.int IntKind.i64 0, Value.int IntKind.i64 0, Value.int IntKind.i64 0, Value.int IntKind.i64 0, Value.int IntKind.i64 0, Value.int IntKind.i64 0, Value.int IntKind.i64 0, Value.int IntKind.i64 0, Value.int IntKind.i64 0, Value.int IntKind.i64 0, Value.int IntKind.i64 0, Value.int IntKind.i64 0, Value.int IntKind.i64 0, Value.int IntKind.i64 0, Value.int IntKind.i64 0, Value.int IntKind.i64 0, Value.int IntKind.i64 0, Value.int IntKind.i64 0, Value.int IntKind.i64 0] 56)).alloc (Obj.cells #[Value.int IntKind.i64 0, Value.int IntKind.i64 0, Value.int IntKind.i64 0, Value.int IntKind.i64 0, Value.int IntKind.i64 0, Value.int IntKind.i64 0, Value.int IntKind.i64 0, Value.int IntKind.i64 0, Value.int IntKind.i64 0, Value.int IntKind.i64 0, Value.int IntKind.i64 0, Value.int IntKind.i64 0, Value.int IntKind.i64 0, Value.int IntKind.i64 0, Value.int IntKind.i64 0, Value.int IntKind.i64 0, Value.int IntKind.i64 0, Value.int IntKind.i64 0, Value.int IntKind.i64 0, Value.int IntKind.i64 0, Value.int IntKind.i64 0, Value.int IntKind.i64 0, Value.int IntKind.i64 0, Value.int IntKind.i64 0, Value.int IntKind.i64 0, Value.int IntKind.i64 0, Value.int IntKind.i64 0, Value.int IntKind.i64 0, Value.int IntKind.i64 0, Value.int IntKind.i64 0, Value.int IntKind.i64 0, Value.int IntKind.i64 0, Value.int IntKind.i64 0, Value.int IntKind.i64 0, Value.int IntKind.i64 0, Value.int IntKind.i64 0, Value.int IntKind.i64 0, Value.int IntKind.i64 0, Value.int IntKind.i64 0, Value.int IntKind.i64 0, Value.int IntKind.i64 0, Value.int IntKind.i64 0, Value.int IntKind.i64 0, Value.int IntKind.i64 0, Value.int IntKind.i64 0, Value.int IntKind.i64 0, Value.int IntKind.i64 0, Value.int IntKind.i64 0] 56) = W0 := hW
  rw [hW]
  clear hW
  have HR : Hid (HoldsP W0 w.heap.size (tabL fun _ => (0, 0, 0))) := h0.holds
  have HT : Hid (HoldsP W0 (w.heap.size + 1) (tabL fun _ => (0, 0, 0))) := h1.holds
  have HP : Hid (SlP w a l) := h
  have HB : Hid (Below w.heap.size w W0) := hB
  have HS : Hid (scan 0 l = 0) := hs
  clear h0 h1 h hB hs
  go_loopw [7] (fun x W => ∃ k : Nat, k ≤ 16 ∧ x = .int .i64 k ∧ HoldsP W (w.heap.size + 1) (tabL fun n => (0, if n < k then -1 else 0, 0)) ∧ Below (w.heap.size + 1) W0 W) (fun x _ => 16 - (intOf x).toNat)
  case atStart => exact ⟨0, by omega, rfl, HT.out, Below.refl _ _⟩
  case round =>
    obtain ⟨k, hk, rfl, hH, hb⟩ := hrel
    have HH : Hid (HoldsP wr (w.heap.size + 1) (tabL fun n => (0, if n < k then -1 else 0, 0))) := hH
    by_cases hlt : k < 16
    · have hc := (hH.1 k (by rw [tabL_len]; exact hlt)).2.1
      have hf := hH.2 (k * 3 + 1) (by rw [tabL_len]; omega)
      simp only [Nat.zero_add] at hc
      clear hH
      go_wp2
      go_roundw
      case rel =>
        refine ⟨k + 1, by omega, by go_num, ?_, hb.setCell (by show _ ≤ w.heap.size + 1; omega) _⟩
        have h1 := HH.out.set1 k (by rw [tabL_len]; exact hlt) (-1)
        rw [tabL_get] at h1
        rw [tabL_set _ (fun n => (0, if n < k + 1 then -1 else 0, 0)) k] at h1
        · exact h1
        · simp
        · intro n hn
          by_cases h2 : n < k
          · simp [h2, show n < k + 1 by omega]
          · simp [h2, show ¬ n < k + 1 by omega]
      case measure => simp [intOf]; omega
    · have hk16 : k = 16 := by omega
      subst hk16
      clear hH
      have HT2 : Hid (HoldsP wr (w.heap.size + 1) (tabL fun n => tabAt (l.take 0) n)) := by
        show HoldsP _ _ _
        have e : (tabL fun n => tabAt (l.take 0) n) = tabL fun n => (0, if n < 16 then -1 else 0, 0) := by rw [List.take_zero]; decide
        rw [e]
        exact HH.out
      clear HH HT
      go_wp2
      rename World => W1
      go_loopw [16] (fun x W => ∃ k : Nat, k ≤ l.length ∧ x = .int .i64 k ∧ HoldsP W (w.heap.size + 1) (tabL fun n => tabAt (l.take k) n) ∧ Below (w.heap.size + 1) W0 W) (fun x _ => l.length - (intOf x).toNat)
      case atStart => exact ⟨0, by omega, rfl, HT2.out, hb⟩
      case round =>
        obtain ⟨k, hk', rfl, hH, hb2⟩ := hrel
        clear hb HT2
        have HH : Hid (HoldsP wr (w.heap.size + 1) (tabL fun n => tabAt (l.take k) n)) := hH
        by_cases hlt : k < l.length
        · have hbw : Below w.heap.size w wr := HB.out.trans (hb2.mono (by omega))
          have hPW : SlP wr a l := HP.out.below hbw
          rcases hPW with h' | ⟨b, off, rfl, hbl, hp⟩
          · exact absurd hlt (by simp [h'])
          have hr := (Orangery.inRangeB_iff _).1 ((Orangery.scan0_iff l).1 HS.out |>.1 l[k] (List.getElem_mem hlt))
          have HST : Hid (∀ n : Nat, tabAt (l.take (k + 1)) n = if (n : Int) = l[k].1 then l[k] else tabAt (l.take k) n) := tab_step l k hlt HS.out
          obtain ⟨g0, g1, g2⟩ := hp k hlt
          obtain ⟨m, hm⟩ : ∃ m : Nat, l[k].1 = m := ⟨l[k].1.toNat, by omega⟩
          have hm16 : m < 16 := by omega
          have hc := hH.1 m (by rw [tabL_len]; exact hm16)
          simp only [Nat.zero_add] at hc
          obtain ⟨x0, x1, x2⟩ := hc
          have f0 := hH.2 (m * 3) (by rw [tabL_len]; omega)
          have f1 := hH.2 (m * 3 + 1) (by rw [tabL_len]; omega)
          have f2 := hH.2 (m * 3 + 2) (by rw [tabL_len]; omega)
          have hlt2 : w.heap.size + 1 < wr.heap.size := by have := hb2.size; omega
          rw [hm] at g0
          have HM : Hid (l[k].1 = m) := hm
          clear hH hm hr hp
          go_wp2
          go_roundw
          case rel =>
            have h1 := HH.out.set m (by rw [tabL_len]; exact hm16) ((m : Int), l[k].2.1, l[k].2.2)
            rw [tabL_set _ (fun n => tabAt (l.take (k + 1)) n) m] at h1
            · exact ⟨k + 1, by omega, by go_num, h1.below (by simpa using hlt2) (Go.Joins.below_alloc1 _ _), (((hb2.setCell (by show _ ≤ w.heap.size + 1; omega) _).setCell (by show _ ≤ w.heap.size + 1; omega) _).setCell (by show _ ≤ w.heap.size + 1; omega) _).alloc (by simp; omega) _⟩
            · show tabAt (l.take (k + 1)) (m : Int) = _
              rw [HST.out, if_pos HM.out.symm, ← HM.out]
            · intro n hn
              show tabAt (l.take (k + 1)) (n : Int) = _
              rw [HST.out, if_neg (by rw [HM.out]; omega)]
          case measure => simp [intOf]; omega
        · have hkl : k = l.length := by omega
          subst hkl
          rw [List.take_length] at hH
          have hR : HoldsP wr w.heap.size (tabL fun _ => (0, 0, 0)) := by
            have h1 := HR.out
            exact ⟨fun i hi => by rw [hb2.cell (by show w.heap.size < _; omega), hb2.cell (by show w.heap.size < _; omega), hb2.cell (by show w.heap.size < _; omega)]; exact h1.1 i hi, fun i hi => by rw [hb2.frozen (by show w.heap.size < _; omega)]; exact h1.2 i hi⟩
          have hrg : wr.rangeAt (w.heap.size + 1) 0 ((tabL fun n => tabAt l n).flatMap encPl) := hH.range
          have hth : wr.there w.heap.size 0 ((tabL fun n => tabAt l n).flatMap encPl).length := by
            have := hR.there
            rw [tabL_len] at this
            rw [flat_len, tabL_len]
            exact this
          have HRG : Hid (wr.rangeAt (w.heap.size + 1) 0 ((tabL fun n => tabAt l n).flatMap encPl)) := hrg
          have HTH : Hid (wr.there w.heap.size 0 ((tabL fun n => tabAt l n).flatMap encPl).length) := hth
          have HI : Hid ((Tryz.prog.info? 56).map (·.size) = some ((tabL fun n => tabAt l n).flatMap encPl).length) := by show _ = _; rw [infoTable, flat_len, tabL_len]
          have HON : Hid (((tabL fun n => tabAt l n).flatMap encPl).toArray.all (·.oneCell') = true) := all_oneCell_toArray (flat_one _)
          have HV : Hid (tabV (fun n => tabAt l n) = .agg ((tabL fun n => tabAt l n).flatMap encPl).toArray) := rfl
          clear hH hrg hth hR HH
          generalize (tabL fun n => tabAt l n).flatMap encPl = cs at *
          go_wp2_with (first | (refine wpList_load_mid rfl 56 _ rfl (w.heap.size + 1) 0 rfl cs _ HRG.out Tryz.underlying56 rfl HI.out ?_) | (refine wpList_store_mid rfl 56 _ _ rfl w.heap.size 0 cs.toArray rfl rfl HTH.out HI.out HON.out ?_))
          have hld := run_loadVar_mid (P := Tryz.prog) (wr.setCells w.heap.size 0 cs) w.heap.size 0 56 cs _ (World.rangeAt_setCells_same wr w.heap.size 0 cs HTH.out) Tryz.underlying56 rfl HI.out
          refine bodyPost_ret (v := .agg cs.toArray) ?_ rfl ⟨by rw [HV.out], ?_⟩
          · simp [results, Tryz.results25, Act.put, asAddr, hld]
          · exact below_sets (HB.out.trans (hb2.mono (by omega))) _ (by omega) _ _
end Go.Proofs.YtkjgoikcibgonacGreat

/- orangeryref.between: by tables. -/
namespace Go.Proofs.YtkjgoikcibgonacGreat
open Go.ChangeShapes Go.WideShapes Go.ChangeAt Go.RowKit
open Orangery (Pl scan tabAt goneL hereL goneR hereR)

theorem HoldsP.at {w : World} {g : Nat} {m : List Pl} (h : HoldsP w g m) (k : Nat) (hk : k < m.length) : w.cell? ⟨g, k * 3, none⟩ = some (.int .i64 m[k].1) ∧ w.cell? ⟨g, k * 3 + 1, none⟩ = some (.int .i64 m[k].2.1) ∧ w.cell? ⟨g, k * 3 + 2, none⟩ = some (.int .i64 m[k].2.2) := by
  have := h.1 k hk
  simpa only [Nat.zero_add] using this
theorem goneR_len (a b : List Pl) (k : Nat) : (goneR a b k).length ≤ k := by
  induction k with
  | zero => simp [goneR]
  | succ k ih => rw [Orangery.goneR_succ, List.length_append]; split <;> simp <;> omega
theorem hereR_len (a b : List Pl) (k : Nat) : (hereR a b k).length ≤ k := by
  induction k with
  | zero => simp [hereR]
  | succ k ih => rw [Orangery.hereR_succ, List.length_append]; split <;> simp <;> omega

set_option maxHeartbeats 4000000 in
set_option maxRecDepth 100000 in
theorem rbetween_any (w : World) (x y : Option Addr) (cx cy : Nat) (a b : List Pl) (ha : scan 0 a = 0) (hb : scan 0 b = 0) (h1 : SlP w x a) (h2 : SlP w y b) :
    Calls Tryz.prog 23 #[.slice x a.length cx, .slice y b.length cy] w
      fun e w' => ∃ u v, e = .returned (.tuple #[u, v]) ∧ Pair w' w.heap.size u v (goneL a b) (hereL a b) ∧ Below w.heap.size w w' := by
  obtain ⟨i0, hi, hz0, hz1, hz2⟩ := info_parts infoPlace
  obtain ⟨j0, hj, hy0, hy1, hy2⟩ := info_parts infoInt
  have hla := Orangery.scan_small ha
  have hlb := Orangery.scan_small hb
  have HG : Hid (goneR a b 16 = goneL a b ∧ hereR a b 16 = hereL a b) := ⟨Orangery.gone_tab a b ha hb, Orangery.here_tab a b ha hb⟩
  go_enter Tryz.func23, Tryz.ntmps23
  go_wp2_with fail
  refine (table_any w x cx a (by omega) h1 ha).mono ?_
  rintro e w1 ⟨rfl, hb1⟩
  have h2' := h2.below hb1
  have hcs1 : ((tabL fun n => tabAt a n).flatMap encPl).length = 48 := by rw [flat_len, tabL_len]
  have hone1 := all_oneCell_toArray (flat_one (tabL fun n => tabAt a n))
  unfold tabV
  generalize hcd1 : (tabL fun n => tabAt a n).flatMap encPl = cs1 at *
  have HCD1 : Hid ((tabL fun n => tabAt a n).flatMap encPl = cs1) := hcd1
  clear hcd1
  go_wp2_with fail
  refine (table_any w1 y cy b (by omega) h2' hb).mono ?_
  rintro e w2 ⟨rfl, hb2⟩
  have HB2 : Hid (Below w.heap.size w w2) := hb1.trans (hb2.mono hb1.size)
  have hcs2 : ((tabL fun n => tabAt b n).flatMap encPl).length = 48 := by rw [flat_len, tabL_len]
  have hone2 := all_oneCell_toArray (flat_one (tabL fun n => tabAt b n))
  unfold tabV
  generalize hcd2 : (tabL fun n => tabAt b n).flatMap encPl = cs2 at *
  have HCD2 : Hid ((tabL fun n => tabAt b n).flatMap encPl = cs2) := hcd2
  clear hcd2 hb1 hb2 h1 h2 h2' ha hb
  obtain ⟨W3, hW3, k0, k1, hB3, hS3⟩ := laid2 w2 ((tabL fun _ => (0, 0, 0)).flatMap encPl) 56 ((tabL fun _ => (0, 0, 0)).flatMap encPl) 56
  replace hW3 : (w2.alloc (Obj.cells #[Value.int IntKind.i64 0, Value.int IntKind.i64 0, Value.int IntKind.i64 0, Value.int IntKind.i64 0, Value.int IntKind.i64 0, Value.int IntKind.i64 0, Value.int IntKind.i64 0, Value.int IntKind.i64 0, Value.int IntKind.i64 0, Value.int IntKind.i64 0, Value.int IntKind.i64 0, Value.int IntKind.i64 0, Value.int IntKind.i64 0, Value.int IntKind.i64 0, Value.int IntKind.i64 0, Value.int IntKind.i64 0, Value.int IntKind.i64 0, Value.int IntKind.i64 0, Value.int IntKind.i64 0, Value.int IntKind.i64 0, Value.int IntKind.i64 0, Value.int IntKind.i64 0, Value.int IntKind.i64 0, Value.int IntKind.i64 0, Value.int IntKind.i64 0, Value.int IntKind.i64 0, Value.int IntKind.i64 0, Value.int IntKind.i64 0, Value.int IntKind.i64 0, Value.int IntKind.i64 0, Value.int IntKind.i64 0, Value.int IntKind.i64 0, Value.int IntKind.i64 0, Value.int IntKind.i64 0, Value.int IntKind.i64 0, Value.int IntKind.i64 0, Value.int IntKind.i64 0, Value.int IntKind.i64 0, Value.int IntKind.i64 0, Value.int IntKind.i64 0, Value.int IntKind.i64 0, Value.int IntKind.i64 0, Value.int IntKind.i64 0, Value.int IntKind.i64 0, Value.int IntKind.i64 0, Value.int IntKind.i64 0, Value.int IntKind.i64 0, Value.int IntKind.i64 0] 56)).alloc (Obj.cells #[Value.int IntKind.i64 0, Value.int IntKind.i64 0, Value.int IntKind.i64 0, Value.int IntKind.i64 0, Value.int IntKind.i64 0, Value.int IntKind.i64 0, Value.int IntKind.i64 0, Value.int IntKind.i64 0, Value.int IntKind.i64 0, Value.int IntKind.i64 0, Value.int IntKind.i64 0, Value.int IntKind.i64 0, Value.int IntKind.i64 0, Value.int IntKind.i64 0, Value.int IntKind.i64 0, Value.int IntKind.i64 0, Value.int IntKind.i64 0, Value.int IntKind.i64 0, Value.int IntKind.i64 0, Value.int IntKind.i64 0, Value.int IntKind.i64 0, Value.int IntKind.i64 0, Value.int IntKind.i64 0, Value.int IntKind.i64 0, Value.int IntKind.i64 0, Value.int IntKind.i64 0, Value.int IntKind.i64 0, Value.int IntKind.i64 0, Value.int IntKind.i64 0, Value.int IntKind.i64 0, Value.int IntKind.i64 0, Value.int IntKind.i64 0, Value.int IntKind.i64 0, Value.int IntKind.i64 0, Value.int IntKind.i64 0, Value.int IntKind.i64 0, Value.int IntKind.i64 0, Value.int IntKind.i64 0, Value.int IntKind.i64 0, Value.int IntKind.i64 0, Value.int IntKind.i64 0, Value.int IntKind.i64 0, Value.int IntKind.i64 0, Value.int IntKind.i64 0, Value.int IntKind.i64 0, Value.int IntKind.i64 0, Value.int IntKind.i64 0, Value.int IntKind.i64 0] 56) = W3 := hW3
  have hlz : ((tabL fun _ => ((0, 0, 0) : Pl)).flatMap encPl).length = 48 := by rw [flat_len, tabL_len]
  have ne : w2.heap.size ≠ w2.heap.size + 1 := by omega
  have HT0 : Hid (W3.there w2.heap.size 0 cs1.toArray.size) := by
    show W3.there _ _ _
    have := k0.there
    rw [hlz] at this
    simpa [hcs1] using this
  have HT1 : Hid ((W3.setCells w2.heap.size 0 cs1).there (w2.heap.size + 1) 0 cs2.toArray.size) := by
    show World.there _ _ _ _
    have := (k1.others (Ne.symm ne) cs1 0).there
    rw [hlz] at this
    simpa [hcs2] using this
  have HI1 : Hid ((Tryz.prog.info? 56).map (·.size) = some cs1.toArray.size) := by show _ = _; rw [infoTable]; simp [hcs1]
  have HI2 : Hid ((Tryz.prog.info? 56).map (·.size) = some cs2.toArray.size) := by show _ = _; rw [infoTable]; simp [hcs2]
  have HO1 : Hid (cs1.toArray.all (·.oneCell') = true) := hone1
  have HO2 : Hid (cs2.toArray.all (·.oneCell') = true) := hone2
  have HL : Hid (cs1.length = 48 ∧ cs2.length = 48) := ⟨hcs1, hcs2⟩
  have HK : Hid (Blk W3 w2.heap.size ((tabL fun _ => (0, 0, 0)).flatMap encPl) ∧ Blk W3 (w2.heap.size + 1) ((tabL fun _ => (0, 0, 0)).flatMap encPl)) := ⟨k0, k1⟩
  clear k0 k1 hone1 hone2 hcs1 hcs2
  have HS3 : Hid (W3.heap.size = w2.heap.size + 2) := hS3
  have HLZ : Hid (((tabL fun _ => ((0, 0, 0) : Pl)).flatMap encPl).length = 48) := hlz
  clear hS3 hlz
  go_wp2_with (first | (with_reducible refine at_store 56 ?_; refine wpList_store_mid rfl 56 _ _ rfl w2.heap.size 0 cs1.toArray rfl rfl HT0.out HI1.out HO1.out ?_) | (with_reducible refine at_store 56 ?_; refine wpList_store_mid rfl 56 _ _ rfl (w2.heap.size + 1) 0 cs2.toArray rfl rfl HT1.out HI2.out HO2.out ?_))
  have hX6 : Blk ((W3.setCells w2.heap.size 0 cs1).setCells (w2.heap.size + 1) 0 cs2) w2.heap.size cs1 := (HK.out.1.sets cs1 (by rw [HL.out.1, HLZ.out])).others ne cs2 0
  have hX7 : Blk ((W3.setCells w2.heap.size 0 cs1).setCells (w2.heap.size + 1) 0 cs2) (w2.heap.size + 1) cs2 := (HK.out.2.others (Ne.symm ne) cs1 0).sets cs2 (by rw [HL.out.2, HLZ.out])
  have hB9 : Below w.heap.size w ((W3.setCells w2.heap.size 0 cs1).setCells (w2.heap.size + 1) 0 cs2) := below_sets (below_sets (HB2.out.trans (hB3.mono HB2.out.size)) w2.heap.size HB2.out.size cs1 0) (w2.heap.size + 1) (Nat.le_succ_of_le HB2.out.size) cs2 0
  clear hB3 hW3 HT0 HT1 HI1 HI2 HO1 HO2 HL HK HS3 HLZ
  generalize (W3.setCells w2.heap.size 0 cs1).setCells (w2.heap.size + 1) 0 cs2 = W9 at *
  have hlt6 := hX6.lt
  have hlt7 := hX7.lt
  have HX6 : Hid (HoldsP W9 w2.heap.size (tabL fun n => tabAt a n)) := by
    show HoldsP _ _ _
    rw [← HCD1.out] at hX6
    exact hX6.holds
  have HX7 : Hid (HoldsP W9 (w2.heap.size + 1) (tabL fun n => tabAt b n)) := by
    show HoldsP _ _ _
    rw [← HCD2.out] at hX7
    exact hX7.holds
  have HB9 : Hid (Below w.heap.size w W9) := hB9
  have heq := run_eql_pl
  have hgd := guard_pl
  clear hX6 hX7 hB9 ne HCD1 HCD2
  go_loopw [8, 9, 10] (fun u v i W => ∃ k : Nat, 1 ≤ k ∧ k ≤ 16 ∧ i = .int .i64 k ∧ Pair W W9.heap.size u v (goneR a b k) (hereR a b k) ∧ Below W9.heap.size W9 W) (fun _ _ i _ => 16 - (intOf i).toNat)
  case atStart => exact ⟨1, by omega, by omega, rfl, Pair.nil _ _, Below.refl _ _⟩
  case round =>
    obtain ⟨k, hk1, hk, rfl, hpr, hb⟩ := hrel
    have hge : W9.heap.size ≤ wr.heap.size := hb.size
    by_cases hlt : k < 16
    · have HG1 : Hid (goneR a b (k + 1) = goneR a b k ++ if 0 < k ∧ tabAt a k ≠ tabAt b k ∧ (tabAt b k).2.1 < 0 then [(k : Int)] else []) := Orangery.goneR_succ a b k
      have HH1 : Hid (hereR a b (k + 1) = hereR a b k ++ if 0 < k ∧ tabAt a k ≠ tabAt b k ∧ ¬ (tabAt b k).2.1 < 0 then [tabAt b k] else []) := Orangery.hereR_succ a b k
      have hGl := goneR_len a b k
      have hHl := hereR_len a b k
      have c6 := (HX6.out.below hlt6 hb).at k (by rw [tabL_len]; exact hlt)
      have c7 := (HX7.out.below hlt7 hb).at k (by rw [tabL_len]; exact hlt)
      simp only [tabL_get] at c6 c7
      generalize goneR a b k = G at *
      generalize hereR a b k = H at *
      generalize tabAt a k = p at *
      generalize tabAt b k = q at *
      obtain ⟨p0, p1, p2⟩ := p
      obtain ⟨q0, q1, q2⟩ := q
      obtain ⟨s0, s1, s2⟩ := c6
      obtain ⟨t0, t1, t2⟩ := c7
      dsimp only at s0 s1 s2 t0 t1 t2 HG1 HH1
      have hlti : (k : Int) < 16 := by omega
      go_wp2
      go_quiet (fail)
      have hbq : Below wr.heap.size wr (wr.drewN nq) := ⟨rfl, rfl, rfl, Nat.le_refl _, fun _ _ => rfl⟩
      have t0' : (wr.drewN nq).cell? ⟨w2.heap.size + 1, k * 3, none⟩ = some (.int .i64 q0) := t0
      have t1' : (wr.drewN nq).cell? ⟨w2.heap.size + 1, k * 3 + 1, none⟩ = some (.int .i64 q1) := t1
      have t2' : (wr.drewN nq).cell? ⟨w2.heap.size + 1, k * 3 + 2, none⟩ = some (.int .i64 q2) := t2
      have HPQ : Hid (Pair (wr.drewN nq) W9.heap.size u8 u9 G H) := hpr.keep hbq
      have HBQ : Hid (Below W9.heap.size W9 (wr.drewN nq)) := hb.trans (hbq.mono hge)
      have hgq : W9.heap.size ≤ (wr.drewN nq).heap.size := hge
      clear s0 s1 s2 t0 t1 t2 hpr hb hbq
      generalize wr.drewN nq = wq at *
      cases hq : eqPl (p0, p1, p2) (q0, q1, q2)
      · have hne : ((p0, p1, p2) : Pl) ≠ (q0, q1, q2) := by simpa [eqPl] using hq
        by_cases hneg : q1 < 0
        · have d1 : decide (q1 < 0) = true := by simpa using hneg
          have HE1 : Hid (goneR a b (k + 1) = G ++ [(k : Int)]) := by show _ = _; rw [HG1.out, if_pos ⟨by omega, hne, hneg⟩]
          have HE2 : Hid (hereR a b (k + 1) = H) := by show _ = _; rw [HH1.out, if_neg (fun h => by have := h.2.2; omega), List.append_nil]
          clear HG1 HH1 hne hneg hq
          obtain ⟨WW, hWW, hZ, hBz, hSz⟩ := laid1 wq [Value.int IntKind.i64 k] 3
          have HPRZ : Hid (Pair WW W9.heap.size u8 u9 G H) := HPQ.out.keep hBz
          have hown : WW.ownsRow W9.heap.size 3 1 u8 G.length (G.map (Value.int .i64)) := HPRZ.out.1
          have HBZ : Hid (Below W9.heap.size W9 WW) := HBQ.out.trans (hBz.mono hgq)
          have HZ : Hid (Blk WW wq.heap.size [Value.int IntKind.i64 k]) := hZ
          have HSZ : Hid (WW.heap.size = wq.heap.size + 1) := hSz
          have hgw : W9.heap.size ≤ WW.heap.size := HBZ.out.size
          clear hBz hZ hSz HPQ HBQ
          go_wp2_with (at_builtin; refine wpList_append_own _ rfl _ _ 22 rfl W9.heap.size 3 j0 _ 1 8 Tryz.underlying22 hj hy0 hy1 hy2 rfl (by decide) _ _ _ rfl hown ⟨wq.heap.size, 0, none⟩ 1 1 [.int .i64 k] rfl rfl ?c1 ?c2 ?c3 ?c4 ?c5 ?_)
          case c1 => intro j y hj; rw [Addr.add_mid, Nat.zero_add]; exact HZ.out.at j hj
          case c2 => exact int_one k
          case c3 => unfold maxLen; omega
          case c4 => omega
          case c5 => omega
          intro u' w4 hown' hgrow _
          have hlo := HPRZ.out.lo.1
          have hO' : OwnI w4 W9.heap.size u' (G ++ [(k : Int)]) := by simpa [OwnI] using hown'
          have HPR4 : Hid (Pair w4 W9.heap.size u' u9 (G ++ [(k : Int)]) H) := HPRZ.out.growI hO' hgrow
          have HB4 : Hid (Below W9.heap.size W9 w4) := HBZ.out.grown hgrow hgw (fun g hg => hlo g hg)
          clear hown hown' hgrow hO' hlo HPRZ HBZ HZ hWW t0' t1' t2' HSZ
          go_wp2
          go_roundw
          case rel => exact ⟨k + 1, by omega, hlt, by go_num, by rw [HE1.out, HE2.out]; exact HPR4.out, HB4.out⟩
          case measure => simp [intOf]; omega
        · have d1 : decide (q1 < 0) = false := by simpa using hneg
          have HE1 : Hid (goneR a b (k + 1) = G) := by show _ = _; rw [HG1.out, if_neg (fun h => by have := h.2.2; omega), List.append_nil]
          have HE2 : Hid (hereR a b (k + 1) = H ++ [(q0, q1, q2)]) := by show _ = _; rw [HH1.out, if_pos ⟨by omega, hne, by omega⟩]
          clear HG1 HH1 hne hneg hq
          obtain ⟨WW, hWW, hZ, hBz, hSz⟩ := laid1 wq [Value.int IntKind.i64 q0, Value.int IntKind.i64 q1, Value.int IntKind.i64 q2] 55
          have HPRZ : Hid (Pair WW W9.heap.size u8 u9 G H) := HPQ.out.keep hBz
          have hown : WW.ownsRow W9.heap.size 55 3 u9 H.length (H.flatMap encPl) := HPRZ.out.2
          have HBZ : Hid (Below W9.heap.size W9 WW) := HBQ.out.trans (hBz.mono hgq)
          have HZ : Hid (Blk WW wq.heap.size [Value.int IntKind.i64 q0, Value.int IntKind.i64 q1, Value.int IntKind.i64 q2]) := hZ
          have HSZ : Hid (WW.heap.size = wq.heap.size + 1) := hSz
          have hgw : W9.heap.size ≤ WW.heap.size := HBZ.out.size
          clear hBz hZ hSz HPQ HBQ
          go_wp2_with (at_builtin; refine wpList_append_own _ rfl _ _ 23 rfl W9.heap.size 55 i0 _ 3 24 Tryz.underlying23 hi hz0 hz1 hz2 rfl (by decide) _ _ _ rfl hown ⟨wq.heap.size, 0, none⟩ 1 1 [.int .i64 q0, .int .i64 q1, .int .i64 q2] rfl rfl ?c1 ?c2 ?c3 ?c4 ?c5 ?_)
          case c1 => intro j y hj; rw [Addr.add_mid, Nat.zero_add]; exact HZ.out.at j hj
          case c2 => exact encPl_one (q0, q1, q2)
          case c3 => unfold maxLen; omega
          case c4 => omega
          case c5 => omega
          intro v' w4 hown' hgrow _
          have hlo := HPRZ.out.lo.2
          have hO' : OwnE encPl 3 55 w4 W9.heap.size v' (H ++ [(q0, q1, q2)]) := by simpa [OwnE, encPl] using hown'
          have HPR4 : Hid (Pair w4 W9.heap.size u8 v' G (H ++ [(q0, q1, q2)])) := HPRZ.out.growP hO' hgrow
          have HB4 : Hid (Below W9.heap.size W9 w4) := HBZ.out.grown hgrow hgw (fun g hg => hlo g hg)
          clear hown hown' hgrow hO' hlo HPRZ HBZ HZ hWW t0' t1' t2' HSZ
          go_wp2
          go_roundw
          case rel => exact ⟨k + 1, by omega, hlt, by go_num, by rw [HE1.out, HE2.out]; exact HPR4.out, HB4.out⟩
          case measure => simp [intOf]; omega
      · have heq' : ((p0, p1, p2) : Pl) = (q0, q1, q2) := by simpa [eqPl] using hq
        have HE1 : Hid (goneR a b (k + 1) = G) := by show _ = _; rw [HG1.out, if_neg (fun h => h.2.1 heq'), List.append_nil]
        have HE2 : Hid (hereR a b (k + 1) = H) := by show _ = _; rw [HH1.out, if_neg (fun h => h.2.1 heq'), List.append_nil]
        clear HG1 HH1 hq heq'
        go_wp2
        go_roundw
        case rel => exact ⟨k + 1, by omega, hlt, by go_num, by rw [HE1.out, HE2.out]; exact HPQ.out, HBQ.out⟩
        case measure => simp [intOf]; omega
    · have hk' : k = 16 := by omega
      subst hk'
      rw [HG.out.1, HG.out.2] at hpr
      have HPR : Hid (Pair wr w.heap.size u8 u9 (goneL a b) (hereL a b)) := hpr.mono HB9.out.size
      have HBF : Hid (Below w.heap.size w wr) := HB9.out.trans (hb.mono HB9.out.size)
      clear hpr hb
      go_wp2
      go_ret2
      exact ⟨_, _, rfl, HPR.out, HBF.out⟩
end Go.Proofs.YtkjgoikcibgonacGreat

/- orangeryref.table of places in whatever order: of one node the last one counts. -/
namespace Go.Proofs.YtkjgoikcibgonacGreat
open Go.ChangeShapes Go.WideShapes Go.ChangeAt Go.RowKit
open Orangery (Pl Mv Stp outL inL tabLast find scan)

set_option maxHeartbeats 1000000 in
theorem table_gen (w : World) (a : Option Addr) (c : Nat) (l : List Pl) (hl : l.length ≤ 1000) (h : SlP w a l) (hs : ∀ p ∈ l, 0 ≤ p.1 ∧ p.1 ≤ 15) :
    Calls Tryz.prog 25 #[.slice a l.length c] w
      fun e w' => e = .returned (tabV fun n => tabLast l n) ∧ Below w.heap.size w w' := by
  go_enter Tryz.func25, Tryz.ntmps25
  go_wp2
  obtain ⟨W0, hW, h0, h1, hB, hS⟩ := laid2 w ((tabL fun _ => (0, 0, 0)).flatMap encPl) 56 ((tabL fun _ => (0, 0, 0)).flatMap encPl) 56
  replace hW : (w.alloc (Obj.cells #[Value.int IntKind.i64 0, Value.int IntKind.i64 0, Value.int IntKind.i64 0, Value.int IntKind.i64 0, Value.int IntKind.i64 0, Value.int IntKind.i64 0, Value.int IntKind.i64 0, Value.int IntKind.i64 0, Value.int IntKind.i64 0, Value.int IntKind.i64 0, Value.int IntKind.i64 0, Value.int IntKind.i64 0, Value.int IntKind.i64 0, Value.int IntKind.i64 0, Value.int IntKind.i64 0, Value.int IntKind.i64 0, Value.int IntKind.i64 0, Value.int IntKind.i64 0, Value.int IntKind.i64 0, Value.int IntKind.i64 0, Value.int IntKind.i64 0, Value.int IntKind.i64 0, Value.int IntKind.i64 0, Value.int IntKind.i64 0, Value.int IntKind.i64 0, Value.int IntKind.i64 0, Value.int IntKind.i64 0, Value.int IntKind.i64 0, Value.int IntKind.i64 0, Value.int IntKind.i64 0, Value.int IntKind.i64 0, Value.int IntKind.i64 0, Value.int IntKind.i64 0, Value.int IntKind.i64 0, Value.int IntKind.i64 0, Value.int IntKind.i64 0, Value.int IntKind.i64 0, Value.int IntKind.i64 0, Value.int IntKind.i64 0, Value.int IntKind.i64 0, Value.int IntKind.i64 0, Value.int IntKind.i64 0, Value.int IntKind.i64 0, Value.int IntKind.i64 0, Value.int IntKind.i64 0, Value.int IntKind.i64 0, Value.int IntKind.i64 0, Value.int IntKind.i64 0] 56)).alloc (Obj.cells #[Value.int IntKind.i64 0, Value.int IntKind.i64 0, Value.int IntKind.i64 0, Value.int IntKind.i64 0, Value.int IntKind.i64 0, Value.int IntKind.i64 0, Value.int IntKind.i64 0, Value.int IntKind.i64 0, Value.int IntKind.i64 0, Value.int IntKind.i64 0, Value.int IntKind.i64 0, Value.int IntKind.i64 0, Value.int IntKind.i64 0, Value.int IntKind.i64 0, Value.int IntKind.i64 0, Value.int IntKind.i64 0, Value.int IntKind.i64 0, Value.int IntKind.i64 0, Value.int IntKind.i64 0, Value.int IntKind.i64 0, Value.int IntKind.i64 0, Value.int IntKind.i64 0, Value.int IntKind.i64 0, Value.int IntKind.i64 0, Value.int IntKind.i64 0, Value.int IntKind.i64 0, Value.int IntKind.i64 0, Value.int IntKind.i64 0, Value.int IntKind.i64 0, Value.int IntKind.i64 0, Value.int IntKind.i64 0, Value.int IntKind.i64 0, Value.int IntKind.i64 0, Value.int IntKind.i64 0, Value.int IntKind.i64 0, Value.int IntKind.i64 0, Value.int IntKind.i64 0, Value.int IntKind.i64 0, Value.int IntKind.i64 0, Value.int IntKind.i64 0, Value.int IntKind.i64 0, Value.int IntKind.i64 0, Value.int IntKind.i64 0, Value.int IntKind.i64 0, Value.int IntKind.i64 0, Value.int IntKind.i64 0, Value.int IntKind.i64 0, Value.int IntKind.i64 0] 56) = W0 := hW
  rw [hW]
  clear hW
  have HR : Hid (HoldsP W0 w.heap.size (tabL fun _ => (0, 0, 0))) := h0.holds
  have HT : Hid (HoldsP W0 (w.heap.size + 1) (tabL fun _ => (0, 0, 0))) := h1.holds
  have HP : Hid (SlP w a l) := h
  have HB : Hid (Below w.heap.size w W0) := hB
  have HS : Hid (∀ p ∈ l, 0 ≤ p.1 ∧ p.1 ≤ 15) := hs
  clear h0 h1 h hB hs
  go_loopw [7] (fun x W => ∃ k : Nat, k ≤ 16 ∧ x = .int .i64 k ∧ HoldsP W (w.heap.size + 1) (tabL fun n => (0, if n < k then -1 else 0, 0)) ∧ Below (w.heap.size + 1) W0 W) (fun x _ => 16 - (intOf x).toNat)
  case atStart => exact ⟨0, by omega, rfl, HT.out, Below.refl _ _⟩
  case round =>
    obtain ⟨k, hk, rfl, hH, hb⟩ := hrel
    have HH : Hid (HoldsP wr (w.heap.size + 1) (tabL fun n => (0, if n < k then -1 else 0, 0))) := hH
    by_cases hlt : k < 16
    · have hc := (hH.1 k (by rw [tabL_len]; exact hlt)).2.1
      have hf := hH.2 (k * 3 + 1) (by rw [tabL_len]; omega)
      simp only [Nat.zero_add] at hc
      clear hH
      go_wp2
      go_roundw
      case rel =>
        refine ⟨k + 1, by omega, by go_num, ?_, hb.setCell (by show _ ≤ w.heap.size + 1; omega) _⟩
        have h1 := HH.out.set1 k (by rw [tabL_len]; exact hlt) (-1)
        rw [tabL_get] at h1
        rw [tabL_set _ (fun n => (0, if n < k + 1 then -1 else 0, 0)) k] at h1
        · exact h1
        · simp
        · intro n hn
          by_cases h2 : n < k
          · simp [h2, show n < k + 1 by omega]
          · simp [h2, show ¬ n < k + 1 by omega]
      case measure => simp [intOf]; omega
    · have hk16 : k = 16 := by omega
      subst hk16
      clear hH
      have HT2 : Hid (HoldsP wr (w.heap.size + 1) (tabL fun n => tabLast (l.take 0) n)) := by
        show HoldsP _ _ _
        have e : (tabL fun n => tabLast (l.take 0) n) = tabL fun n => (0, if n < 16 then -1 else 0, 0) := by rw [List.take_zero]; decide
        rw [e]
        exact HH.out
      clear HH HT
      go_wp2
      rename World => W1
      go_loopw [16] (fun x W => ∃ k : Nat, k ≤ l.length ∧ x = .int .i64 k ∧ HoldsP W (w.heap.size + 1) (tabL fun n => tabLast (l.take k) n) ∧ Below (w.heap.size + 1) W0 W) (fun x _ => l.length - (intOf x).toNat)
      case atStart => exact ⟨0, by omega, rfl, HT2.out, hb⟩
      case round =>
        obtain ⟨k, hk', rfl, hH, hb2⟩ := hrel
        clear hb HT2
        have HH : Hid (HoldsP wr (w.heap.size + 1) (tabL fun n => tabLast (l.take k) n)) := hH
        by_cases hlt : k < l.length
        · have hbw : Below w.heap.size w wr := HB.out.trans (hb2.mono (by omega))
          have hPW : SlP wr a l := HP.out.below hbw
          rcases hPW with h' | ⟨b, off, rfl, hbl, hp⟩
          · exact absurd hlt (by simp [h'])
          have hr := HS.out l[k] (List.getElem_mem hlt)
          have HST : Hid (∀ n : Nat, tabLast (l.take (k + 1)) n = if (n : Int) = l[k].1 then l[k] else tabLast (l.take k) n) := fun n => Orangery.tabLast_take l k hlt n
          obtain ⟨g0, g1, g2⟩ := hp k hlt
          obtain ⟨m, hm⟩ : ∃ m : Nat, l[k].1 = m := ⟨l[k].1.toNat, by omega⟩
          have hm16 : m < 16 := by omega
          have hc := hH.1 m (by rw [tabL_len]; exact hm16)
          simp only [Nat.zero_add] at hc
          obtain ⟨x0, x1, x2⟩ := hc
          have f0 := hH.2 (m * 3) (by rw [tabL_len]; omega)
          have f1 := hH.2 (m * 3 + 1) (by rw [tabL_len]; omega)
          have f2 := hH.2 (m * 3 + 2) (by rw [tabL_len]; omega)
          have hlt2 : w.heap.size + 1 < wr.heap.size := by have := hb2.size; omega
          rw [hm] at g0
          have HM : Hid (l[k].1 = m) := hm
          clear hH hm hr hp
          go_wp2
          go_roundw
          case rel =>
            have h1 := HH.out.set m (by rw [tabL_len]; exact hm16) ((m : Int), l[k].2.1, l[k].2.2)
            rw [tabL_set _ (fun n => tabLast (l.take (k + 1)) n) m] at h1
            · exact ⟨k + 1, by omega, by go_num, h1.below (by simpa using hlt2) (Go.Joins.below_alloc1 _ _), (((hb2.setCell (by show _ ≤ w.heap.size + 1; omega) _).setCell (by show _ ≤ w.heap.size + 1; omega) _).setCell (by show _ ≤ w.heap.size + 1; omega) _).alloc (by simp; omega) _⟩
            · show tabLast (l.take (k + 1)) (m : Int) = _
              rw [HST.out, if_pos HM.out.symm, ← HM.out]
            · intro n hn
              show tabLast (l.take (k + 1)) (n : Int) = _
              rw [HST.out, if_neg (by rw [HM.out]; omega)]
          case measure => simp [intOf]; omega
        · have hkl : k = l.length := by omega
          subst hkl
          rw [List.take_length] at hH
          have hR : HoldsP wr w.heap.size (tabL fun _ => (0, 0, 0)) := by
            have h1 := HR.out
            exact ⟨fun i hi => by rw [hb2.cell (by show w.heap.size < _; omega), hb2.cell (by show w.heap.size < _; omega), hb2.cell (by show w.heap.size < _; omega)]; exact h1.1 i hi, fun i hi => by rw [hb2.frozen (by show w.heap.size < _; omega)]; exact h1.2 i hi⟩
          have hrg : wr.rangeAt (w.heap.size + 1) 0 ((tabL fun n => tabLast l n).flatMap encPl) := hH.range
          have hth : wr.there w.heap.size 0 ((tabL fun n => tabLast l n).flatMap encPl).length := by
            have := hR.there
            rw [tabL_len] at this
            rw [flat_len, tabL_len]
            exact this
          have HRG : Hid (wr.rangeAt (w.heap.size + 1) 0 ((tabL fun n => tabLast l n).flatMap encPl)) := hrg
          have HTH : Hid (wr.there w.heap.size 0 ((tabL fun n => tabLast l n).flatMap encPl).length) := hth
          have HI : Hid ((Tryz.prog.info? 56).map (·.size) = some ((tabL fun n => tabLast l n).flatMap encPl).length) := by show _ = _; rw [infoTable, flat_len, tabL_len]
          have HON : Hid (((tabL fun n => tabLast l n).flatMap encPl).toArray.all (·.oneCell') = true) := all_oneCell_toArray (flat_one _)
          have HV : Hid (tabV (fun n => tabLast l n) = .agg ((tabL fun n => tabLast l n).flatMap encPl).toArray) := rfl
          clear hH hrg hth hR HH
          generalize (tabL fun n => tabLast l n).flatMap encPl = cs at *
          go_wp2_with (first | (refine wpList_load_mid rfl 56 _ rfl (w.heap.size + 1) 0 rfl cs _ HRG.out Tryz.underlying56 rfl HI.out ?_) | (refine wpList_store_mid rfl 56 _ _ rfl w.heap.size 0 cs.toArray rfl rfl HTH.out HI.out HON.out ?_))
          have hld := run_loadVar_mid (P := Tryz.prog) (wr.setCells w.heap.size 0 cs) w.heap.size 0 56 cs _ (World.rangeAt_setCells_same wr w.heap.size 0 cs HTH.out) Tryz.underlying56 rfl HI.out
          refine bodyPost_ret (v := .agg cs.toArray) ?_ rfl ⟨by rw [HV.out], ?_⟩
          · simp [results, Tryz.results25, Act.put, asAddr, hld]
          · exact below_sets (HB.out.trans (hb2.mono (by omega))) _ (by omega) _ _
end Go.Proofs.YtkjgoikcibgonacGreat

/- orangeryref.places: the places of a table. -/
namespace Go.Proofs.YtkjgoikcibgonacGreat
open Go.ChangeShapes Go.WideShapes Go.ChangeAt Go.RowKit
open Orangery (Pl rows)

theorem flat_part (l : List Pl) : ∀ i, (h : i < l.length) → ((l.flatMap encPl).drop (i * 3)).take 3 = encPl l[i] := by
  induction l with
  | nil => intro i h; simp at h
  | cons p l ih =>
    intro i h
    cases i with
    | zero => simp [encPl]
    | succ i =>
      have e : (i + 1) * 3 = (encPl p).length + i * 3 := by simp [encPl]; omega
      have e2 : (encPl p).drop ((encPl p).length + i * 3) = [] := List.drop_of_length_le (by omega)
      rw [List.flatMap_cons, e, List.drop_append, e2, List.nil_append, Nat.add_sub_cancel_left]
      simpa using ih i (by simpa using h)

theorem run_index_tab (t : Nat → Pl) (k : Nat) (hk : k < 16) (w : World) : (Instr.index 56 (tabV t) (.int .i64 k)).run Tryz.prog w = .ok (plV (t k)) w := by
  have hu := Tryz.underlying56
  have ha := Tryz.isAgg55
  have hz := Tryz.sizeOf55
  have hx : ((((tabL t).flatMap encPl).drop (k * 3)).take 3) = [.int .i64 (t k).1, .int .i64 (t k).2.1, .int .i64 (t k).2.2] := by
    have h1 := flat_part (tabL t) k (by rw [tabL_len]; exact hk)
    rw [tabL_get] at h1
    exact h1
  have hlt : (0 : Int) ≤ k ∧ (k : Int) < 16 := by omega
  unfold Instr.index tabV
  go_simp

set_option maxHeartbeats 1000000 in
set_option maxRecDepth 100000 in
theorem places_any (w : World) (t : Nat → Pl) :
    Calls Tryz.prog 26 #[tabV t] w
      fun e w' => ∃ v, e = .returned v ∧ OwnS w' w.heap.size v (rows t 16) ∧ Below w.heap.size w w' := by
  have hlen : ((tabL t).flatMap encPl).length = 48 := by rw [flat_len, tabL_len]
  unfold tabV
  generalize hcs : (tabL t).flatMap encPl = cs at *
  have HCS : Hid ((tabL t).flatMap encPl = cs) := hcs
  clear hcs
  have hix : ∀ (k : Nat) (W : World), k < 16 → (Instr.index 56 (.agg cs.toArray) (.int .i64 k)).run Tryz.prog W = .ok (plV (t k)) W := fun k W hk => by
    rw [← HCS.out]
    exact run_index_tab t k hk W
  have HI : Hid ((Tryz.prog.info? 56).map (·.size) = some cs.length) := by show _ = _; rw [infoTable, hlen]
  have hN := Blk.new w cs 56
  have hB := Go.Joins.below_alloc1 w (Obj.cells cs.toArray 56)
  have HN : Hid ((w.alloc (Obj.cells cs.toArray 56)).rangeAt w.heap.size 0 cs) := fun j v hv => by rw [Nat.zero_add]; exact hN.at j hv
  clear hN
  go_enter Tryz.func26, Tryz.ntmps26
  obtain ⟨i0, hi, hz0, hz1, hz2⟩ := info_parts infoPlace
  go_wp2_with (first | (refine wpList_load_mid rfl 56 _ rfl w.heap.size 0 rfl cs _ HN.out Tryz.underlying56 rfl HI.out ?_))
  generalize hW : w.alloc (Obj.cells cs.toArray 56) = W0 at hB
  have hS : W0.heap.size = w.heap.size + 1 := by subst hW; simp
  clear hW HN HI HCS hlen
  go_loopw [3, 7] (fun v i W => ∃ k : Nat, k ≤ 16 ∧ i = .int .i64 k ∧ W.ownsRow W0.heap.size 55 3 v (rows t k).length ((rows t k).flatMap encPl) ∧ Below W0.heap.size W0 W) (fun _ i _ => 16 - (intOf i).toNat)
  case atStart => exact ⟨0, by omega, rfl, World.ownsRow_nil _ _ _ _, Below.refl _ _⟩
  case round =>
    obtain ⟨k, hk, rfl, hown, hb⟩ := hrel
    have hkl := Orangery.rows_len t k
    by_cases hlt : k < 16
    · have HS : Hid (rows t (k + 1) = rows t k ++ if 0 < k ∧ 0 ≤ (t k).2.1 then [t k] else []) := Orangery.rows_succ t k
      have hixk : ∀ W, (Instr.index 56 (.agg cs.toArray) (.int .i64 k)).run Tryz.prog W = .ok (plV (t k)) W := fun W => hix k W hlt
      have HIX : Hid (∀ (k : Nat) (W : World), k < 16 → (Instr.index 56 (.agg cs.toArray) (.int .i64 k)).run Tryz.prog W = .ok (plV (t k)) W) := hix
      clear hix
      generalize hq : t k = q at *
      obtain ⟨q0, q1, q2⟩ := q
      clear hq
      generalize rows t k = K at *
      have hown1 := hown.alloc (Obj.cells #[Value.int IntKind.i64 q0, Value.int IntKind.i64 q1, Value.int IntKind.i64 q2] 55)
      have hb1 := hb.alloc hb.size (Obj.cells #[Value.int IntKind.i64 q0, Value.int IntKind.i64 q1, Value.int IntKind.i64 q2] 55)
      by_cases h0 : 0 < k
      · have d0 : decide ((k : Int) > 0) = true := by simp; omega
        by_cases h1 : 0 ≤ q1
        · have d1 : decide (q1 ≥ 0) = true := by simpa using h1
          have HF : Hid ((if 0 < k ∧ 0 ≤ ((q0, q1, q2) : Pl).2.1 then [((q0, q1, q2) : Pl)] else []) = [(q0, q1, q2)]) := by show _ = _; rw [if_pos ⟨h0, h1⟩]
          have hown2 := hown1.alloc (Obj.cells #[Value.int IntKind.i64 q0, Value.int IntKind.i64 q1, Value.int IntKind.i64 q2] 55)
          have hb3 := hb1.alloc (by simp; exact Nat.le_succ_of_le hb.size) (Obj.cells #[Value.int IntKind.i64 q0, Value.int IntKind.i64 q1, Value.int IntKind.i64 q2] 55)
          clear hown hown1
          go_wp2_with (at_builtin; refine wpList_append_own _ rfl _ _ 23 rfl W0.heap.size 55 i0 _ 3 24 Tryz.underlying23 hi hz0 hz1 hz2 rfl (by decide) _ _ _ rfl hown2 ⟨wr.heap.size + 1, 0, none⟩ 1 1 [.int .i64 q0, .int .i64 q1, .int .i64 q2] rfl rfl ?c1 ?c2 ?c3 ?c4 ?c5 ?_)
          case c2 => exact ⟨rfl, rfl, rfl⟩
          case c3 => unfold maxLen; omega
          case c4 => omega
          case c5 => have := hb.size; omega
          · intro v' w4 hown' hgrow _
            have hb4 := hb3.trans (below_grown hown2 hb3.size hgrow)
            clear hgrow hown2
            go_wp2
            go_roundw
            case rel =>
              refine ⟨k + 1, hlt, by go_num, ?_, hb4⟩
              rw [HS.out, HF.out, hS]
              simpa [encPl] using hown'
            case measure => simp [intOf]; omega
        · have d1 : decide (q1 ≥ 0) = false := by simpa using h1
          have HF : Hid ((if 0 < k ∧ 0 ≤ ((q0, q1, q2) : Pl).2.1 then [((q0, q1, q2) : Pl)] else []) = []) := by show _ = _; rw [if_neg (fun hh => h1 hh.2)]
          go_wp2
          go_roundw
          case rel =>
            refine ⟨k + 1, hlt, by go_num, ?_, hb1⟩
            rw [HS.out, HF.out, List.append_nil]
            exact hown1
          case measure => simp [intOf]; omega
      · have d0 : decide ((k : Int) > 0) = false := by simp; omega
        have HF : Hid ((if 0 < k ∧ 0 ≤ ((q0, q1, q2) : Pl).2.1 then [((q0, q1, q2) : Pl)] else []) = []) := by show _ = _; rw [if_neg (fun hh => h0 hh.1)]
        go_wp2
        go_roundw
        case rel =>
          refine ⟨k + 1, hlt, by go_num, ?_, hb1⟩
          rw [HS.out, HF.out, List.append_nil]
          exact hown1
        case measure => simp [intOf]; omega
    · have hk' : k = 16 := by omega
      subst hk'
      have hO := own_pls hown
      clear hown
      go_wp2
      go_ret
      exact ⟨_, rfl, hO.mono (by omega), hB.trans (hb.mono (by omega))⟩
end Go.Proofs.YtkjgoikcibgonacGreat

/- orangeryref.CheckRoots, orangeryref.AllOf. -/
namespace Go.Proofs.YtkjgoikcibgonacGreat
open Go.ChangeShapes Go.WideShapes Go.ChangeAt Go.RowKit
open Orangery (Pl isNodeB rootsE rootsOk hasB togL scan tabLast rows)

set_option maxHeartbeats 1000000 in
theorem rroots_any (w : World) (a : Option Addr) (c : Nat) (l : List Int) (hl : l.length ≤ maxLen) (h : SlI w a l) :
    Calls Tryz.prog 47 #[.slice a l.length c] w fun e w' => e = .returned (.int .i64 (rootsOk l)) ∧ w' = w := by
  have hl' : l.length ≤ 9223372036854775807 := hl
  by_cases h4 : 4 < l.length
  · have d4 : decide ((l.length : Int) > 4) = true := by simp; omega
    have HE : Hid (rootsOk l = 2) := by show _ = _; unfold rootsOk; rw [if_pos h4]
    clear h4
    go_enter Tryz.func47, Tryz.ntmps47
    go_wp2
    go_ret
    exact ⟨ret_int HE.out.symm, rfl⟩
  · have d4 : decide ((l.length : Int) > 4) = false := by simp; omega
    have HE : Hid (rootsOk l = rootsE (-1) l) := by show _ = _; unfold rootsOk; rw [if_neg h4]
    go_enter Tryz.func47, Tryz.ntmps47
    go_wp2
    go_loop [3, 11] (fun x i => ∃ (k : Nat) (m : Int), k ≤ l.length ∧ x = .int .i64 m ∧ i = .int .i64 k ∧ rootsE m (l.drop k) = rootsE (-1) l) (fun _ i => l.length - (intOf i).toNat)
    case atStart => exact ⟨0, -1, Nat.zero_le _, rfl, rfl, rfl⟩
    case round =>
      obtain ⟨k, m, hk, rfl, rfl, hf⟩ := hrel
      by_cases hlt : k < l.length
      · obtain ⟨s1, s2, s3⟩ := Orangery.rootsE_step l k _ hlt hf
        have H1 : Hid (isNodeB l[k] = false → rootsE (-1) l = 5) := s1
        have H2 : Hid (isNodeB l[k] = true → l[k] ≤ m → rootsE (-1) l = 6) := s2
        have H3 : Hid (isNodeB l[k] = true → ¬ l[k] ≤ m → rootsE l[k] (l.drop (k + 1)) = rootsE (-1) l) := s3
        clear s1 s2 s3 hf
        obtain ⟨b, off, rfl, hbl, g0⟩ := h.at k hlt
        generalize l[k] = x at *
        by_cases hn : isNodeB x = true
        · have hn' := (Orangery.isNodeB_iff _).1 hn
          obtain ⟨n1, n2⟩ := hn'
          by_cases hq : x ≤ m
          · have HF : Hid (rootsE (-1) l = 6) := H2.out hn hq
            clear H1 H2 H3 hn
            go_wp2
            go_ret
            exact ⟨ret_int (by rw [HE.out, HF.out]), rfl⟩
          · have HF : Hid (rootsE x (l.drop (k + 1)) = rootsE (-1) l) := H3.out hn hq
            clear H1 H2 H3 hn
            go_wp2
            go_round
            case rel => exact ⟨k + 1, x, hlt, rfl, by go_num, HF.out⟩
            case measure => simp [intOf]; omega
        · have hn' : isNodeB x = false := by simpa using hn
          have HF : Hid (rootsE (-1) l = 5) := H1.out hn'
          have hx : ¬ (0 ≤ x ∧ x ≤ 16) := fun e => hn ((Orangery.isNodeB_iff _).2 e)
          clear H1 H2 H3 hn hn'
          by_cases h0 : 0 ≤ x
          · have h1 : ¬ x ≤ 16 := fun e => hx ⟨h0, e⟩
            clear hx
            go_wp2
            go_ret
            exact ⟨ret_int (by rw [HE.out, HF.out]), rfl⟩
          · clear hx
            go_wp2
            go_ret
            exact ⟨ret_int (by rw [HE.out, HF.out]), rfl⟩
      · have hk' : l.drop k = [] := by simp; omega
        rw [hk'] at hf
        have HF : Hid (rootsE (-1) l = 0) := hf.symm
        clear hf hk'
        go_wp2
        go_ret
        exact ⟨ret_int (by rw [HE.out, HF.out]), rfl⟩

set_option maxHeartbeats 2000000 in
set_option maxRecDepth 100000 in
theorem rallof_any (w : World) (aK aV : Option Addr) (cK cV : Nat) (K V : List Pl) (r : Value) (hK : scan 0 K = 0) (hV : scan 0 V = 0) (hc1 : aK = none → cK = 0) (hc2 : aV = none → cV = 0) (h1 : SlP w aK K) (h2 : SlP w aV V) :
    Calls Tryz.prog 50 #[viV r (.slice aK K.length cK) (.slice aV V.length cV)] w
      fun e w' => ∃ v, e = .returned (.agg #[v]) ∧ OwnS w' w.heap.size v (togL K V) ∧ Below w.heap.size w w' := by
  have hKl : K.length ≤ 15 := by have := Orangery.scan_len K 0 hK (by omega); omega
  have hVl : V.length ≤ 15 := by have := Orangery.scan_len V 0 hV (by omega); omega
  have HN : Hid (∀ p ∈ K ++ V, 0 ≤ p.1 ∧ p.1 ≤ 15) := by
    intro p hp
    rcases List.mem_append.1 hp with hp | hp
    · have := (Orangery.inRangeB_iff p).1 (Orangery.scan_range K 0 hK p hp).1; omega
    · have := (Orangery.inRangeB_iff p).1 (Orangery.scan_range V 0 hV p hp).1; omega
  have HT : Hid (rows (fun n => tabLast (K ++ V) n) 16 = togL K V) := Orangery.tog_rows K V hK hV
  obtain ⟨W0, hW0, hX, hR, hQ, hB, hS⟩ := laid3 w [r, Value.slice aK K.length cK, Value.slice aV V.length cV] 25 [Value.slice none 0 0] 62 [Value.slice aK K.length cK, Value.slice aV V.length cV] 23
  have hP1 := h1.below hB
  have hP2 := h2.below hB
  have HB : Hid (Below w.heap.size w W0) := hB
  clear h1 h2 hK hV hB hX
  go_enter Tryz.func50, Tryz.ntmps50
  go_wp2_with fail
  clear hW0
  refine (concatPls_any W0 (w.heap.size + 1 + 1) aK aV cK cV K V (by omega) (by omega) hc1 hc2 (hQ.at 0 rfl) (hQ.at 1 rfl) hP1 hP2).mono ?_
  rintro e w1 ⟨v1, rfl, hO1, hb1⟩
  obtain ⟨a1, c1, rfl, hp1, _⟩ := hO1.val
  have hr1 := hO1.reads.1
  have hJl : (K ++ V).length ≤ 1000 := by simp; omega
  generalize K ++ V = J at *
  have hR1 := hR.keep hb1
  have HB1 : Hid (Below w.heap.size w w1) := HB.out.trans (hb1.mono HB.out.size)
  clear hP1 hP2 hR hQ hO1 hp1 HB
  go_wp2_with fail
  refine (table_gen w1 a1 c1 J hJl hr1 HN.out).mono ?_
  rintro e w2 ⟨rfl, hb2⟩
  have hR2 := hR1.keep hb2
  have HB2 : Hid (Below w.heap.size w w2) := HB1.out.trans (hb2.mono HB1.out.size)
  have hsz2 : W0.heap.size ≤ w2.heap.size := Nat.le_trans hb1.size hb2.size
  clear hR1 HB1 hb2 hr1 hb1
  have HPL : Hid (Calls Tryz.prog 26 #[tabV fun n => tabLast J n] w2 fun e w' => ∃ v, e = .returned v ∧ OwnS w' w2.heap.size v (rows (fun n => tabLast J n) 16) ∧ Below w2.heap.size w2 w') := places_any w2 _
  generalize (tabV fun n => tabLast J n) = tv at *
  go_wp2_with fail
  refine HPL.out.mono ?_
  rintro e w3 ⟨v3, rfl, hO3, hb3⟩
  rw [HT.out] at hO3
  have hO4 := hO3.mono (base' := w.heap.size + 1 + 1) (by omega)
  obtain ⟨a3, c3, rfl⟩ := hO4.val
  have hR3 := hR2.keep hb3
  have HB3 : Hid (Below w.heap.size w w3) := HB2.out.trans (hb3.mono HB2.out.size)
  have HO : Hid (OwnS w3 (w.heap.size + 1 + 1) (.slice a3 (togL K V).length c3) (togL K V)) := hO4
  have HRf : Hid (Blk (w3.setCell ⟨w.heap.size + 1, 0, none⟩ (.slice a3 (togL K V).length c3)) (w.heap.size + 1) [.slice a3 (togL K V).length c3]) := hR3.set 0 (by simp) _
  have r0 := hR3.at 0 rfl
  have rf := hR3.frz
  clear hO3 hO4 hR2 hR3 hb3 HB2
  go_wp2
  refine ret_cell Tryz.results50 rfl HRf.out.tree ⟨_, rfl, ?_, ?_⟩
  · exact (HO.out.other _ (by omega) _ _).mono (by omega)
  · exact HB3.out.setCell (by show _ ≤ w.heap.size + 1; omega) _
end Go.Proofs.YtkjgoikcibgonacGreat

