/- orangeryref.table: places laid out by node. -/
import Derived.Test.YtphameoibnimmaaWithout
import Derived.Deep.WholeRow
namespace Go.Proofs.Ytphameoibnimmaa
open Go.ChangeShapes Go.WideShapes Go.ChangeAt Go.RowKit
open Orangery (Pl Mv Stp outL inL tabAt find scan)

/-- the places of a table -/
def tabL (t : Nat → Pl) : List Pl := (List.range 16).map t
/-- the value of a table -/
def tabV (t : Nat → Pl) : Value := .agg ((tabL t).flatMap encPl).toArray

theorem tabL_len (t : Nat → Pl) : (tabL t).length = 16 := by simp [tabL]
theorem tabL_get (t : Nat → Pl) (i : Nat) (h : i < (tabL t).length) : (tabL t)[i] = t i := by simp [tabL]
theorem tabL_set (t u : Nat → Pl) (k : Nat) (p : Pl) (h1 : u k = p) (h2 : ∀ n, n ≠ k → u n = t n) : (tabL t).set k p = tabL u := by
  apply List.ext_getElem
  · simp [tabL]
  · intro i hi hi'
    rw [List.getElem_set, tabL_get]
    by_cases hik : k = i
    · subst hik; rw [if_pos rfl, tabL_get, h1]
    · rw [if_neg hik, tabL_get, h2 i (by omega)]

theorem HoldsP.set1 {w : World} {g : Nat} {m : List Pl} (h : HoldsP w g m) (i : Nat) (hi : i < m.length) (x : Int) :
    HoldsP (w.setCell ⟨g, i * 3 + 1, none⟩ (.int .i64 x)) g (m.set i (m[i].1, x, m[i].2.2)) := by
  obtain ⟨hp, hf⟩ := h
  refine ⟨?_, ?_⟩
  · intro k hk
    have hk' : k < m.length := by simpa using hk
    have h0 := hp i hi
    have h1 := hp k hk'
    simp only [Nat.zero_add] at h0 h1 ⊢
    by_cases hik : i = k
    · subst hik
      simp only [List.getElem_set_self]
      refine ⟨?_, ?_, ?_⟩
      · rw [World.cell?_setCell_other _ _ _ _ (by simp), h0.1]
      · rw [World.cell?_setCell_same _ _ _ h0.2.1]
      · rw [World.cell?_setCell_other _ _ _ _ (by simp), h0.2.2]
    · rw [List.getElem_set_ne hik]
      refine ⟨?_, ?_, ?_⟩
      all_goals
        rw [World.cell?_setCell_other _ _ _ _ (by simp <;> omega)]
      · exact h1.1
      · exact h1.2.1
      · exact h1.2.2
  · intro k hk
    simp only [World.frozen?_setCell]
    exact hf k (by simpa using hk)

theorem HoldsP.range {w : World} {g : Nat} {m : List Pl} (h : HoldsP w g m) : w.rangeAt g 0 (m.flatMap encPl) := by
  intro j v hv
  have := pls_flat h.1 j v hv
  rw [Addr.add_mid] at this
  exact this

theorem HoldsP.of_range {w : World} {g : Nat} {m : List Pl} (h : w.rangeAt g 0 (m.flatMap encPl)) (hf : ∀ i, i < m.length * 3 → w.frozen? ⟨g, i, none⟩ = false) : HoldsP w g m := by
  refine ⟨fun i hi => ?_, hf⟩
  obtain ⟨h0, h1, h2⟩ := flat_get m i hi
  exact ⟨h _ _ h0, h _ _ h1, h _ _ h2⟩

theorem HoldsP.there {w : World} {g : Nat} {m : List Pl} (h : HoldsP w g m) : w.there g 0 (m.length * 3) := by
  intro j hj
  have hr := h.range.isSome j (by rw [flat_len]; exact hj)
  exact ⟨hr, by rw [Nat.zero_add]; exact h.2 j hj⟩

theorem HoldsP.other {w : World} {g b : Nat} {m : List Pl} (h : HoldsP w g m) (hne : g ≠ b) (j : Nat) (v : Value) : HoldsP (w.setCell ⟨b, j, none⟩ v) g m := by
  refine ⟨fun i hi => ?_, fun i hi => by simp only [World.frozen?_setCell]; exact h.2 i hi⟩
  rw [World.cell?_setCell_other _ _ _ _ (by simp <;> omega), World.cell?_setCell_other _ _ _ _ (by simp <;> omega), World.cell?_setCell_other _ _ _ _ (by simp <;> omega)]
  exact h.1 i hi

theorem Blk.holds {w : World} {b : Nat} {m : List Pl} (h : Blk w b (m.flatMap encPl)) : HoldsP w b m :=
  HoldsP.of_range (fun j v hv => by rw [Nat.zero_add]; exact h.at j hv) (fun i _ => h.frz i)

theorem infoTable : (Try.prog.info? 100).map (·.size) = some 48 := by kernel_rfl

theorem tab_step (l : List Pl) (j : Nat) (hj : j < l.length) (hs : scan 0 l = 0) (n : Nat) : tabAt (l.take (j + 1)) n = if (n : Int) = l[j].1 then l[j] else tabAt (l.take j) n := by
  obtain ⟨h1, h2⟩ := (Orangery.scan0_iff l).1 hs
  have hr := (Orangery.inRangeB_iff _).1 (h1 l[j] (List.getElem_mem hj))
  have h2' := List.pairwise_iff_getElem.1 h2
  have hf : find (l.take (j + 1)) n = if (n : Int) = l[j].1 then l[j] else find (l.take j) n := by
    rw [List.take_succ_eq_append_getElem hj]
    by_cases hn : (n : Int) = l[j].1
    · rw [if_pos hn, Orangery.find_append, Orangery.find_cons, if_pos hn.symm]
      intro q hq
      obtain ⟨i, hi, rfl⟩ := List.getElem_of_mem hq
      rw [List.getElem_take]
      have := h2' i j (by simp at hi; omega) hj (by simp at hi; omega)
      omega
    · rw [if_neg hn, Orangery.find_front]
      intro q hq
      simp at hq
      subst hq
      omega
  unfold tabAt
  rw [hf]
  by_cases hn : (n : Int) = l[j].1
  · rw [if_pos hn, if_pos hn, if_neg (by omega)]
  · rw [if_neg hn, if_neg hn]

set_option maxHeartbeats 1000000 in
theorem table_any (w : World) (a : Option Addr) (c : Nat) (l : List Pl) (hl : l.length ≤ 1000) (h : SlP w a l) (hs : scan 0 l = 0) :
    Calls Try.prog 78 #[.slice a l.length c] w
      fun e w' => e = .returned (tabV fun n => tabAt l n) ∧ Below w.heap.size w w' := by
  go_enter Try.func78, Try.ntmps78
  go_wp2
  obtain ⟨W0, hW, h0, h1, hB, hS⟩ := laid2 w ((tabL fun _ => (0, 0, 0)).flatMap encPl) 100 ((tabL fun _ => (0, 0, 0)).flatMap encPl) 100
  replace hW : (w.alloc (Obj.cells #[Value.int IntKind.i64 0, Value.int IntKind.i64 0, Value.int IntKind.i64 0, Value.int IntKind.i64 0, Value.int IntKind.i64 0, Value.int IntKind.i64 0, Value.int IntKind.i64 0, Value.int IntKind.i64 0, Value.int IntKind.i64 0, Value.int IntKind.i64 0, Value.int IntKind.i64 0, Value.int IntKind.i64 0, Value.int IntKind.i64 0, Value.int IntKind.i64 0, Value.int IntKind.i64 0, Value.int IntKind.i64 0, Value.int IntKind.i64 0, Value.int IntKind.i64 0, Value.int IntKind.i64 0, Value.int IntKind.i64 0, Value.int IntKind.i64 0, Value.int IntKind.i64 0, Value.int IntKind.i64 0, Value.int IntKind.i64 0, Value.int IntKind.i64 0, Value.int IntKind.i64 0, Value.int IntKind.i64 0, Value.int IntKind.i64 0, Value.int IntKind.i64 0, Value.int IntKind.i64 0, Value.int IntKind.i64 0, Value.int IntKind.i64 0, Value.int IntKind.i64 0, Value.int IntKind.i64 0, Value.int IntKind.i64 0, Value.int IntKind.i64 0, Value.int IntKind.i64 0, Value.int IntKind.i64 0, Value.int IntKind.i64 0, Value.int IntKind.i64 0, Value.int IntKind.i64 0, Value.int IntKind.i64 0, Value.int IntKind.i64 0, Value.int IntKind.i64 0, Value.int IntKind.i64 0, Value.int IntKind.i64 0, Value.int IntKind.i64 0, Value.int IntKind.i64 0] 100)).alloc (Obj.cells #[Value.int IntKind.i64 0, Value.int IntKind.i64 0, Value.int IntKind.i64 0, Value.int IntKind.i64 0, Value.int IntKind.i64 0, Value.int IntKind.i64 0, Value.int IntKind.i64 0, Value.int IntKind.i64 0, Value.int IntKind.i64 0, Value.int IntKind.i64 0, Value.int IntKind.i64 0, Value.int IntKind.i64 0, Value.int IntKind.i64 0, Value.int IntKind.i64 0, Value.int IntKind.i64 0, Value.int IntKind.i64 0, Value.int IntKind.i64 0, Value.int IntKind.i64 0, Value.int IntKind.i64 0, Value.int IntKind.i64 0, Value.int IntKind.i64 0, Value.int IntKind.i64 0, Value.int IntKind.i64 0, Value.int IntKind.i64 0, Value.int IntKind.i64 0, Value.int IntKind.i64 0, Value.int IntKind.i64 0, Value.int IntKind.i64 0, Value.int IntKind.i64 0, Value.int IntKind.i64 0, Value.int IntKind.i64 0, Value.int IntKind.i64 0, Value.int IntKind.i64 0, Value.int IntKind.i64 0, Value.int IntKind.i64 0, Value.int IntKind.i64 0, Value.int IntKind.i64 0, Value.int IntKind.i64 0, Value.int IntKind.i64 0, Value.int IntKind.i64 0, Value.int IntKind.i64 0, Value.int IntKind.i64 0, Value.int IntKind.i64 0, Value.int IntKind.i64 0, Value.int IntKind.i64 0, Value.int IntKind.i64 0, Value.int IntKind.i64 0, Value.int IntKind.i64 0] 100) = W0 := hW
  rw [hW]
  clear hW
  have HR : Hid (HoldsP W0 w.heap.size (tabL fun _ => (0, 0, 0))) := h0.holds
  have HT : Hid (HoldsP W0 (w.heap.size + 1) (tabL fun _ => (0, 0, 0))) := h1.holds
  have HP : Hid (SlP w a l) := h
  have HB : Hid (Below w.heap.size w W0) := hB
  have HS : Hid (scan 0 l = 0) := hs
  clear h0 h1 h hB hs
  go_loopw [7] (fun x W => ∃ k : Nat, k ≤ 16 ∧ x = .int .i64 k ∧ HoldsP W (w.heap.size + 1) (tabL fun n => (0, if n < k then -1 else 0, 0)) ∧ Below (w.heap.size + 1) W0 W) (fun x _ => 16 - (intOf x).toNat)
  case atStart => exact ⟨0, by omega, rfl, HT.out, Below.refl _ _⟩
  case round =>
    obtain ⟨k, hk, rfl, hH, hb⟩ := hrel
    have HH : Hid (HoldsP wr (w.heap.size + 1) (tabL fun n => (0, if n < k then -1 else 0, 0))) := hH
    by_cases hlt : k < 16
    · have hc := (hH.1 k (by rw [tabL_len]; exact hlt)).2.1
      have hf := hH.2 (k * 3 + 1) (by rw [tabL_len]; omega)
      simp only [Nat.zero_add] at hc
      clear hH
      go_wp2
      go_roundw
      case rel =>
        refine ⟨k + 1, by omega, by go_num, ?_, hb.setCell (by show _ ≤ w.heap.size + 1; omega) _⟩
        have h1 := HH.out.set1 k (by rw [tabL_len]; exact hlt) (-1)
        rw [tabL_get] at h1
        rw [tabL_set _ (fun n => (0, if n < k + 1 then -1 else 0, 0)) k] at h1
        · exact h1
        · simp
        · intro n hn
          by_cases h2 : n < k
          · simp [h2, show n < k + 1 by omega]
          · simp [h2, show ¬ n < k + 1 by omega]
      case measure => simp [intOf]; omega
    · have hk16 : k = 16 := by omega
      subst hk16
      clear hH
      have HT2 : Hid (HoldsP wr (w.heap.size + 1) (tabL fun n => tabAt (l.take 0) n)) := by
        show HoldsP _ _ _
        have e : (tabL fun n => tabAt (l.take 0) n) = tabL fun n => (0, if n < 16 then -1 else 0, 0) := by rw [List.take_zero]; decide
        rw [e]
        exact HH.out
      clear HH HT
      go_wp2
      rename World => W1
      go_loopw [16] (fun x W => ∃ k : Nat, k ≤ l.length ∧ x = .int .i64 k ∧ HoldsP W (w.heap.size + 1) (tabL fun n => tabAt (l.take k) n) ∧ Below (w.heap.size + 1) W0 W) (fun x _ => l.length - (intOf x).toNat)
      case atStart => exact ⟨0, by omega, rfl, HT2.out, hb⟩
      case round =>
        obtain ⟨k, hk', rfl, hH, hb2⟩ := hrel
        clear hb HT2
        have HH : Hid (HoldsP wr (w.heap.size + 1) (tabL fun n => tabAt (l.take k) n)) := hH
        by_cases hlt : k < l.length
        · have hbw : Below w.heap.size w wr := HB.out.trans (hb2.mono (by omega))
          have hPW : SlP wr a l := HP.out.below hbw
          rcases hPW with h' | ⟨b, off, rfl, hbl, hp⟩
          · exact absurd hlt (by simp [h'])
          have hr := (Orangery.inRangeB_iff _).1 ((Orangery.scan0_iff l).1 HS.out |>.1 l[k] (List.getElem_mem hlt))
          have HST : Hid (∀ n : Nat, tabAt (l.take (k + 1)) n = if (n : Int) = l[k].1 then l[k] else tabAt (l.take k) n) := tab_step l k hlt HS.out
          obtain ⟨g0, g1, g2⟩ := hp k hlt
          obtain ⟨m, hm⟩ : ∃ m : Nat, l[k].1 = m := ⟨l[k].1.toNat, by omega⟩
          have hm16 : m < 16 := by omega
          have hc := hH.1 m (by rw [tabL_len]; exact hm16)
          simp only [Nat.zero_add] at hc
          obtain ⟨x0, x1, x2⟩ := hc
          have f0 := hH.2 (m * 3) (by rw [tabL_len]; omega)
          have f1 := hH.2 (m * 3 + 1) (by rw [tabL_len]; omega)
          have f2 := hH.2 (m * 3 + 2) (by rw [tabL_len]; omega)
          have hlt2 : w.heap.size + 1 < wr.heap.size := by have := hb2.size; omega
          rw [hm] at g0
          have HM : Hid (l[k].1 = m) := hm
          clear hH hm hr hp
          go_wp2
          go_roundw
          case rel =>
            have h1 := HH.out.set m (by rw [tabL_len]; exact hm16) ((m : Int), l[k].2.1, l[k].2.2)
            rw [tabL_set _ (fun n => tabAt (l.take (k + 1)) n) m] at h1
            · exact ⟨k + 1, by omega, by go_num, h1.below (by simpa using hlt2) (Go.Joins.below_alloc1 _ _), (((hb2.setCell (by show _ ≤ w.heap.size + 1; omega) _).setCell (by show _ ≤ w.heap.size + 1; omega) _).setCell (by show _ ≤ w.heap.size + 1; omega) _).alloc (by simp; omega) _⟩
            · show tabAt (l.take (k + 1)) (m : Int) = _
              rw [HST.out, if_pos HM.out.symm, ← HM.out]
            · intro n hn
              show tabAt (l.take (k + 1)) (n : Int) = _
              rw [HST.out, if_neg (by rw [HM.out]; omega)]
          case measure => simp [intOf]; omega
        · have hkl : k = l.length := by omega
          subst hkl
          rw [List.take_length] at hH
          have hR : HoldsP wr w.heap.size (tabL fun _ => (0, 0, 0)) := by
            have h1 := HR.out
            exact ⟨fun i hi => by rw [hb2.cell (by show w.heap.size < _; omega), hb2.cell (by show w.heap.size < _; omega), hb2.cell (by show w.heap.size < _; omega)]; exact h1.1 i hi, fun i hi => by rw [hb2.frozen (by show w.heap.size < _; omega)]; exact h1.2 i hi⟩
          have hrg : wr.rangeAt (w.heap.size + 1) 0 ((tabL fun n => tabAt l n).flatMap encPl) := hH.range
          have hth : wr.there w.heap.size 0 ((tabL fun n => tabAt l n).flatMap encPl).length := by
            have := hR.there
            rw [tabL_len] at this
            rw [flat_len, tabL_len]
            exact this
          have HRG : Hid (wr.rangeAt (w.heap.size + 1) 0 ((tabL fun n => tabAt l n).flatMap encPl)) := hrg
          have HTH : Hid (wr.there w.heap.size 0 ((tabL fun n => tabAt l n).flatMap encPl).length) := hth
          have HI : Hid ((Try.prog.info? 100).map (·.size) = some ((tabL fun n => tabAt l n).flatMap encPl).length) := by show _ = _; rw [infoTable, flat_len, tabL_len]
          have HON : Hid (((tabL fun n => tabAt l n).flatMap encPl).toArray.all (·.oneCell') = true) := all_oneCell_toArray (flat_one _)
          have HV : Hid (tabV (fun n => tabAt l n) = .agg ((tabL fun n => tabAt l n).flatMap encPl).toArray) := rfl
          clear hH hrg hth hR HH
          generalize (tabL fun n => tabAt l n).flatMap encPl = cs at *
          go_wp2_with (first | (refine wpList_load_mid rfl 100 _ rfl (w.heap.size + 1) 0 rfl cs _ HRG.out Try.underlying100 rfl HI.out ?_) | (refine wpList_store_mid rfl 100 _ _ rfl w.heap.size 0 cs.toArray rfl rfl HTH.out HI.out HON.out ?_))
          have hld := run_loadVar_mid (P := Try.prog) (wr.setCells w.heap.size 0 cs) w.heap.size 0 100 cs _ (World.rangeAt_setCells_same wr w.heap.size 0 cs HTH.out) Try.underlying100 rfl HI.out
          refine bodyPost_ret (v := .agg cs.toArray) ?_ rfl ⟨by rw [HV.out], ?_⟩
          · simp [results, Try.results78, Act.put, asAddr, hld]
          · exact below_sets (HB.out.trans (hb2.mono (by omega))) _ (by omega) _ _
end Go.Proofs.Ytphameoibnimmaa
