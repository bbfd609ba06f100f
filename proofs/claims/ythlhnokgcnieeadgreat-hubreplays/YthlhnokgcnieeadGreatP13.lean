/- 4 texts of the proof: orangeryref.table: places laid out by node. orangeryref.places: the places of a table. orangeryref.done: an operation on right places. Plain facts on the reference's fold: the least one above the last one, looked for one by one. -/
import Derived.Deep.WholeRow
import Derived.Deep.DeepCutAuto
import Derived.Test.YthlhnokgcnieeadGreatP08
import Derived.Test.YthlhnokgcnieeadGreatP04
import Derived.Test.YthlhnokgcnieeadGreatP07
import Derived.Test.YthlhnokgcnieeadGreatP09
/- orangeryref.table: places laid out by node. -/
namespace Go.Proofs.YthlhnokgcnieeadGreat
open Go.ChangeShapes Go.WideShapes Go.ChangeAt Go.RowKit
open Orangery (Pl Mv Stp outL inL tabAt find scan)

/-- the places of a table -/
def tabL (t : Nat → Pl) : List Pl := (List.range 16).map t
/-- the value of a table -/
def tabV (t : Nat → Pl) : Value := .agg ((tabL t).flatMap encPl).toArray

theorem tabL_len (t : Nat → Pl) : (tabL t).length = 16 := by simp [tabL]
theorem tabL_get (t : Nat → Pl) (i : Nat) (h : i < (tabL t).length) : (tabL t)[i] = t i := by simp [tabL]
theorem tabL_set (t u : Nat → Pl) (k : Nat) (p : Pl) (h1 : u k = p) (h2 : ∀ n, n ≠ k → u n = t n) : (tabL t).set k p = tabL u := by
  apply List.ext_getElem
  · simp [tabL]
  · intro i hi hi'
    rw [List.getElem_set, tabL_get]
    by_cases hik : k = i
    · subst hik; rw [if_pos rfl, tabL_get, h1]
    · rw [if_neg hik, tabL_get, h2 i (by omega)]

theorem HoldsP.set1 {w : World} {g : Nat} {m : List Pl} (h : HoldsP w g m) (i : Nat) (hi : i < m.length) (x : Int) :
    HoldsP (w.setCell ⟨g, i * 3 + 1, none⟩ (.int .i64 x)) g (m.set i (m[i].1, x, m[i].2.2)) := by
  obtain ⟨hp, hf⟩ := h
  refine ⟨?_, ?_⟩
  · intro k hk
    have hk' : k < m.length := by simpa using hk
    have h0 := hp i hi
    have h1 := hp k hk'
    simp only [Nat.zero_add] at h0 h1 ⊢
    by_cases hik : i = k
    · subst hik
      simp only [List.getElem_set_self]
      refine ⟨?_, ?_, ?_⟩
      · rw [World.cell?_setCell_other _ _ _ _ (by simp), h0.1]
      · rw [World.cell?_setCell_same _ _ _ h0.2.1]
      · rw [World.cell?_setCell_other _ _ _ _ (by simp), h0.2.2]
    · rw [List.getElem_set_ne hik]
      refine ⟨?_, ?_, ?_⟩
      all_goals
        rw [World.cell?_setCell_other _ _ _ _ (by simp <;> omega)]
      · exact h1.1
      · exact h1.2.1
      · exact h1.2.2
  · intro k hk
    simp only [World.frozen?_setCell]
    exact hf k (by simpa using hk)

theorem HoldsP.range {w : World} {g : Nat} {m : List Pl} (h : HoldsP w g m) : w.rangeAt g 0 (m.flatMap encPl) := by
  intro j v hv
  have := pls_flat h.1 j v hv
  rw [Addr.add_mid] at this
  exact this

theorem HoldsP.of_range {w : World} {g : Nat} {m : List Pl} (h : w.rangeAt g 0 (m.flatMap encPl)) (hf : ∀ i, i < m.length * 3 → w.frozen? ⟨g, i, none⟩ = false) : HoldsP w g m := by
  refine ⟨fun i hi => ?_, hf⟩
  obtain ⟨h0, h1, h2⟩ := flat_get m i hi
  exact ⟨h _ _ h0, h _ _ h1, h _ _ h2⟩

theorem HoldsP.there {w : World} {g : Nat} {m : List Pl} (h : HoldsP w g m) : w.there g 0 (m.length * 3) := by
  intro j hj
  have hr := h.range.isSome j (by rw [flat_len]; exact hj)
  exact ⟨hr, by rw [Nat.zero_add]; exact h.2 j hj⟩

theorem HoldsP.other {w : World} {g b : Nat} {m : List Pl} (h : HoldsP w g m) (hne : g ≠ b) (j : Nat) (v : Value) : HoldsP (w.setCell ⟨b, j, none⟩ v) g m := by
  refine ⟨fun i hi => ?_, fun i hi => by simp only [World.frozen?_setCell]; exact h.2 i hi⟩
  rw [World.cell?_setCell_other _ _ _ _ (by simp <;> omega), World.cell?_setCell_other _ _ _ _ (by simp <;> omega), World.cell?_setCell_other _ _ _ _ (by simp <;> omega)]
  exact h.1 i hi

theorem Blk.holds {w : World} {b : Nat} {m : List Pl} (h : Blk w b (m.flatMap encPl)) : HoldsP w b m :=
  HoldsP.of_range (fun j v hv => by rw [Nat.zero_add]; exact h.at j hv) (fun i _ => h.frz i)

theorem infoTable : (Tryz.prog.info? 150).map (·.size) = some 48 := by kernel_rfl

theorem tab_step (l : List Pl) (j : Nat) (hj : j < l.length) (hs : scan 0 l = 0) (n : Nat) : tabAt (l.take (j + 1)) n = if (n : Int) = l[j].1 then l[j] else tabAt (l.take j) n := by
  obtain ⟨h1, h2⟩ := (Orangery.scan0_iff l).1 hs
  have hr := (Orangery.inRangeB_iff _).1 (h1 l[j] (List.getElem_mem hj))
  have h2' := List.pairwise_iff_getElem.1 h2
  have hf : find (l.take (j + 1)) n = if (n : Int) = l[j].1 then l[j] else find (l.take j) n := by
    rw [List.take_succ_eq_append_getElem hj]
    by_cases hn : (n : Int) = l[j].1
    · rw [if_pos hn, Orangery.find_append, Orangery.find_cons, if_pos hn.symm]
      intro q hq
      obtain ⟨i, hi, rfl⟩ := List.getElem_of_mem hq
      rw [List.getElem_take]
      have := h2' i j (by simp at hi; omega) hj (by simp at hi; omega)
      omega
    · rw [if_neg hn, Orangery.find_front]
      intro q hq
      simp at hq
      subst hq
      omega
  unfold tabAt
  rw [hf]
  by_cases hn : (n : Int) = l[j].1
  · rw [if_pos hn, if_pos hn, if_neg (by omega)]
  · rw [if_neg hn, if_neg hn]

set_option maxHeartbeats 1000000 in
theorem table_any (w : World) (a : Option Addr) (c : Nat) (l : List Pl) (hl : l.length ≤ 1000) (h : SlP w a l) (hs : scan 0 l = 0) :
    Calls Tryz.prog 119 #[.slice a l.length c] w
      fun e w' => e = .returned (tabV fun n => tabAt l n) ∧ Below w.heap.size w w' := by
  go_enter Tryz.func119, Tryz.ntmps119
  go_wp2
  obtain ⟨W0, hW, h0, h1, hB, hS⟩ := laid2 w ((tabL fun _ => (0, 0, 0)).flatMap encPl) 150 ((tabL fun _ => (0, 0, 0)).flatMap encPl) 150
  replace hW : (w.alloc (Obj.cells #[Value.int IntKind.i64 0, Value.int IntKind.i64 0, Value.int IntKind.i64 0, Value.int IntKind.i64 0, Value.int IntKind.i64 0, Value.int IntKind.i64 0, Value.int IntKind.i64 0, Value.int IntKind.i64 0, Value.int IntKind.i64 0, Value.int IntKind.i64 0, Value.int IntKind.i64 0, Value.int IntKind.i64 0, Value.int IntKind.i64 0, Value.int IntKind.i64 0, Value.int IntKind.i64 0, Value.int IntKind.i64 0, Value.int IntKind.i64 0, Value.int IntKind.i64 0, Value.int IntKind.i64 0, Value.int IntKind.i64 0, Value.int IntKind.i64 0, Value.int IntKind.i64 0, Value.int IntKind.i64 0, Value.int IntKind.i64 0, Value.int IntKind.i64 0, Value.int IntKind.i64 0, Value.int IntKind.i64 0, Value.int IntKind.i64 0, Value.int IntKind.i64 0, Value.int IntKind.i64 0, Value.int IntKind.i64 0, Value.int IntKind.i64 0, Value.int IntKind.i64 0, Value.int IntKind.i64 0, Value.int IntKind.i64 0, Value.int IntKind.i64 0, Value.int IntKind.i64 0, Value.int IntKind.i64 0, Value.int IntKind.i64 0, Value.int IntKind.i64 0, Value.int IntKind.i64 0, Value.int IntKind.i64 0, Value.int IntKind.i64 0, Value.int IntKind.i64 0, Value.int IntKind.i64 0, Value.int IntKind.i64 0, Value.int IntKind.i64 0, Value.int IntKind.i64 0] 150)).alloc (Obj.cells #[Value.int IntKind.i64 0, Value.int IntKind.i64 0, Value.int IntKind.i64 0, Value.int IntKind.i64 0, Value.int IntKind.i64 0, Value.int IntKind.i64 0, Value.int IntKind.i64 0, Value.int IntKind.i64 0, Value.int IntKind.i64 0, Value.int IntKind.i64 0, Value.int IntKind.i64 0, Value.int IntKind.i64 0, Value.int IntKind.i64 0, Value.int IntKind.i64 0, Value.int IntKind.i64 0, Value.int IntKind.i64 0, Value.int IntKind.i64 0, Value.int IntKind.i64 0, Value.int IntKind.i64 0, Value.int IntKind.i64 0, Value.int IntKind.i64 0, Value.int IntKind.i64 0, Value.int IntKind.i64 0, Value.int IntKind.i64 0, Value.int IntKind.i64 0, Value.int IntKind.i64 0, Value.int IntKind.i64 0, Value.int IntKind.i64 0, Value.int IntKind.i64 0, Value.int IntKind.i64 0, Value.int IntKind.i64 0, Value.int IntKind.i64 0, Value.int IntKind.i64 0, Value.int IntKind.i64 0, Value.int IntKind.i64 0, Value.int IntKind.i64 0, Value.int IntKind.i64 0, Value.int IntKind.i64 0, Value.int IntKind.i64 0, Value.int IntKind.i64 0, Value.int IntKind.i64 0, Value.int IntKind.i64 0, Value.int IntKind.i64 0, Value.int IntKind.i64 0, Value.int IntKind.i64 0, Value.int IntKind.i64 0, Value.int IntKind.i64 0, Value.int IntKind.i64 0] 150) = W0 := hW
  rw [hW]
  clear hW
  have HR : Hid (HoldsP W0 w.heap.size (tabL fun _ => (0, 0, 0))) := h0.holds
  have HT : Hid (HoldsP W0 (w.heap.size + 1) (tabL fun _ => (0, 0, 0))) := h1.holds
  have HP : Hid (SlP w a l) := h
  have HB : Hid (Below w.heap.size w W0) := hB
  have HS : Hid (scan 0 l = 0) := hs
  clear h0 h1 h hB hs
  go_loopw [7] (fun x W => ∃ k : Nat, k ≤ 16 ∧ x = .int .i64 k ∧ HoldsP W (w.heap.size + 1) (tabL fun n => (0, if n < k then -1 else 0, 0)) ∧ Below (w.heap.size + 1) W0 W) (fun x _ => 16 - (intOf x).toNat)
  case atStart => exact ⟨0, by omega, rfl, HT.out, Below.refl _ _⟩
  case round =>
    obtain ⟨k, hk, rfl, hH, hb⟩ := hrel
    have HH : Hid (HoldsP wr (w.heap.size + 1) (tabL fun n => (0, if n < k then -1 else 0, 0))) := hH
    by_cases hlt : k < 16
    · have hc := (hH.1 k (by rw [tabL_len]; exact hlt)).2.1
      have hf := hH.2 (k * 3 + 1) (by rw [tabL_len]; omega)
      simp only [Nat.zero_add] at hc
      clear hH
      go_wp2
      go_roundw
      case rel =>
        refine ⟨k + 1, by omega, by go_num, ?_, hb.setCell (by show _ ≤ w.heap.size + 1; omega) _⟩
        have h1 := HH.out.set1 k (by rw [tabL_len]; exact hlt) (-1)
        rw [tabL_get] at h1
        rw [tabL_set _ (fun n => (0, if n < k + 1 then -1 else 0, 0)) k] at h1
        · exact h1
        · simp
        · intro n hn
          by_cases h2 : n < k
          · simp [h2, show n < k + 1 by omega]
          · simp [h2, show ¬ n < k + 1 by omega]
      case measure => simp [intOf]; omega
    · have hk16 : k = 16 := by omega
      subst hk16
      clear hH
      have HT2 : Hid (HoldsP wr (w.heap.size + 1) (tabL fun n => tabAt (l.take 0) n)) := by
        show HoldsP _ _ _
        have e : (tabL fun n => tabAt (l.take 0) n) = tabL fun n => (0, if n < 16 then -1 else 0, 0) := by rw [List.take_zero]; decide
        rw [e]
        exact HH.out
      clear HH HT
      go_wp2
      rename World => W1
      go_loopw [16] (fun x W => ∃ k : Nat, k ≤ l.length ∧ x = .int .i64 k ∧ HoldsP W (w.heap.size + 1) (tabL fun n => tabAt (l.take k) n) ∧ Below (w.heap.size + 1) W0 W) (fun x _ => l.length - (intOf x).toNat)
      case atStart => exact ⟨0, by omega, rfl, HT2.out, hb⟩
      case round =>
        obtain ⟨k, hk', rfl, hH, hb2⟩ := hrel
        clear hb HT2
        have HH : Hid (HoldsP wr (w.heap.size + 1) (tabL fun n => tabAt (l.take k) n)) := hH
        by_cases hlt : k < l.length
        · have hbw : Below w.heap.size w wr := HB.out.trans (hb2.mono (by omega))
          have hPW : SlP wr a l := HP.out.below hbw
          rcases hPW with h' | ⟨b, off, rfl, hbl, hp⟩
          · exact absurd hlt (by simp [h'])
          have hr := (Orangery.inRangeB_iff _).1 ((Orangery.scan0_iff l).1 HS.out |>.1 l[k] (List.getElem_mem hlt))
          have HST : Hid (∀ n : Nat, tabAt (l.take (k + 1)) n = if (n : Int) = l[k].1 then l[k] else tabAt (l.take k) n) := tab_step l k hlt HS.out
          obtain ⟨g0, g1, g2⟩ := hp k hlt
          obtain ⟨m, hm⟩ : ∃ m : Nat, l[k].1 = m := ⟨l[k].1.toNat, by omega⟩
          have hm16 : m < 16 := by omega
          have hc := hH.1 m (by rw [tabL_len]; exact hm16)
          simp only [Nat.zero_add] at hc
          obtain ⟨x0, x1, x2⟩ := hc
          have f0 := hH.2 (m * 3) (by rw [tabL_len]; omega)
          have f1 := hH.2 (m * 3 + 1) (by rw [tabL_len]; omega)
          have f2 := hH.2 (m * 3 + 2) (by rw [tabL_len]; omega)
          have hlt2 : w.heap.size + 1 < wr.heap.size := by have := hb2.size; omega
          rw [hm] at g0
          have HM : Hid (l[k].1 = m) := hm
          clear hH hm hr hp
          go_wp2
          go_roundw
          case rel =>
            have h1 := HH.out.set m (by rw [tabL_len]; exact hm16) ((m : Int), l[k].2.1, l[k].2.2)
            rw [tabL_set _ (fun n => tabAt (l.take (k + 1)) n) m] at h1
            · exact ⟨k + 1, by omega, by go_num, h1.below (by simpa using hlt2) (Go.Joins.below_alloc1 _ _), (((hb2.setCell (by show _ ≤ w.heap.size + 1; omega) _).setCell (by show _ ≤ w.heap.size + 1; omega) _).setCell (by show _ ≤ w.heap.size + 1; omega) _).alloc (by simp; omega) _⟩
            · show tabAt (l.take (k + 1)) (m : Int) = _
              rw [HST.out, if_pos HM.out.symm, ← HM.out]
            · intro n hn
              show tabAt (l.take (k + 1)) (n : Int) = _
              rw [HST.out, if_neg (by rw [HM.out]; omega)]
          case measure => simp [intOf]; omega
        · have hkl : k = l.length := by omega
          subst hkl
          rw [List.take_length] at hH
          have hR : HoldsP wr w.heap.size (tabL fun _ => (0, 0, 0)) := by
            have h1 := HR.out
            exact ⟨fun i hi => by rw [hb2.cell (by show w.heap.size < _; omega), hb2.cell (by show w.heap.size < _; omega), hb2.cell (by show w.heap.size < _; omega)]; exact h1.1 i hi, fun i hi => by rw [hb2.frozen (by show w.heap.size < _; omega)]; exact h1.2 i hi⟩
          have hrg : wr.rangeAt (w.heap.size + 1) 0 ((tabL fun n => tabAt l n).flatMap encPl) := hH.range
          have hth : wr.there w.heap.size 0 ((tabL fun n => tabAt l n).flatMap encPl).length := by
            have := hR.there
            rw [tabL_len] at this
            rw [flat_len, tabL_len]
            exact this
          have HRG : Hid (wr.rangeAt (w.heap.size + 1) 0 ((tabL fun n => tabAt l n).flatMap encPl)) := hrg
          have HTH : Hid (wr.there w.heap.size 0 ((tabL fun n => tabAt l n).flatMap encPl).length) := hth
          have HI : Hid ((Tryz.prog.info? 150).map (·.size) = some ((tabL fun n => tabAt l n).flatMap encPl).length) := by show _ = _; rw [infoTable, flat_len, tabL_len]
          have HON : Hid (((tabL fun n => tabAt l n).flatMap encPl).toArray.all (·.oneCell') = true) := all_oneCell_toArray (flat_one _)
          have HV : Hid (tabV (fun n => tabAt l n) = .agg ((tabL fun n => tabAt l n).flatMap encPl).toArray) := rfl
          clear hH hrg hth hR HH
          generalize (tabL fun n => tabAt l n).flatMap encPl = cs at *
          go_wp2_with (first | (refine wpList_load_mid rfl 150 _ rfl (w.heap.size + 1) 0 rfl cs _ HRG.out Tryz.underlying150 rfl HI.out ?_) | (refine wpList_store_mid rfl 150 _ _ rfl w.heap.size 0 cs.toArray rfl rfl HTH.out HI.out HON.out ?_))
          have hld := run_loadVar_mid (P := Tryz.prog) (wr.setCells w.heap.size 0 cs) w.heap.size 0 150 cs _ (World.rangeAt_setCells_same wr w.heap.size 0 cs HTH.out) Tryz.underlying150 rfl HI.out
          refine bodyPost_ret (v := .agg cs.toArray) ?_ rfl ⟨by rw [HV.out], ?_⟩
          · simp [results, Tryz.results119, Act.put, asAddr, hld]
          · exact below_sets (HB.out.trans (hb2.mono (by omega))) _ (by omega) _ _
end Go.Proofs.YthlhnokgcnieeadGreat

/- orangeryref.places: the places of a table. -/
namespace Go.Proofs.YthlhnokgcnieeadGreat
open Go.ChangeShapes Go.WideShapes Go.ChangeAt Go.RowKit
open Orangery (Pl rows)

theorem flat_part (l : List Pl) : ∀ i, (h : i < l.length) → ((l.flatMap encPl).drop (i * 3)).take 3 = encPl l[i] := by
  induction l with
  | nil => intro i h; simp at h
  | cons p l ih =>
    intro i h
    cases i with
    | zero => simp [encPl]
    | succ i =>
      have e : (i + 1) * 3 = (encPl p).length + i * 3 := by simp [encPl]; omega
      have e2 : (encPl p).drop ((encPl p).length + i * 3) = [] := List.drop_of_length_le (by omega)
      rw [List.flatMap_cons, e, List.drop_append, e2, List.nil_append, Nat.add_sub_cancel_left]
      simpa using ih i (by simpa using h)

theorem run_index_tab (t : Nat → Pl) (k : Nat) (hk : k < 16) (w : World) : (Instr.index 150 (tabV t) (.int .i64 k)).run Tryz.prog w = .ok (plV (t k)) w := by
  have hu := Tryz.underlying150
  have ha := Tryz.isAgg64
  have hz := Tryz.sizeOf64
  have hx : ((((tabL t).flatMap encPl).drop (k * 3)).take 3) = [.int .i64 (t k).1, .int .i64 (t k).2.1, .int .i64 (t k).2.2] := by
    have h1 := flat_part (tabL t) k (by rw [tabL_len]; exact hk)
    rw [tabL_get] at h1
    exact h1
  have hlt : (0 : Int) ≤ k ∧ (k : Int) < 16 := by omega
  unfold Instr.index tabV
  go_simp

set_option maxHeartbeats 1000000 in
set_option maxRecDepth 100000 in
theorem places_any (w : World) (t : Nat → Pl) :
    Calls Tryz.prog 120 #[tabV t] w
      fun e w' => ∃ v, e = .returned v ∧ OwnS w' w.heap.size v (rows t 16) ∧ Below w.heap.size w w' := by
  have hlen : ((tabL t).flatMap encPl).length = 48 := by rw [flat_len, tabL_len]
  unfold tabV
  generalize hcs : (tabL t).flatMap encPl = cs at *
  have HCS : Hid ((tabL t).flatMap encPl = cs) := hcs
  clear hcs
  have hix : ∀ (k : Nat) (W : World), k < 16 → (Instr.index 150 (.agg cs.toArray) (.int .i64 k)).run Tryz.prog W = .ok (plV (t k)) W := fun k W hk => by
    rw [← HCS.out]
    exact run_index_tab t k hk W
  have HI : Hid ((Tryz.prog.info? 150).map (·.size) = some cs.length) := by show _ = _; rw [infoTable, hlen]
  have hN := Blk.new w cs 150
  have hB := Go.Joins.below_alloc1 w (Obj.cells cs.toArray 150)
  have HN : Hid ((w.alloc (Obj.cells cs.toArray 150)).rangeAt w.heap.size 0 cs) := fun j v hv => by rw [Nat.zero_add]; exact hN.at j hv
  clear hN
  go_enter Tryz.func120, Tryz.ntmps120
  obtain ⟨i0, hi, hz0, hz1, hz2⟩ := info_parts infoPlace
  go_wp2_with (first | (refine wpList_load_mid rfl 150 _ rfl w.heap.size 0 rfl cs _ HN.out Tryz.underlying150 rfl HI.out ?_))
  generalize hW : w.alloc (Obj.cells cs.toArray 150) = W0 at hB
  have hS : W0.heap.size = w.heap.size + 1 := by subst hW; simp
  clear hW HN HI HCS hlen
  go_loopw [3, 7] (fun v i W => ∃ k : Nat, k ≤ 16 ∧ i = .int .i64 k ∧ W.ownsRow W0.heap.size 64 3 v (rows t k).length ((rows t k).flatMap encPl) ∧ Below W0.heap.size W0 W) (fun _ i _ => 16 - (intOf i).toNat)
  case atStart => exact ⟨0, by omega, rfl, World.ownsRow_nil _ _ _ _, Below.refl _ _⟩
  case round =>
    obtain ⟨k, hk, rfl, hown, hb⟩ := hrel
    have hkl := Orangery.rows_len t k
    by_cases hlt : k < 16
    · have HS : Hid (rows t (k + 1) = rows t k ++ if 0 < k ∧ 0 ≤ (t k).2.1 then [t k] else []) := Orangery.rows_succ t k
      have hixk : ∀ W, (Instr.index 150 (.agg cs.toArray) (.int .i64 k)).run Tryz.prog W = .ok (plV (t k)) W := fun W => hix k W hlt
      have HIX : Hid (∀ (k : Nat) (W : World), k < 16 → (Instr.index 150 (.agg cs.toArray) (.int .i64 k)).run Tryz.prog W = .ok (plV (t k)) W) := hix
      clear hix
      generalize hq : t k = q at *
      obtain ⟨q0, q1, q2⟩ := q
      clear hq
      generalize rows t k = K at *
      have hown1 := hown.alloc (Obj.cells #[Value.int IntKind.i64 q0, Value.int IntKind.i64 q1, Value.int IntKind.i64 q2] 64)
      have hb1 := hb.alloc hb.size (Obj.cells #[Value.int IntKind.i64 q0, Value.int IntKind.i64 q1, Value.int IntKind.i64 q2] 64)
      by_cases h0 : 0 < k
      · have d0 : decide ((k : Int) > 0) = true := by simp; omega
        by_cases h1 : 0 ≤ q1
        · have d1 : decide (q1 ≥ 0) = true := by simpa using h1
          have HF : Hid ((if 0 < k ∧ 0 ≤ ((q0, q1, q2) : Pl).2.1 then [((q0, q1, q2) : Pl)] else []) = [(q0, q1, q2)]) := by show _ = _; rw [if_pos ⟨h0, h1⟩]
          have hown2 := hown1.alloc (Obj.cells #[Value.int IntKind.i64 q0, Value.int IntKind.i64 q1, Value.int IntKind.i64 q2] 64)
          have hb3 := hb1.alloc (by simp; exact Nat.le_succ_of_le hb.size) (Obj.cells #[Value.int IntKind.i64 q0, Value.int IntKind.i64 q1, Value.int IntKind.i64 q2] 64)
          clear hown hown1
          go_wp2_with (at_builtin; refine wpList_append_own _ rfl _ _ 23 rfl W0.heap.size 64 i0 _ 3 24 Tryz.underlying23 hi hz0 hz1 hz2 rfl (by decide) _ _ _ rfl hown2 ⟨wr.heap.size + 1, 0, none⟩ 1 1 [.int .i64 q0, .int .i64 q1, .int .i64 q2] rfl rfl ?c1 ?c2 ?c3 ?c4 ?c5 ?_)
          case c2 => exact ⟨rfl, rfl, rfl⟩
          case c3 => unfold maxLen; omega
          case c4 => omega
          case c5 => have := hb.size; omega
          · intro v' w4 hown' hgrow _
            have hb4 := hb3.trans (below_grown hown2 hb3.size hgrow)
            clear hgrow hown2
            go_wp2
            go_roundw
            case rel =>
              refine ⟨k + 1, hlt, by go_num, ?_, hb4⟩
              rw [HS.out, HF.out, hS]
              simpa [encPl] using hown'
            case measure => simp [intOf]; omega
        · have d1 : decide (q1 ≥ 0) = false := by simpa using h1
          have HF : Hid ((if 0 < k ∧ 0 ≤ ((q0, q1, q2) : Pl).2.1 then [((q0, q1, q2) : Pl)] else []) = []) := by show _ = _; rw [if_neg (fun hh => h1 hh.2)]
          go_wp2
          go_roundw
          case rel =>
            refine ⟨k + 1, hlt, by go_num, ?_, hb1⟩
            rw [HS.out, HF.out, List.append_nil]
            exact hown1
          case measure => simp [intOf]; omega
      · have d0 : decide ((k : Int) > 0) = false := by simp; omega
        have HF : Hid ((if 0 < k ∧ 0 ≤ ((q0, q1, q2) : Pl).2.1 then [((q0, q1, q2) : Pl)] else []) = []) := by show _ = _; rw [if_neg (fun hh => h0 hh.1)]
        go_wp2
        go_roundw
        case rel =>
          refine ⟨k + 1, hlt, by go_num, ?_, hb1⟩
          rw [HS.out, HF.out, List.append_nil]
          exact hown1
        case measure => simp [intOf]; omega
    · have hk' : k = 16 := by omega
      subst hk'
      have hO := own_pls hown
      clear hown
      go_wp2
      go_ret
      exact ⟨_, rfl, hO.mono (by omega), hB.trans (hb.mono (by omega))⟩
end Go.Proofs.YthlhnokgcnieeadGreat

/- orangeryref.done: an operation on right places. -/
namespace Go.Proofs.YthlhnokgcnieeadGreat
open Go.ChangeShapes Go.WideShapes Go.ChangeAt Go.RowKit
open Orangery (Pl Mv Stp outL inL check checkOp doE doT doS ring orI underB find noStep noOp chain hasB tabAt rows scan)

set_option maxHeartbeats 2000000 in
set_option maxRecDepth 100000 in
theorem rdone_any (w : World) (a : Option Addr) (c : Nat) (l : List Pl) (o : Mv) (hl : l.length ≤ maxLen) (h : SlP w a l) (hz : doE l o = 0) :
    Calls Tryz.prog 100 #[.slice a l.length c, opV o] w
      fun e w' => ∃ a' c', e = .returned (.tuple #[.slice a' (doT l o).length c', stV (doS l o)]) ∧ ((a' = a ∧ doT l o = l) ∨ OwnS w' w.heap.size (.slice a' (doT l o).length c') (doT l o)) ∧ Below w.heap.size w w' := by
  obtain ⟨o1, o2, ⟨o3, o4, o5⟩, o6, o7⟩ := o
  obtain ⟨hck, hco⟩ := Orangery.doE_zero hz
  have hok := Orangery.checkOp_zero hco
  obtain ⟨hr1, hr2, hr3⟩ := Orangery.opOk_place hok
  have hlen := Orangery.check_len l hck
  have hscan := Orangery.check_scan l hck
  have hup := Orangery.scan_up hscan
  have hrg1 := Orangery.under_eq l o4 o3 hck hr3 hr2
  have hn4 := (Orangery.isNodeB_iff o4).1 hr3
  have hn3 := (Orangery.inRangeB_iff (o3, o4, o5)).1 hr1
  have HZ : Hid (doE l (o1, o2, (o3, o4, o5), o6, o7) = 0) := hz
  have HSC : Hid (scan 0 l = 0) := hscan
  have HUP : Hid (∀ p ∈ l, 0 ≤ p.2.1 ∧ p.2.1 ≤ 16) := hup
  have HR1 : Hid (Orangery.inRangeB (o3, o4, o5) = true) := hr1
  have HRG1 : Hid (ring l (o1, o2, (o3, o4, o5), o6, o7) = hasB o3 (chain l o4)) := hrg1
  clear hz hck hco hok hr1 hr2 hr3 hscan hup hrg1
  go_enter Tryz.func100, Tryz.ntmps100
  go_wp2_with fail
  obtain ⟨W0, hW, hO, hQ, hB, hS⟩ := laid2 w [Value.int IntKind.i64 o1, Value.int IntKind.i64 o2, Value.int IntKind.i64 o3, Value.int IntKind.i64 o4, Value.int IntKind.i64 o5, Value.int IntKind.i64 o6, Value.int IntKind.i64 o7] 35 [Value.int IntKind.i64 0, Value.int IntKind.i64 0, Value.int IntKind.i64 0, Value.int IntKind.i64 0, Value.int IntKind.i64 0, Value.int IntKind.i64 0, Value.int IntKind.i64 0, Value.bool false, Value.int IntKind.i64 0, Value.int IntKind.i64 0, Value.int IntKind.i64 0] 95
  rw [hW]
  clear hW
  have hP := h.below hB
  have HPW : Hid (SlP w a l) := h
  have HS : Hid (W0.heap.size = w.heap.size + 2) := hS
  clear h hS
  have m0 := hO.at 0 rfl
  have m1 := hO.at 1 rfl
  have m2 := hO.at 2 rfl
  have m3 := hO.at 3 rfl
  have m4 := hO.at 4 rfl
  have m5 := hO.at 5 rfl
  have m6 := hO.at 6 rfl
  have n1 := World.new_ne W0 _ m0
  go_upto_region 1 with fail
  go_cut [6] from 6 to 13 (fun r wc => ∃ bs, r = .pointer (some ⟨bs, 0, none⟩) ∧ W0.heap.size ≤ bs ∧ Blk wc bs (stC ((o1, o2, (o3, o4, o5), o6, o7), false, find l o3)) ∧ Below W0.heap.size W0 wc)
  case first =>
    go_region_held3 (fun w' => w'.cell? ⟨w.heap.size, 0, none⟩ = some (.int .i64 o1) ∧ w'.cell? ⟨w.heap.size, 1, none⟩ = some (.int .i64 o2) ∧ w'.cell? ⟨w.heap.size, 2, none⟩ = some (.int .i64 o3) ∧ w'.cell? ⟨w.heap.size, 3, none⟩ = some (.int .i64 o4) ∧ w'.cell? ⟨w.heap.size, 4, none⟩ = some (.int .i64 o5) ∧ w'.cell? ⟨w.heap.size, 5, none⟩ = some (.int .i64 o6) ∧ w'.cell? ⟨w.heap.size, 6, none⟩ = some (.int .i64 o7)) (go_keep)
      (first | (go_at_call 80; refine (findIn_any _ a c l o3 hl ?_).mono ?_; exact hP; rintro e w5 ⟨rfl, hb5⟩; have hb5' : Below W0.heap.size W0 w5 := ((Below.refl _ W0).drew).trans hb5; have hO5 := hO.keep hb5'; have m10 := hO5.at 0 rfl; have m11 := hO5.at 1 rfl; have m12 := hO5.at 2 rfl; have m13 := hO5.at 3 rfl; have m14 := hO5.at 4 rfl; have m15 := hO5.at 5 rfl; have m16 := hO5.at 6 rfl; have y1 := World.new_ne w5 _ m10) | (go_at_call 80; refine (findIn_any _ a c l o3 hl ?_).mono ?_; exact hP.below (((Below.refl _ W0).alloc (Nat.le_refl _) _).drew); rintro e w5 ⟨rfl, hb5⟩; have hb5' : Below W0.heap.size W0 w5 := (((Below.refl _ W0).alloc (Nat.le_refl _) _).drew).trans (hb5.mono (by simp)); have hN5 := ((Blk.new W0 (stC noStep) 95).drew).keep hb5; have z0 := hN5.at 0 rfl; have z1 := hN5.at 1 rfl; have z2 := hN5.at 2 rfl; have z3 := hN5.at 3 rfl; have z4 := hN5.at 4 rfl; have z5 := hN5.at 5 rfl; have z6 := hN5.at 6 rfl; have z7 := hN5.at 7 rfl; have z8 := hN5.at 8 rfl; have z9 := hN5.at 9 rfl; have z10 := hN5.at 10 rfl; have zf := hN5.frz; have hO5 := hO.keep hb5'; have m10 := hO5.at 0 rfl; have m11 := hO5.at 1 rfl; have m12 := hO5.at 2 rfl; have m13 := hO5.at 3 rfl; have m14 := hO5.at 4 rfl; have m15 := hO5.at 5 rfl; have m16 := hO5.at 6 rfl; have y1 := World.new_ne w5 _ m10))
    · go_wp2
      go_meet
      case rel => exact ⟨w5.heap.size, rfl, hb5'.size, Blk.new w5 (stC ((o1, o2, (o3, o4, o5), o6, o7), false, find l o3)) 95, hb5'.alloc hb5'.size _⟩
    · go_wp2
      go_meet
      case rel => exact ⟨W0.heap.size, rfl, Nat.le_refl _, hN5.sets (stC ((o1, o2, (o3, o4, o5), o6, o7), false, find l o3)) rfl, below_sets hb5' W0.heap.size (Nat.le_refl _) (stC ((o1, o2, (o3, o4, o5), o6, o7), false, find l o3)) 0⟩
  case rest =>
    obtain ⟨bs, rfl, hbs, hS5, hb5⟩ := hcut
    have hS := HS.out
    have hO5 := hO.keep hb5
    have hQ5 := hQ.keep hb5
    have hP5 := hP.below hb5
    have HB5 : Hid (Below w.heap.size w wc) := hB.trans (hb5.mono hB.size)
    have hwc : w.heap.size + 1 + 1 ≤ wc.heap.size := by have := hb5.size; omega
    clear hO hQ hP hB hb5 m0 m1 m2 m3 m4 m5 m6 n1 HS
    rw [hS] at hbs
    clear hS
    have m0 := hO5.at 0 rfl
    have m1 := hO5.at 1 rfl
    have m2 := hO5.at 2 rfl
    have m3 := hO5.at 3 rfl
    have m4 := hO5.at 4 rfl
    have m5 := hO5.at 5 rfl
    have m6 := hO5.at 6 rfl
    go_wp2_with fail
    refine (isUnder_any wc a c l o4 o3 hl hP5 HUP.out hn4.1 hn4.2).mono ?_
    rintro e w6 ⟨rfl, hb6⟩
    rw [← HRG1.out]
    have hO6 := hO5.keep hb6
    have hQ6 := hQ5.keep hb6
    have hS6 := hS5.keep hb6
    have hP6 := hP5.below hb6
    have HB6 : Hid (Below w.heap.size w w6) := HB5.out.trans (hb6.mono HB5.out.size)
    have hw6 : w.heap.size + 1 + 1 ≤ w6.heap.size := by have := hb6.size; omega
    clear hO5 hQ5 hP5 hS5 HB5 hb6 hwc m0 m1 m2 m3 m4 m5 m6 HRG1
    have eS : doS l (o1, o2, (o3, o4, o5), o6, o7) = ((o1, o2, (o3, o4, o5), o6, o7), !ring l (o1, o2, (o3, o4, o5), o6, o7), find l o3) := by unfold doS; rw [if_neg (by simp [HZ.out])]
    have eT : doT l (o1, o2, (o3, o4, o5), o6, o7) = if ring l (o1, o2, (o3, o4, o5), o6, o7) = true then l else inL l (o3, o4, o5) := by unfold doT; rw [if_neg (by simp [HZ.out])]
    have HES : Hid (doS l (o1, o2, (o3, o4, o5), o6, o7) = ((o1, o2, (o3, o4, o5), o6, o7), !ring l (o1, o2, (o3, o4, o5), o6, o7), find l o3)) := eS
    have HET : Hid (doT l (o1, o2, (o3, o4, o5), o6, o7) = if ring l (o1, o2, (o3, o4, o5), o6, o7) = true then l else inL l (o3, o4, o5)) := eT
    clear eS eT
    cases hring : ring l (o1, o2, (o3, o4, o5), o6, o7)
    · have HRING : Hid (ring l (o1, o2, (o3, o4, o5), o6, o7) = false) := hring
      clear hring
      obtain ⟨m, rfl⟩ : ∃ m : Nat, o3 = m := ⟨o3.toNat, by omega⟩
      have hm16 : m < 16 := by omega
      have s7 := hS6.at 7 rfl
      have sf := hS6.frz
      have hS7 := hS6.set 7 (by simp [stC]) (.bool true)
      have hO7 := hO6.other (g := bs) (by omega) 7 (.bool true)
      have hQ7 := hQ6.other (g := bs) (by omega) 7 (.bool true)
      have HB7 : Hid (Below w.heap.size w (w6.setCell ⟨bs, 7, none⟩ (.bool true))) := HB6.out.setCell (by show w.heap.size ≤ bs; omega) _
      have hP7 := HPW.out.below HB7.out
      have hbl : bs < w6.heap.size := hS6.lt
      clear hS6 hO6 hQ6 hP6 HB6
      go_wp2_with fail
      have hsz : (w6.setCell ⟨bs, 7, none⟩ (.bool true)).heap.size = w6.heap.size := by simp
      generalize w6.setCell ⟨bs, 7, none⟩ (.bool true) = W7 at *
      rw [← hsz] at hw6 hbl
      clear hsz s7 sf
      refine (table_any W7 a c l (by omega) hP7 HSC.out).mono ?_
      rintro e w8 ⟨rfl, hb8⟩
      have hS8 := hS7.keep hb8
      have hO8 := hO7.keep hb8
      have hQ8 := hQ7.keep hb8
      have HB8 : Hid (Below w.heap.size w w8) := HB7.out.trans (hb8.mono HB7.out.size)
      have hw8 : w.heap.size + 1 + 1 ≤ w8.heap.size := by have := hb8.size; omega
      have hbl8 : bs < w8.heap.size := by have := hb8.size; omega
      clear hS7 hO7 hQ7 hP7 HB7 hb8 hbl hw6
      have hcs : ((tabL fun n => tabAt l n).flatMap encPl).length = 48 := by rw [flat_len, tabL_len]
      have hone := all_oneCell_toArray (flat_one (tabL fun n => tabAt l n))
      unfold tabV
      generalize hcd : (tabL fun n => tabAt l n).flatMap encPl = cs at *
      have HCD : Hid ((tabL fun n => tabAt l n).flatMap encPl = cs) := hcd
      clear hcd
      have hst : (storeCells ⟨w8.heap.size, 0, none⟩ cs 0).run Tryz.prog (w8.alloc (.cells #[Value.int IntKind.i64 0, Value.int IntKind.i64 0, Value.int IntKind.i64 0, Value.int IntKind.i64 0, Value.int IntKind.i64 0, Value.int IntKind.i64 0, Value.int IntKind.i64 0, Value.int IntKind.i64 0, Value.int IntKind.i64 0, Value.int IntKind.i64 0, Value.int IntKind.i64 0, Value.int IntKind.i64 0, Value.int IntKind.i64 0, Value.int IntKind.i64 0, Value.int IntKind.i64 0, Value.int IntKind.i64 0, Value.int IntKind.i64 0, Value.int IntKind.i64 0, Value.int IntKind.i64 0, Value.int IntKind.i64 0, Value.int IntKind.i64 0, Value.int IntKind.i64 0, Value.int IntKind.i64 0, Value.int IntKind.i64 0, Value.int IntKind.i64 0, Value.int IntKind.i64 0, Value.int IntKind.i64 0, Value.int IntKind.i64 0, Value.int IntKind.i64 0, Value.int IntKind.i64 0, Value.int IntKind.i64 0, Value.int IntKind.i64 0, Value.int IntKind.i64 0, Value.int IntKind.i64 0, Value.int IntKind.i64 0, Value.int IntKind.i64 0, Value.int IntKind.i64 0, Value.int IntKind.i64 0, Value.int IntKind.i64 0, Value.int IntKind.i64 0, Value.int IntKind.i64 0, Value.int IntKind.i64 0, Value.int IntKind.i64 0, Value.int IntKind.i64 0, Value.int IntKind.i64 0, Value.int IntKind.i64 0, Value.int IntKind.i64 0, Value.int IntKind.i64 0] 150)) = .ok () (w8.alloc (.cells cs.toArray 150)) := by
        have := run_storeCells_new (P := Tryz.prog) w8 150 #[Value.int IntKind.i64 0, Value.int IntKind.i64 0, Value.int IntKind.i64 0, Value.int IntKind.i64 0, Value.int IntKind.i64 0, Value.int IntKind.i64 0, Value.int IntKind.i64 0, Value.int IntKind.i64 0, Value.int IntKind.i64 0, Value.int IntKind.i64 0, Value.int IntKind.i64 0, Value.int IntKind.i64 0, Value.int IntKind.i64 0, Value.int IntKind.i64 0, Value.int IntKind.i64 0, Value.int IntKind.i64 0, Value.int IntKind.i64 0, Value.int IntKind.i64 0, Value.int IntKind.i64 0, Value.int IntKind.i64 0, Value.int IntKind.i64 0, Value.int IntKind.i64 0, Value.int IntKind.i64 0, Value.int IntKind.i64 0, Value.int IntKind.i64 0, Value.int IntKind.i64 0, Value.int IntKind.i64 0, Value.int IntKind.i64 0, Value.int IntKind.i64 0, Value.int IntKind.i64 0, Value.int IntKind.i64 0, Value.int IntKind.i64 0, Value.int IntKind.i64 0, Value.int IntKind.i64 0, Value.int IntKind.i64 0, Value.int IntKind.i64 0, Value.int IntKind.i64 0, Value.int IntKind.i64 0, Value.int IntKind.i64 0, Value.int IntKind.i64 0, Value.int IntKind.i64 0, Value.int IntKind.i64 0, Value.int IntKind.i64 0, Value.int IntKind.i64 0, Value.int IntKind.i64 0, Value.int IntKind.i64 0, Value.int IntKind.i64 0, Value.int IntKind.i64 0] cs.toArray (by rw [infoTable]; simp [hcs]) (by simp [hcs]) hone
        exact this
      have hT10 := Blk.new w8 cs 150
      have hS10 := hS8.alloc (.cells cs.toArray 150)
      have hO10 := hO8.alloc (.cells cs.toArray 150)
      have hQ10 := hQ8.alloc (.cells cs.toArray 150)
      have HB10 : Hid (Below w.heap.size w (w8.alloc (.cells cs.toArray 150))) := HB8.out.alloc HB8.out.size _
      have hsz10 : (w8.alloc (.cells cs.toArray 150)).heap.size = w8.heap.size + 1 := by simp
      have HFL : Hid (HoldsP (w8.alloc (.cells cs.toArray 150)) w8.heap.size (tabL fun n => tabAt l n)) := by
        show HoldsP _ _ _
        rw [← HCD.out] at hT10 ⊢
        exact hT10.holds
      clear hS8 hO8 hQ8 HB8 hone
      go_upto_region 6 with fail
      generalize w8.alloc (.cells cs.toArray 150) = W10 at *
      have k2 := hO10.at 2 rfl
      have k3 := hO10.at 3 rfl
      have k4 := hO10.at 4 rfl
      have hH := HFL.out
      have hc := hH.1 m (by rw [tabL_len]; exact hm16)
      simp only [Nat.zero_add] at hc
      obtain ⟨x0, x1, x2⟩ := hc
      have hfz := hT10.frz
      have hH11 := hH.set m (by rw [tabL_len]; exact hm16) ((m : Int), o4, o5)
      rw [tabL_set _ (fun n => if (n : Int) = (m : Int) then ((m : Int), o4, o5) else tabAt l n) m _ (by simp) (by intro n hn; rw [if_neg (by omega)])] at hH11
      have hT11 : Blk (((W10.setCell ⟨w8.heap.size, m * 3, none⟩ (.int .i64 (m : Int))).setCell ⟨w8.heap.size, m * 3 + 1, none⟩ (.int .i64 o4)).setCell ⟨w8.heap.size, m * 3 + 2, none⟩ (.int .i64 o5)) w8.heap.size ((tabL fun n => if (n : Int) = (m : Int) then ((m : Int), o4, o5) else tabAt l n).flatMap encPl) :=
        ⟨by simp; omega, fun j => by simp only [World.frozen?_setCell]; exact hfz j, fun i v hv => by have := hH11.range i v hv; rw [Nat.zero_add] at this; exact this⟩
      have hS11 := ((hS10.other (g := w8.heap.size) (by omega) (m * 3) (.int .i64 (m : Int))).other (g := w8.heap.size) (by omega) (m * 3 + 1) (.int .i64 o4)).other (g := w8.heap.size) (by omega) (m * 3 + 2) (.int .i64 o5)
      have hQ11 := ((hQ10.other (g := w8.heap.size) (by omega) (m * 3) (.int .i64 (m : Int))).other (g := w8.heap.size) (by omega) (m * 3 + 1) (.int .i64 o4)).other (g := w8.heap.size) (by omega) (m * 3 + 2) (.int .i64 o5)
      have HB11 : Hid (Below w.heap.size w (((W10.setCell ⟨w8.heap.size, m * 3, none⟩ (.int .i64 (m : Int))).setCell ⟨w8.heap.size, m * 3 + 1, none⟩ (.int .i64 o4)).setCell ⟨w8.heap.size, m * 3 + 2, none⟩ (.int .i64 o5))) := ((HB10.out.setCell (by show _ ≤ w8.heap.size; omega) _).setCell (by show _ ≤ w8.heap.size; omega) _).setCell (by show _ ≤ w8.heap.size; omega) _
      have hsz11 : (((W10.setCell ⟨w8.heap.size, m * 3, none⟩ (.int .i64 (m : Int))).setCell ⟨w8.heap.size, m * 3 + 1, none⟩ (.int .i64 o4)).setCell ⟨w8.heap.size, m * 3 + 2, none⟩ (.int .i64 o5)).heap.size = W10.heap.size := by simp
      have HX11 : Hid (Blk (((W10.setCell ⟨w8.heap.size, m * 3, none⟩ (.int .i64 (m : Int))).setCell ⟨w8.heap.size, m * 3 + 1, none⟩ (.int .i64 o4)).setCell ⟨w8.heap.size, m * 3 + 2, none⟩ (.int .i64 o5)) w8.heap.size ((tabL fun n => if (n : Int) = (m : Int) then ((m : Int), o4, o5) else tabAt l n).flatMap encPl)) := hT11
      have HX12 : Hid (Blk (((W10.setCell ⟨w8.heap.size, m * 3, none⟩ (.int .i64 (m : Int))).setCell ⟨w8.heap.size, m * 3 + 1, none⟩ (.int .i64 o4)).setCell ⟨w8.heap.size, m * 3 + 2, none⟩ (.int .i64 o5)) bs (stC ((o1, o2, ((m : Int), o4, o5), o6, o7), true, find l (m : Int)))) := hS11
      have HX13 : Hid (Blk (((W10.setCell ⟨w8.heap.size, m * 3, none⟩ (.int .i64 (m : Int))).setCell ⟨w8.heap.size, m * 3 + 1, none⟩ (.int .i64 o4)).setCell ⟨w8.heap.size, m * 3 + 2, none⟩ (.int .i64 o5)) (w.heap.size + 1) [Value.int IntKind.i64 0, Value.int IntKind.i64 0, Value.int IntKind.i64 0, Value.int IntKind.i64 0, Value.int IntKind.i64 0, Value.int IntKind.i64 0, Value.int IntKind.i64 0, Value.bool false, Value.int IntKind.i64 0, Value.int IntKind.i64 0, Value.int IntKind.i64 0]) := hQ11
      clear hH hH11 hT11 hS11 hQ11 hS10 hO10 hQ10 HB10 hT10 hst
      go_upto_region 7 with fail
      generalize ((W10.setCell ⟨w8.heap.size, m * 3, none⟩ (.int .i64 (m : Int))).setCell ⟨w8.heap.size, m * 3 + 1, none⟩ (.int .i64 o4)).setCell ⟨w8.heap.size, m * 3 + 2, none⟩ (.int .i64 o5) = W11 at *
      have hW11 : w8.heap.size + 1 = W11.heap.size := by omega
      clear hsz11 hsz10 k2 k3 k4 x0 x1 x2 hfz HFL HCD hcs
      have HIT : Hid ((Tryz.prog.info? 150).map (·.size) = some ((tabL fun n => if (n : Int) = (m : Int) then ((m : Int), o4, o5) else tabAt l n).flatMap encPl).length) := by show _ = _; rw [infoTable, flat_len, tabL_len]
      refine wp_region_held_drew (S := fun w' => Blk w' w8.heap.size ((tabL fun n => if (n : Int) = (m : Int) then ((m : Int), o4, o5) else tabAt l n).flatMap encPl) ∧ Blk w' bs (stC ((o1, o2, ((m : Int), o4, o5), o6, o7), true, find l (m : Int)))) (by kernel_rfl) ⟨HX11.out.drew, HX12.out.drew⟩ (fun hHeld => ?_)
      refine take_load 0 35 150 w8.heap.size ((tabL fun n => if (n : Int) = (m : Int) then ((m : Int), o4, o5) else tabAt l n).flatMap encPl) rfl rfl (by kernel_rfl) (by kernel_rfl) (by kernel_rfl) (fun _ _ _ h => h) (by rfl) (by rfl) (by rfl) (fun w hw => hw.1.range) Tryz.underlying150 rfl HIT.out hHeld ?_
      simp only [Act.put, List.setIfInBounds_toArray, List.set_cons_succ, List.set_cons_zero]
      refine take_load 2 37 95 bs (stC ((o1, o2, ((m : Int), o4, o5), o6, o7), true, find l (m : Int))) rfl rfl (by kernel_rfl) (by kernel_rfl) (by kernel_rfl) (fun _ _ _ h => h) (by rfl) (by rfl) (by rfl) (fun w hw => hw.2.range) Tryz.underlying95 rfl sizeStep hHeld ?_
      simp only [Act.put, List.setIfInBounds_toArray, List.set_cons_succ, List.set_cons_zero]
      refine wpAnyH_ready (rs := [1]) (by kernel_rfl) (by simp) ?_
      refine AllReadyH.cons rfl (fun K hK => ?_) AllReadyH.nil
      go_simp
      refine (places_any _ (fun n => if (n : Int) = (m : Int) then ((m : Int), o4, o5) else tabAt l n)).mono ?_
      rintro e w12 ⟨v12, rfl, hO12, hb12⟩
      have hrw := Orangery.rows_set l ((m : Int), o4, o5) HSC.out HR1.out
      have hO13 : OwnS w12 (w.heap.size + 1 + 1) v12 (inL l ((m : Int), o4, o5)) := by
        rw [← hrw]
        exact hO12.mono (by show _ ≤ W11.heap.size; omega)
      obtain ⟨a12, c12, rfl⟩ := hO13.val
      have hb12' : Below W11.heap.size W11 w12 := ((Below.refl _ W11).drew).trans hb12
      have hQ12 := HX13.out.keep hb12'
      have hS12 := HX12.out.keep hb12'
      have hT12 := HX11.out.keep hb12'
      go_wp2_with fail
      refine hK.out _ _ ⟨hT12, hS12⟩ (fun hHeld => ?_)
      clear hK K
      refine take_yes 3 4 (v := ?_) rfl rfl (by kernel_rfl) (by kernel_rfl) (by kernel_rfl) (fun _ _ _ h => h) (by rfl) ?_ hHeld ?_
      rotate_left 1
      · (intro w hSw; go_simp; try with_reducible rfl)
      simp only [Act.put, List.setIfInBounds_toArray, List.set_cons_succ, List.set_cons_zero]
      refine step_store 4 95 (w.heap.size + 1) (stC ((o1, o2, ((m : Int), o4, o5), o6, o7), true, find l (m : Int))) (by kernel_rfl) rfl rfl (by rfl) (by rfl) (by rfl) (by rfl) hQ12.there sizeStep (stC_one _) ⟨hT12.others (by omega) _ _, hS12.others (by omega) _ _⟩ ?_
      refine wpAnyH_done (by kernel_rfl) ?_ _
      go_wp2
      refine ret_tmp_cell Tryz.results100 rfl rfl ((hQ12.sets (stC ((o1, o2, ((m : Int), o4, o5), o6, o7), true, find l (m : Int))) rfl).load Tryz.underlying95 rfl sizeStep) ?_
      refine ⟨a12, c12, ?_, ?_, ?_⟩
      · rw [HES.out, HET.out, HRING.out]; rfl
      · rw [HET.out, HRING.out]
        exact Or.inr ((OwnS.others (w.heap.size + 1) (by omega) (stC ((o1, o2, ((m : Int), o4, o5), o6, o7), true, find l (m : Int))) 0 _ hO13).mono (by omega))
      · exact below_sets (HB11.out.trans (hb12'.mono HB11.out.size)) (w.heap.size + 1) (by omega) (stC ((o1, o2, ((m : Int), o4, o5), o6, o7), true, find l (m : Int))) 0
    · have HRING : Hid (ring l (o1, o2, (o3, o4, o5), o6, o7) = true) := hring
      clear hring
      have hth : w6.there (w.heap.size + 1) 0 11 := hQ6.there
      have hne : bs ≠ w.heap.size + 1 := by omega
      go_upto_region 3 with fail
      refine wp_region_held_drew (S := fun w' => Blk w' bs (stC ((o1, o2, (o3, o4, o5), o6, o7), false, find l o3))) (by kernel_rfl) hS6.drew (fun hHeld => ?_)
      refine take_load 1 21 95 bs (stC ((o1, o2, (o3, o4, o5), o6, o7), false, find l o3)) rfl rfl (by kernel_rfl) (by kernel_rfl) (by kernel_rfl) (fun _ _ _ h => h) (by rfl) (by rfl) (by rfl) (fun w hw => hw.range) Tryz.underlying95 rfl sizeStep hHeld ?_
      simp only [Act.put, List.setIfInBounds_toArray, List.set_cons_succ, List.set_cons_zero]
      refine take_yes 0 20 (v := ?_) rfl rfl (by kernel_rfl) (by kernel_rfl) (by kernel_rfl) (fun _ _ _ h => h) (by rfl) ?_ hHeld ?_
      rotate_left 1
      · (intro w hSw; go_simp; try with_reducible rfl)
      simp only [Act.put, List.setIfInBounds_toArray, List.set_cons_succ, List.set_cons_zero]
      refine take_yes 2 4 (v := ?_) rfl rfl (by kernel_rfl) (by kernel_rfl) (by kernel_rfl) (fun _ _ _ h => h) (by rfl) ?_ hHeld ?_
      rotate_left 1
      · (intro w hSw; go_simp; try with_reducible rfl)
      simp only [Act.put, List.setIfInBounds_toArray, List.set_cons_succ, List.set_cons_zero]
      refine step_store 3 95 (w.heap.size + 1) (stC ((o1, o2, (o3, o4, o5), o6, o7), false, find l o3)) (by kernel_rfl) rfl rfl (by rfl) (by rfl) (by rfl) (by rfl) hth sizeStep (stC_one _) (hS6.drew.others hne _ _) ?_
      refine wpAnyH_done (by kernel_rfl) ?_ _
      go_wp2
      refine ret_tmp_cell Tryz.results100 rfl rfl ((hQ6.drew.sets (stC ((o1, o2, (o3, o4, o5), o6, o7), false, find l o3)) rfl).load Tryz.underlying95 rfl sizeStep) ?_
      refine ⟨a, c, ?_, ?_, ?_⟩
      · rw [HES.out, HET.out, HRING.out]; rfl
      · rw [HET.out, HRING.out]
        exact Or.inl ⟨rfl, rfl⟩
      · exact below_sets HB6.out.drew (w.heap.size + 1) (by omega) (stC ((o1, o2, (o3, o4, o5), o6, o7), false, find l o3)) 0
end Go.Proofs.YthlhnokgcnieeadGreat

/- Plain facts on the reference's fold: the least one above the last one, looked for one by one. -/
namespace Orangery

/-- what the search for the least one above the last one has found among the first i -/
def bestOk (l : List Mv) (last : Int) (i : Nat) (best : Int) : Prop :=
  (best = -1 ∧ ∀ x ∈ l.take i, ¬ last < rk x) ∨
  ∃ j : Nat, ∃ hj : j < l.length, best = j ∧ j < i ∧ last < rk l[j] ∧ (∀ x ∈ l.take i, last < rk x → rk l[j] ≤ rk x) ∧ ∀ x ∈ l.take j, rk x ≠ rk l[j]

theorem best_start (l : List Mv) (last : Int) : bestOk l last 0 (-1) := Or.inl ⟨rfl, by simp⟩

theorem mem_take_succ {l : List Mv} {i : Nat} (hi : i < l.length) (x : Mv) : x ∈ l.take (i + 1) ↔ x ∈ l.take i ∨ x = l[i] := by
  rw [List.take_succ_eq_append_getElem hi, List.mem_append, List.mem_singleton]

theorem best_no {l : List Mv} {last best : Int} {i : Nat} (hi : i < l.length) (h : bestOk l last i best) (hn : ¬ last < rk l[i]) : bestOk l last (i + 1) best := by
  rcases h with ⟨rfl, h⟩ | ⟨j, hj, rfl, h1, h2, h3, h4⟩
  · refine Or.inl ⟨rfl, fun x hx => ?_⟩
    rcases (mem_take_succ hi x).1 hx with hx | rfl
    · exact h x hx
    · exact hn
  · refine Or.inr ⟨j, hj, rfl, by omega, h2, fun x hx hl => ?_, h4⟩
    rcases (mem_take_succ hi x).1 hx with hx | rfl
    · exact h3 x hx hl
    · exact absurd hl hn
theorem best_first {l : List Mv} {last : Int} {i : Nat} (hi : i < l.length) (h : bestOk l last i (-1)) (hn : last < rk l[i]) : bestOk l last (i + 1) i := by
  rcases h with ⟨_, h⟩ | ⟨j, hj, e, _⟩
  · refine Or.inr ⟨i, hi, rfl, by omega, hn, fun x hx hl => ?_, fun x hx e => ?_⟩
    · rcases (mem_take_succ hi x).1 hx with hx | rfl
      · exact absurd hl (h x hx)
      · exact Int.le_refl _
    · exact h x hx (by rw [e]; exact hn)
  · omega
theorem best_less {l : List Mv} {last : Int} {i j : Nat} (hi : i < l.length) (hj : j < l.length) (h : bestOk l last i j) (hn : last < rk l[i]) (hl : rk l[i] < rk l[j]) : bestOk l last (i + 1) i := by
  rcases h with ⟨e, _⟩ | ⟨j', hj', e, h1, h2, h3, h4⟩
  · omega
  · obtain rfl : j = j' := by omega
    refine Or.inr ⟨i, hi, rfl, by omega, hn, fun x hx hlx => ?_, fun x hx e => ?_⟩
    · rcases (mem_take_succ hi x).1 hx with hx | rfl
      · have := h3 x hx hlx; omega
      · exact Int.le_refl _
    · have := h3 x hx (by rw [e]; exact hn)
      omega
theorem best_keep {l : List Mv} {last : Int} {i j : Nat} (hi : i < l.length) (hj : j < l.length) (h : bestOk l last i j) (hl : ¬ rk l[i] < rk l[j]) : bestOk l last (i + 1) j := by
  rcases h with ⟨e, _⟩ | ⟨j', hj', e, h1, h2, h3, h4⟩
  · omega
  · obtain rfl : j = j' := by omega
    refine Or.inr ⟨j, hj', rfl, by omega, h2, fun x hx hlx => ?_, h4⟩
    rcases (mem_take_succ hi x).1 hx with hx | rfl
    · exact h3 x hx hlx
    · omega

theorem best_cases {l : List Mv} {last best : Int} {i : Nat} (h : bestOk l last i best) : best = -1 ∨ ∃ j : Nat, best = j ∧ j < l.length := by
  rcases h with ⟨e, _⟩ | ⟨j, hj, e, _⟩
  · exact Or.inl e
  · exact Or.inr ⟨j, e, hj⟩

theorem best_none {l : List Mv} {k : Nat} (hk : k ≤ (srt l).length) (hok : ∀ o ∈ l, checkOp o = 0) (h : bestOk l (lastR (srt l) k) l.length (-1)) : k = (srt l).length := by
  rcases h with ⟨_, h⟩ | ⟨j, hj, e, _⟩
  · rw [List.take_of_length_le (Nat.le_refl _)] at h
    exact srt_none l k hk (fun o ho => rk_pos (hok o ho)) h
  · omega
theorem best_next {l : List Mv} {k j : Nat} (hk : k ≤ (srt l).length) (hok : ∀ o ∈ l, checkOp o = 0) (h : bestOk l (lastR (srt l) k) l.length j) :
    ∃ hj : j < l.length, ∃ h : k < (srt l).length, (srt l)[k] = l[j] := by
  rcases h with ⟨e, _⟩ | ⟨j', hj', e, h1, h2, h3, h4⟩
  · omega
  · obtain rfl : j = j' := by omega
    rw [List.take_of_length_le (Nat.le_refl _)] at h3
    have hf : l.find? (fun x => rk x == rk l[j]) = some l[j] := by
      rw [List.find?_eq_some_iff_getElem]
      refine ⟨by simp, j, hj', rfl, fun i hi => ?_⟩
      have : rk l[i] ≠ rk l[j] := h4 l[i] (by rw [List.mem_take_iff_getElem]; exact ⟨i, by omega, rfl⟩)
      simp [this]
    obtain ⟨h5, h6⟩ := srt_next l k hk (fun o ho => rk_pos (hok o ho)) l[j] hf h2 h3
    exact ⟨hj', h5, h6⟩
theorem lastR_zero (d : List Mv) : lastR d 0 = -1 := by unfold lastR; rw [dif_neg (by omega)]
theorem lastR_succ (d : List Mv) (k : Nat) (hk : k < d.length) : lastR d (k + 1) = rk d[k] := by
  unfold lastR
  rw [dif_pos ⟨by omega, by simpa using hk⟩]
  simp
theorem noTwo_of_srt {l : List Mv} (h : l.length ≤ (srt l).length) : noTwo l := by
  by_cases hn : noTwo l
  · exact hn
  · have := (srt_len l).2.2 hn; omega
theorem twice_of_srt {l : List Mv} (h : (srt l).length < l.length) : ¬ noTwo l := by
  intro hn
  have := ((srt_len l).2.1 hn).length_eq
  omega
end Orangery

