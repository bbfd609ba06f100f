/- slices.DeleteFunc at places, on a slice of the call's own. -/
import Derived.Test.YtphameoibnimmaaOwn
import Derived.Test.YtphameoibnimmaaRefA
import Derived.Shelf.SlSortFuncK.RowK2
import Derived.Test.YtphameoibnimmaaPlainD
namespace Go.Proofs.Ytphameoibnimmaa
open Go.ChangeShapes Go.WideShapes Go.ChangeAt Go.RowKit
open Orangery (Pl idxF Kept)

theorem HoldsP.set {w : World} {g : Nat} {m : List Pl} (h : HoldsP w g m) (i : Nat) (hi : i < m.length) (x : Pl) :
    HoldsP (((w.setCell ⟨g, i * 3, none⟩ (.int .i64 x.1)).setCell ⟨g, i * 3 + 1, none⟩ (.int .i64 x.2.1)).setCell ⟨g, i * 3 + 2, none⟩ (.int .i64 x.2.2)) g (m.set i x) := by
  obtain ⟨hp, hf⟩ := h
  refine ⟨?_, ?_⟩
  · intro k hk
    have hk' : k < m.length := by simpa using hk
    have h0 := hp i hi
    have h1 := hp k hk'
    simp only [Nat.zero_add] at h0 h1 ⊢
    by_cases hik : i = k
    · subst hik
      simp only [List.getElem_set_self]
      refine ⟨?_, ?_, ?_⟩
      · rw [World.cell?_setCell_other _ _ _ _ (by simp), World.cell?_setCell_other _ _ _ _ (by simp), World.cell?_setCell_same _ _ _ h0.1]
      · rw [World.cell?_setCell_other _ _ _ _ (by simp), World.cell?_setCell_same _ _ _ (u := .int .i64 m[i].2.1)]
        rw [World.cell?_setCell_other _ _ _ _ (by simp), h0.2.1]
      · rw [World.cell?_setCell_same _ _ _ (u := .int .i64 m[i].2.2)]
        rw [World.cell?_setCell_other _ _ _ _ (by simp), World.cell?_setCell_other _ _ _ _ (by simp), h0.2.2]
    · rw [List.getElem_set_ne hik]
      refine ⟨?_, ?_, ?_⟩
      all_goals
        rw [World.cell?_setCell_other _ _ _ _ (by simp <;> omega), World.cell?_setCell_other _ _ _ _ (by simp <;> omega), World.cell?_setCell_other _ _ _ _ (by simp <;> omega)]
      · exact h1.1
      · exact h1.2.1
      · exact h1.2.2
  · intro k hk
    simp only [World.frozen?_setCell]
    exact hf k (by simpa using hk)

theorem HoldsP.below {w w' : World} {g : Nat} {m : List Pl} (h : HoldsP w g m) (hg : g < w.heap.size) (hb : Below w.heap.size w w') : HoldsP w' g m :=
  ⟨fun i hi => by rw [hb.cell hg, hb.cell hg, hb.cell hg]; exact h.1 i hi, fun i hi => by rw [hb.frozen hg]; exact h.2 i hi⟩

theorem zeroPlaces (n : Nat) : ∀ v ∈ (Builtin.zeroCells #[Value.int IntKind.i64 0, Value.int IntKind.i64 0, Value.int IntKind.i64 0] n).toList, v.oneCell' = true := by
  intro v hv
  simp [Builtin.zeroCells] at hv
  obtain ⟨a, _, rfl⟩ := hv
  have : a % 3 = 0 ∨ a % 3 = 1 ∨ a % 3 = 2 := by omega
  rcases this with h | h | h <;> rw [h] <;> rfl

/-- 'clear' of the end of a row -/
theorem run_clear_places (w : World) (ty : TypeId) (g i n c : Nat) (m : List Pl) (h : HoldsP w g m) (hn : i + n = m.length) (hp : 0 < n) :
    ∃ vs, vs.length = n * 3 ∧ (Builtin.clear_ #[27] ty #[.slice (some ⟨g, i * 3, none⟩) n c]).run Try.prog w = .ok (.tuple #[]) (w.setCells g (i * 3) vs) := by
  refine ⟨(Builtin.zeroCells #[Value.int IntKind.i64 0, Value.int IntKind.i64 0, Value.int IntKind.i64 0] n).toList, by simp [size_zeroCells], ?_⟩
  have hst := run_storeCells_cells (P := Try.prog) g (i * 3) (Builtin.zeroCells #[Value.int IntKind.i64 0, Value.int IntKind.i64 0, Value.int IntKind.i64 0] n).toList 0 w
    (by
      intro j hj
      have hj' : j < n * 3 := by simpa [size_zeroCells] using hj
      have hc := h.1 ((i * 3 + j) / 3) (by omega)
      have hm : (i * 3 + j) % 3 = 0 ∨ (i * 3 + j) % 3 = 1 ∨ (i * 3 + j) % 3 = 2 := by omega
      rcases hm with hm | hm | hm
      · rw [show i * 3 + 0 + j = 0 + (i * 3 + j) / 3 * 3 by omega, hc.1]; rfl
      · rw [show i * 3 + 0 + j = 0 + (i * 3 + j) / 3 * 3 + 1 by omega, hc.2.1]; rfl
      · rw [show i * 3 + 0 + j = 0 + (i * 3 + j) / 3 * 3 + 2 by omega, hc.2.2]; rfl)
    (by
      intro j hj
      have hj' : j < n * 3 := by simpa [size_zeroCells] using hj
      exact h.2 _ (by omega))
    (zeroPlaces n)
  simp only [Nat.add_zero] at hst
  obtain ⟨k, rfl⟩ : ∃ k, n = k + 1 := ⟨n - 1, by omega⟩
  have hz := Try.zeroValue36
  simp [Builtin.clear_, run_underlying Try.underlying27, hz, Value.cells, hst]

theorem HoldsP.cleared {w : World} {g i : Nat} {m : List Pl} (h : HoldsP w g m) (vs : List Value) (hi : i ≤ m.length) : HoldsP (w.setCells g (i * 3) vs) g (m.take i) := by
  refine ⟨fun k hk => ?_, fun k hk => ?_⟩
  · have hk' : k < i := by simp at hk; omega
    have := h.1 k (by omega)
    rw [List.getElem_take]
    rw [World.cell?_setCells_out _ _ _ _ _ (by simp; omega), World.cell?_setCells_out _ _ _ _ _ (by simp; omega), World.cell?_setCells_out _ _ _ _ _ (by simp; omega)]
    exact this
  · rw [World.frozen?_setCells]
    exact h.2 k (by simp at hk; omega)

theorem below_setCells {B : Nat} {w : World} (g : Nat) (hg : B ≤ g) : ∀ (vs : List Value) (o : Nat) (W : World), Below B w W → Below B w (W.setCells g o vs)
  | [], _, _, h => h
  | v :: r, o, W, h => below_setCells g hg r (o + 1) _ (h.setCell (by exact hg) v)

set_option maxHeartbeats 2000000 in
theorem delete_any (w : World) (base : Nat) (sv : Value) (l : List Pl) (k : Nat) (v : Value) (f : Pl → Bool) (hl : l.length ≤ 1000) (h : OwnS w base sv l)
    (hbase : base ≤ w.heap.size)
    (eg : ∀ args w, (callFunc k args).run Try.prog w = .ok (.enter k args) w)
    (hg : ∀ W p, Below base w W → Calls Try.prog k #[plV p, v] W fun e w' => e = .returned (.bool (f p)) ∧ Below W.heap.size W w') :
    Calls Try.prog 42 #[sv, .func (.func k) #[] #[v]] w
      fun e w' => ∃ rv, e = .returned rv ∧ OwnS w' base rv (l.filter fun p => !f p) ∧ Below base w w' := by
  obtain ⟨a, c, rfl, hP⟩ := h.slp
  go_enter Try.func42, Try.ntmps42
  go_wp2_with fail
  refine (indexFunc_any w a c l k v f (by unfold maxLen; omega) hP eg (fun W p hb => hg W p (hb.mono hbase))).mono ?_
  rintro e w1 ⟨rfl, hb1⟩
  have hO1 := h.below hb1
  have hB1 : Below base w w1 := hb1.mono hbase
  have hS1 : base ≤ w1.heap.size := Nat.le_trans hbase hb1.size
  clear hP h
  rcases Orangery.idxF_first f l 0 with ⟨h1, h2⟩ | ⟨i, hi, h1, h2⟩
  · rw [h1]
    have HE : Hid (l.filter (fun p => !f p) = l) := h2
    clear h1 h2
    go_wp2
    go_ret
    exact ⟨_, rfl, by rw [HE.out]; exact hO1, hB1⟩
  · rw [h1, Nat.zero_add]
    have hK := Kept.start f l i hi h2
    clear h1 h2
    rcases hO1 with ⟨_, hO1⟩ | ⟨g, cap, hv, hgb, hgl, hcap, hcm, hH, hrow⟩
    · exact absurd hi (by simp [hO1])
    have hv' : a = some ⟨g, 0, none⟩ ∧ c = cap := by simpa using hv
    obtain ⟨rfl, rfl⟩ := hv'
    clear hv
    have HH : Hid (HoldsP w1 g l) := hH
    have HROW : Hid (RowAt w1 g c) := hrow
    clear hrow
    have HK : Hid (Kept f l l i (i + 1)) := hK
    clear hH hK
    have hi' : ((i : Int) == -1) = false := by simp <;> omega
    go_wp2
    go_loopw [5, 6] (fun x y W => ∃ (i j : Nat) (m : List Pl), x = .int .i64 i ∧ y = .int .i64 j ∧ Kept f l m i j ∧ HoldsP W g m ∧ (g < W.heap.size ∧ RowAt W g c) ∧ Below base w W) (fun _ y _ => l.length - (intOf y).toNat)
    case atStart => exact ⟨i, i + 1, l, rfl, by go_num, HK.out, HH.out, ⟨hgl, HROW.out⟩, hB1⟩
    case round =>
      clear hgl HH HK hi' HROW
      obtain ⟨i, j, m, rfl, rfl, hK, hH, ⟨hgl, hrow⟩, hb⟩ := hrel
      have HROW : Hid (RowAt wr g c) := hrow
      clear hrow
      have HH : Hid (HoldsP wr g m) := hH
      have HK : Hid (Kept f l m i j) := hK
      have hml : m.length = l.length := hK.1
      have hij : i < j := hK.2.1
      have hjl : j ≤ l.length := hK.2.2.1
      by_cases hlt : j < l.length
      · obtain ⟨hjm, hmj⟩ := hK.get hlt
        have gg := hH.1 j hjm
        rw [hmj] at gg
        simp only [Nat.zero_add] at gg
        obtain ⟨g0, g1, g2⟩ := gg
        have hx := hH.1 i (by omega)
        simp only [Nat.zero_add] at hx
        obtain ⟨x0, x1, x2⟩ := hx
        have hfr : ∀ t, t < m.length * 3 → wr.frozen? ⟨g, t, none⟩ = false := hH.2
        have K1 := hK.skip hlt
        have K2 := hK.keep hlt
        have HK1 : Hid (f l[j] = true → Kept f l m i (j + 1)) := K1
        have HK2 : Hid (f l[j] = false → Kept f l (m.set i l[j]) (i + 1) (j + 1)) := K2
        have HQ0 : Hid (m[j] = l[j]) := hmj
        clear hH hK K1 K2 hmj
        generalize hq : l[j] = q at *
        obtain ⟨q0, q1, q2⟩ := q
        have HQ : Hid (l[j] = (q0, q1, q2)) := hq
        clear hq
        simp only at g0 g1 g2
        go_wp2_with fail
        refine (hg _ (q0, q1, q2) (hb.alloc (Nat.le_trans hbase hb.size) _)).mono ?_
        rintro e w2 ⟨rfl, hb2⟩
        have hb3 : Below base w w2 := (hb.alloc (Nat.le_trans hbase hb.size) _).trans (hb2.mono (by simp; exact Nat.le_succ_of_le (Nat.le_trans hbase hb.size)))
        have hB2 : Below wr.heap.size wr w2 := (Go.Joins.below_alloc1 wr _).trans (hb2.mono (by simp))
        have z0 : w2.cell? ⟨wr.heap.size, 0, none⟩ = some (.int .i64 q0) := by rw [hb2.cell (by simp)]; simp
        have z1 : w2.cell? ⟨wr.heap.size, 1, none⟩ = some (.int .i64 q1) := by rw [hb2.cell (by simp)]; simp
        have z2 : w2.cell? ⟨wr.heap.size, 2, none⟩ = some (.int .i64 q2) := by rw [hb2.cell (by simp)]; simp
        have H2 : HoldsP w2 g m := HH.out.below hgl hB2
        have hgl2 : g < w2.heap.size := Nat.lt_of_lt_of_le hgl hB2.size
        have HROW2 : Hid (RowAt w2 g c) := HROW.out.below hB2 hgl
        have hne : ¬ wr.heap.size = g := by omega
        clear hb2 hB2 g0 g1 g2 x0 x1 x2 hfr hb HH
        cases hr : f (q0, q1, q2)
        · have HH2 : Hid (HoldsP w2 g m) := H2
          have hx := H2.1 i (by omega)
          simp only [Nat.zero_add] at hx
          obtain ⟨x0, x1, x2⟩ := hx
          have f0 := H2.2 (i * 3) (by omega)
          have f1 := H2.2 (i * 3 + 1) (by omega)
          have f2 := H2.2 (i * 3 + 2) (by omega)
          clear H2
          go_wp2
          go_roundw
          case rel =>
            refine ⟨i + 1, j + 1, m.set i (q0, q1, q2), by go_num, by go_num, HK2.out hr, HH2.out.set i (by omega) (q0, q1, q2), ⟨by simpa using hgl2, ((HROW2.out.set _ _ _).set _ _ _).set _ _ _⟩, ((hb3.setCell hgb _).setCell hgb _).setCell hgb _⟩
          case measure => simp [intOf]; omega
        · go_wp2
          go_roundw
          case rel => exact ⟨i, j + 1, m, rfl, by go_num, HK1.out hr, H2, ⟨hgl2, HROW2.out⟩, hb3⟩
          case measure => simp [intOf]; omega
      · have e := hK.done hlt
        have HE : Hid (m.take i = l.filter fun p => !f p) := e
        obtain ⟨vs, hvs, hrun⟩ := run_clear_places wr 0 g i (l.length - i) (c - i) m hH (by omega) (by omega)
        have HH2 : Hid (HoldsP (wr.setCells g (i * 3) vs) g (m.take i)) := hH.cleared vs (by omega)
        have hb2 := below_setCells g hgb vs (i * 3) wr hb
        have hlen : (m.take i).length = i := by simp; omega
        have hsz : (wr.setCells g (i * 3) vs).heap.size = wr.heap.size := by simp [Go.Sort.size_setCells]
        clear e hH hK
        go_wp2
        go_ret
        refine ⟨_, rfl, ?_, hb2⟩
        rw [← HE.out]
        refine Or.inr ⟨g, c, by rw [hlen]; rfl, hgb, by rw [hsz]; exact hgl, by omega, hcm, HH2.out, RowAt.sets g _ _ _ HROW.out⟩
end Go.Proofs.Ytphameoibnimmaa
