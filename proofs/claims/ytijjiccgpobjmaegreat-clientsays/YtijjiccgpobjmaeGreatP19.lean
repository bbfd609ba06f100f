/- 4 texts of the proof: slices.Clone and slices.Delete at mail. Rows of mail of the call's own: slices.Delete, way.cloneAll. A row of one mail; way.Send. The program's client: Move. -/
import Derived.Lib.AppendZeros
import Derived.Great.BuildSlice
import Derived.Maps.AppendAt
import Derived.Test.YtijjiccgpobjmaeGreatP15
import Derived.Test.YtijjiccgpobjmaeGreatP14
import Derived.Test.YtijjiccgpobjmaeGreatP18
import Derived.Test.YtijjiccgpobjmaeGreatP17
import Derived.Test.YtijjiccgpobjmaeGreatP07
import Derived.Test.YtijjiccgpobjmaeGreatP08
/- slices.Clone and slices.Delete at mail. -/
namespace Go.Proofs.YtijjiccgpobjmaeGreat
open Go.ChangeShapes Go.WideShapes Go.ChangeAt Go.RowKit
open Orangery (Pl Mv Vw Dl Ml noVw noDl noMl)

theorem infoMail : (Tryz.prog.info? 52).map (fun i => (i.zero, i.size, i.bytes)) = some (some (.agg zeroMail.toArray), 21, 280) := by kernel_rfl
/-- a row in place: the block, what it holds -/
structure InRow (w : World) (base g cap : Nat) (cs : List Value) (m : Nat) : Prop where
  low : base ≤ g
  room : m ≤ cap
  few : cap ≤ maxLen
  row : ∃ cur, w.heap[g]? = some (.cells cur 52 (0, 0)) ∧ cur.size = cap * 21 ∧ cur.toList.take (m * 21) = cs
theorem InRow.own {w : World} {base g cap m : Nat} {Y : List Mm} (h : InRow w base g cap (Y.flatMap mlC) m) (hm : Y.length = m) : OwnE mlC 21 52 w base (.slice (some ⟨g, 0, none⟩) m cap) Y := by
  obtain ⟨cur, h1, h2, h3⟩ := h.row
  subst hm
  exact ⟨flatE_len mlC_len Y, Or.inr ⟨g, cap, cur, rfl, h.low, h1, h.room, h.few, h2, h3⟩⟩
theorem OwnE.inRow {w : World} {base g cap m : Nat} {Y : List Mm} (h : OwnE mlC 21 52 w base (.slice (some ⟨g, 0, none⟩) m cap) Y) (hm : Y.length = m) : InRow w base g cap (Y.flatMap mlC) m := by
  subst hm
  rcases h.2 with ⟨h', _⟩ | ⟨g', cap', cur, h', hb, hg, hn, hmx, hs, ht⟩
  · simp at h'
  · obtain ⟨rfl, rfl⟩ : g = g' ∧ cap = cap' := by simpa using h'
    exact ⟨hb, hn, hmx, cur, hg, hs, ht⟩

theorem take_flat (l : List Mm) (k : Nat) : (l.flatMap mlC).take (k * 21) = (l.take k).flatMap mlC := by
  induction l generalizing k with
  | nil => simp
  | cons x l ih =>
    cases k with
    | zero => simp
    | succ k =>
      simp only [List.flatMap_cons, List.take_succ_cons]
      rw [show (k + 1) * 21 = (mlC x).length + k * 21 by rw [mlC_len]; omega, List.take_length_add_append, ih]
theorem drop_flat (l : List Mm) (k : Nat) : (l.flatMap mlC).drop (k * 21) = (l.drop k).flatMap mlC := by
  induction l generalizing k with
  | nil => simp
  | cons x l ih =>
    cases k with
    | zero => simp
    | succ k =>
      simp only [List.flatMap_cons, List.drop_succ_cons]
      rw [show (k + 1) * 21 = (mlC x).length + k * 21 by rw [mlC_len]; omega, List.drop_length_add_append, ih]
/-- the end of a row moved down over one of it -/
theorem app_down (W : World) (base g cap m k ty : Nat) (Y : List Mm) (hY : Y.length = m + 1) (hk : k ≤ m) (h : InRow W base g cap (Y.flatMap mlC) (m + 1)) (ad : Addr) (hA : ad = ⟨g, (k + 1) * 21, none⟩ ∨ k = m) :
    ∃ W1, (∀ c, (Builtin.append_ #[80, 80] ty #[.slice (some ⟨g, 0, none⟩) k cap, .slice (some ad) (m - k) c]).run Tryz.prog W = .ok (.slice (some ⟨g, 0, none⟩) m cap) W1) ∧
      InRow W1 base g cap ((Y.take k ++ Y.drop (k + 1)).flatMap mlC) m ∧ W.grownBy W1 (some g) ∧ Below base W W1 := by
  obtain ⟨i0, hi, hz0, hz1, hz2⟩ := info_parts infoMail
  obtain ⟨cur, hg, hs, ht⟩ := h.row
  have hroom := h.room
  have hflat : ((Y.drop (k + 1)).flatMap mlC).length = (m - k) * 21 := by rw [flatE_len mlC_len]; simp; omega
  have hcl : cur.toList.length = cap * 21 := by simpa using hs
  have hsz : (Y.flatMap mlC).length = (m + 1) * 21 := by rw [flatE_len mlC_len, hY]
  have hnews : ∀ j u, ((Y.drop (k + 1)).flatMap mlC)[j]? = some u → W.cell? (ad.add j) = some u := by
    rcases hA with rfl | rfl
    · intro j u hj
      rw [Addr.add_mid, Go.Joins.cell_of_block hg]
      rw [← drop_flat, List.getElem?_drop, ← ht, List.getElem?_take] at hj
      split at hj
      · simpa using hj
      · simp at hj
    · intro j u hj
      rw [List.drop_of_length_le (by omega)] at hj
      simp at hj
  have hr := fun c => run_append_room (P := Tryz.prog) W 80 ty 52 i0 Tryz.underlying80 hi g k cap cur hg ad (m - k) c ((Y.drop (k + 1)).flatMap mlC) (by rw [hz1]; exact hflat) hnews (flat_oneE mlC_one _) (by omega) (by rw [hz1, hflat, hs]; omega)
  simp only [show k + (m - k) = m by omega] at hr
  refine ⟨_, hr, ⟨h.low, by omega, h.few, _, setRow_heap W g cur _ 52 (0, 0) hg, ?_, ?_⟩, ⟨rfl, rfl, rfl, by simp, fun j _ hj => setRow_other W g j _ (fun e => hj (by rw [e]))⟩, ⟨rfl, rfl, rfl, by simp, fun j hj => setRow_other W g j _ (by have := h.low; omega)⟩⟩
  · simp only [List.size_toArray, List.length_append, List.length_take, List.length_drop, hcl, hflat, hz1]
    omega
  · rw [hz1]
    have e1 : cur.toList.take (k * 21) = (Y.take k).flatMap mlC := by
      rw [← take_flat, ← ht, List.take_take, Nat.min_eq_left (by omega)]
    rw [e1, List.flatMap_append]
    have e2 : ((Y.take k).flatMap mlC ++ (Y.drop (k + 1)).flatMap mlC).length = m * 21 := by
      rw [List.length_append, hflat, flatE_len mlC_len]
      simp
      omega
    rw [← e2]
    exact List.take_left
theorem zeroMails (n : Nat) : ∀ v ∈ (Builtin.zeroCells zeroMail.toArray n).toList, v.oneCell' = true := by
  intro v hv
  rw [Builtin.zeroCells, Array.toList_map, List.mem_map] at hv
  obtain ⟨a, _, rfl⟩ := hv
  have hlt : a % 21 < 21 := Nat.mod_lt _ (by decide)
  have key : ∀ j : Fin 21, (zeroMail[j.val]'(by show j.val < 21; exact j.2)).oneCell' = true := by decide
  have h1 := key ⟨a % 21, hlt⟩
  have h2 : zeroMail.toArray[a % zeroMail.toArray.size]! = zeroMail[a % 21]'(by show a % 21 < 21; exact hlt) := by
    show zeroMail.toArray[a % 21]! = _
    rw [getElem!_pos zeroMail.toArray (a % 21) (by show a % 21 < 21; exact hlt)]
    rfl
  rw [h2]
  exact h1
/-- 'clear' of the cell behind -/
theorem clear_end (W : World) (base g cap m c ty : Nat) (cs : List Value) (h : InRow W base g cap cs m) (hm : m + 1 ≤ cap) :
    ∃ W1, (Builtin.clear_ #[80] ty #[.slice (some ⟨g, m * 21, none⟩) 1 c]).run Tryz.prog W = .ok (.tuple #[]) W1 ∧ InRow W1 base g cap cs m ∧ W.grownBy W1 (some g) ∧ Below base W W1 := by
  obtain ⟨cur, hg, hs, ht⟩ := h.row
  have hcl : cur.toList.length = cap * 21 := by simpa using hs
  have hlen : (Builtin.zeroCells zeroMail.toArray 1).toList.length = 21 := by rw [Array.length_toList, size_zeroCells]; rfl
  have hst := run_storeCells_at Tryz.prog g (m * 21) 52 (Builtin.zeroCells zeroMail.toArray 1).toList 0 cur W hg (by rw [hlen]; omega) (zeroMails 1)
  simp only [Nat.add_zero] at hst
  have hz := Tryz.zeroValue52
  have key : (Builtin.clear_ #[80] ty #[.slice (some ⟨g, m * 21, none⟩) 1 c]).run Tryz.prog W = .ok (.tuple #[]) (W.setRow g (cur.toList.take (m * 21) ++ (Builtin.zeroCells zeroMail.toArray 1).toList ++ cur.toList.drop (m * 21 + (Builtin.zeroCells zeroMail.toArray 1).toList.length)).toArray) := by
    simp only [zeroMail] at hst ⊢
    simp [Builtin.clear_, run_underlying Tryz.underlying80, hz, Value.cells, hst]
  refine ⟨_, key, ⟨h.low, h.room, h.few, _, setRow_heap W g cur _ 52 (0, 0) hg, ?_, ?_⟩, ⟨rfl, rfl, rfl, by simp, fun j _ hj => setRow_other W g j _ (fun e => hj (by rw [e]))⟩, ⟨rfl, rfl, rfl, by simp, fun j hj => setRow_other W g j _ (by have := h.low; omega)⟩⟩
  · simp only [List.size_toArray, List.length_append, List.length_take, List.length_drop, hcl, hlen]
    omega
  · rw [List.append_assoc, List.take_append_of_le_length (by simp [hcl]; omega), List.take_take, Nat.min_self, ht]
end Go.Proofs.YtijjiccgpobjmaeGreat

/- Rows of mail of the call's own: slices.Delete, way.cloneAll. -/
namespace Go.Proofs.YtijjiccgpobjmaeGreat
open Go.ChangeShapes Go.WideShapes Go.ChangeAt Go.RowKit
open Orangery (Pl Mv Vw Dl Ml noVw noDl noMl)

/-- a row of mail of the call's own: its lists lie in blocks of the call's own, none in the row's -/
structure OwnM (w : World) (base : Nat) (v : Value) (Y : List Mm) : Prop where
  row : OwnE mlC 21 52 w base v Y
  each : ∀ y ∈ Y, MlIn w y
  lists : ∀ y ∈ Y, MlD (fun b => base ≤ b ∧ v.ownBlock ≠ some b) y
theorem OwnM.keep {w w' : World} {base : Nat} {v : Value} {Y : List Mm} (h : OwnM w base v Y) (hb : Below w.heap.size w w') : OwnM w' base v Y :=
  ⟨h.row.keep hb, fun y hy => (h.each y hy).keep hb, h.lists⟩
theorem OwnM.val {w : World} {base : Nat} {v : Value} {Y : List Mm} (h : OwnM w base v Y) : ∃ a cap, v = .slice a Y.length cap ∧ SlM w a Y := by
  obtain ⟨a, cap, e, h1, _⟩ := h.row.val
  exact ⟨a, cap, e, h1, h.each⟩
theorem OwnM.mono {w : World} {base base' : Nat} {v : Value} {Y : List Mm} (h : OwnM w base v Y) (hb : base' ≤ base) : OwnM w base' v Y :=
  ⟨h.row.mono hb, h.each, fun y hy => (h.lists y hy).imp (fun b hb' => ⟨by omega, hb'.2⟩)⟩
theorem OwnM.nil (w : World) (base : Nat) : OwnM w base (.slice none 0 0) [] := ⟨OwnE.nil _ _, fun y hy => by simp at hy, fun y hy => by simp at hy⟩
theorem OwnM.some {w : World} {base : Nat} {v : Value} {Y : List Mm} (h : OwnM w base v Y) (hY : 0 < Y.length) : ∃ g cap, v = .slice (some ⟨g, 0, none⟩) Y.length cap ∧ InRow w base g cap (Y.flatMap mlC) Y.length := by
  have h0 := h.row
  obtain ⟨h1, h2⟩ := h.row
  rcases h2 with ⟨_, h2⟩ | ⟨g, cap, cur, rfl, hb, hg, hn, hm, hs, ht⟩
  · omega
  · exact ⟨g, cap, rfl, hb, hn, hm, cur, hg, hs, ht⟩
theorem mem_del {Y : List Mm} {k : Nat} {y : Mm} (h : y ∈ Y.take k ++ Y.drop (k + 1)) : y ∈ Y := by
  rcases List.mem_append.1 h with h | h
  · exact List.mem_of_mem_take h
  · exact List.mem_of_mem_drop h

/-- what way.cloneAll leaves -/
def ClonedM (w : World) (X : List Mm) (e : Ending) (w' : World) : Prop := ∃ v Y, e = .returned v ∧ OwnM w' w.heap.size v Y ∧ Y.map (·.1) = X.map (·.1) ∧ Below w.heap.size w w'
end Go.Proofs.YtijjiccgpobjmaeGreat

/- A row of one mail; way.Send. -/
namespace Go.Proofs.YtijjiccgpobjmaeGreat
open Go.ChangeShapes Go.WideShapes Go.ChangeAt Go.RowKit
open Orangery (Pl Mv Vw Dl Ml noVw noDl noMl noOp checkOp viewME deltaME viewE deltaE orI seeRange seeUse opUse noV noD ml1E mlsE mlE sendE sendL takeE takeL takeM)

theorem fill_one (cs : List Value) (h : cs.length = 21) (z : Array Value) (hz : z.size = 21) : Instr.fill (fun i => some (i * 21, 21)) z [(0, Value.agg cs.toArray)] = some cs.toArray := by
  obtain ⟨r, hr, hs, hk⟩ := Great.fill_dense (s := 21) (by decide) [Value.agg cs.toArray] 0 z (by intro v hv; simp at hv; subst hv; simpa [Value.cells] using h) (by simp; omega)
  have e : r = cs.toArray := by
    apply Array.ext_getElem?
    intro k
    rw [hk k]
    by_cases hk2 : k < 21
    · rw [if_pos (by simp; omega)]
      have e1 : k / 21 = 0 := by omega
      have e2 : k % 21 = k := by omega
      simp [e1, e2, Value.cells]
    · rw [if_neg (by simp; omega)]
      rw [Array.getElem?_eq_none (by omega), Array.getElem?_eq_none (by simp; omega)]
  rw [e] at hr
  exact hr
/-- the next operation builds a slice -/
theorem at_slice {ops : Array Oper} {Q : Exit → Act → World → Prop} {rest : List Oper} {ps : Array (Nat × Operand)} {t u : TypeId} {d : Option Tmp} {n : Nat} {pos : String} {after : Array Edge} {a : Act} {w : World}
    (h : wpList Tryz.prog ops Q (⟨d, .buildSlice u n ps, t, pos, after, none⟩ :: rest) a w) : wpList Tryz.prog ops Q (⟨d, .buildSlice u n ps, t, pos, after, none⟩ :: rest) a w := h
theorem build_cells (cs : List Value) (hc : cs.length = 21) {i0 : TypeInfo} (hz1 : i0.size = 21) : Instr.fill (fun i => some (i * i0.size, i0.size)) ((Array.range (1 * i0.size)).map ((Value.agg zeroMail.toArray).cells[· % (Value.agg zeroMail.toArray).cells.size]!)) [(0, Value.agg cs.toArray)] = some cs.toArray := by
  rw [hz1]
  exact fill_one cs hc _ (by simp)
/-- a row of one mail -/
theorem build_one {ops : Array Oper} {Q : Exit → Act → World → Prop} {rest : List Oper} {o : Oper} {x : Operand} {a : Act} {w : World} (hg : o.guard = none) (ho : o.op = .buildSlice 80 1 #[(0, x)]) (cs : List Value) (hc : cs.length = 21) (hx : a.eval x = .agg cs.toArray)
    (h : wpList Tryz.prog ops Q rest (a.put o.dst (.slice (some ⟨w.heap.size, 0, none⟩) 1 1)) (w.alloc (.cells cs.toArray 52))) : wpList Tryz.prog ops Q (o :: rest) a w := by
  obtain ⟨i0, hi, hz0, hz1, hz2⟩ := info_parts infoMail
  refine wpList_buildSlice hg 80 52 1 _ ho cs.toArray i0 _ Tryz.underlying80 hi hz0 (by rw [hz1]; decide) (by rw [hz1]; decide) ?_ h
  have e : (#[(0, x)].map fun (p : Nat × Operand) => (p.1, a.eval p.2)).toList = [(0, Value.agg cs.toArray)] := by simp [hx]
  show Instr.fill _ _ (#[(0, x)].map fun (p : Nat × Operand) => (p.1, a.eval p.2)).toList = _
  rw [e]
  exact build_cells cs hc hz1
theorem one_row {w : World} {N : Nat} {x : Mm} (h : Blk w N (mlC x)) (hx : MlIn w x) : SlM w (some ⟨N, 0, none⟩) [x] :=
  ⟨Or.inr ⟨N, 0, rfl, h.lt, by simpa using h.range⟩, fun y hy => by simp at hy; subst hy; exact hx⟩
theorem ml1_few {m : Ml} (h : ml1E m = 0) : MlFew m := by
  obtain ⟨⟨k, u, f, s, t, n, p⟩, o, ⟨R, K, V⟩, G, H, X, Y⟩ := m
  have hv : ∀ {R : List Int} {K V : List Pl}, viewE R K V = 0 → R.length ≤ 1000 ∧ K.length ≤ 1000 ∧ V.length ≤ 1000 := by
    intro R K V h
    have h1 := Orangery.rootsOk_len (Orangery.view_parts h).1
    have h2 := Orangery.scan_small (Orangery.view_scan h).1
    have h3 := Orangery.scan_small (Orangery.view_scan h).2
    omega
  have hd : ∀ {G : List Int} {H : List Pl} {X : List Int} {Y : List Pl}, deltaE G H X Y = 0 → G.length ≤ 1000 ∧ H.length ≤ 1000 ∧ X.length ≤ 1000 ∧ Y.length ≤ 1000 := by
    intro G H X Y h
    rw [Orangery.delta_or] at h
    obtain ⟨h1, h2⟩ := Orangery.orI_zero h
    have h3 := Orangery.half_zero h1
    have h4 := Orangery.half_zero h2
    omega
  have hk : 1 ≤ k ∧ k ≤ 3 := by
    unfold ml1E at h
    split at h
    · omega
    · rename_i hh; simpa using hh
  have hu : 0 ≤ u ∧ u ≤ 2 := by
    unfold ml1E at h
    rw [if_neg (by simpa using hk)] at h
    split at h
    · omega
    · rename_i hh; simpa using hh
  rw [ml1_used (x := (((k, u, f, s, t, n, p), o, (R, K, V), (G, H, X, Y)), nilV, nilD)) hk hu] at h
  split at h
  · omega
  rename_i hs
  have hs2 := (sameMl_iff _ _).1 (by simpa using hs)
  have hkk : k = 1 ∨ k = 2 ∨ k = 3 := by omega
  rcases hkk with rfl | rfl | rfl
  · have e : (usedM (((1, u, f, s, t, n, p), o, (R, K, V), (G, H, X, Y)), nilV, nilD)).1 = ((1, u, 0, 0, 0, 0, 0), o, noVw, noDl) := rfl
    rw [e] at hs2
    simp only [Prod.mk.injEq, noVw, noDl] at hs2
    obtain ⟨-, -, ⟨rfl, rfl, rfl⟩, rfl, rfl, rfl, rfl⟩ := hs2
    simp [MlFew]
  · have e : (usedM (((2, u, f, s, t, n, p), o, (R, K, V), (G, H, X, Y)), nilV, nilD)).1 = ((2, u, f, s, t, n, 0), noOp, (R, K, V), noDl) := rfl
    rw [e] at hs2
    simp only [Prod.mk.injEq, noDl] at hs2
    obtain ⟨-, -, -, rfl, rfl, rfl, rfl⟩ := hs2
    rw [if_neg (show ¬ (2 : Int) = 1 by omega)] at h
    split at h
    · have h2 := Orangery.orI_zero h
      have h3 := hv (R := R) (K := K) (V := V) h2.1
      exact ⟨h3.1, h3.2.1, h3.2.2, by simp, by simp, by simp, by simp⟩
    · omega
  · have e : (usedM (((3, u, f, s, t, n, p), o, (R, K, V), (G, H, X, Y)), nilV, nilD)).1 = ((3, u, f, s, t, n, p), noOp, noVw, (G, H, X, Y)) := rfl
    rw [e] at hs2
    simp only [Prod.mk.injEq, noVw] at hs2
    obtain ⟨-, -, ⟨rfl, rfl, rfl⟩, -⟩ := hs2
    rw [if_neg (show ¬ (3 : Int) = 1 by omega)] at h
    split at h
    · have h2 := Orangery.orI_zero h
      have h3 := hd (G := G) (H := H) (X := X) (Y := Y) h2.2
      exact ⟨by simp, by simp, by simp, h3.1, h3.2.1, h3.2.2.1, h3.2.2.2⟩
    · omega
theorem mls_few {X : List Mm} {l : List Ml} (hl : X.map (·.1) = l) (h : mlsE l = 0) : ∀ x ∈ X, MlFew x.1 := by
  intro x hx
  refine ml1_few ?_
  have hm : x.1 ∈ l := by rw [← hl]; exact List.mem_map_of_mem hx
  clear hl hx
  induction l with
  | nil => simp at hm
  | cons y l ih =>
    have h0 : ml1E y = 0 := by
      unfold mlsE at h
      split at h
      · rename_i h1; exact absurd h h1
      · rename_i h1; simpa using h1
    have h1 : mlsE l = 0 := by
      unfold mlsE at h
      rwa [if_neg (by simp [h0])] at h
    rcases List.mem_cons.1 hm with e | hm
    · rw [e]; exact h0
    · exact ih h1 hm
/-- what way.Send leaves -/
def SentM (w : World) (L : List Ml) (E : Int) (e : Ending) (w' : World) : Prop :=
  ∃ v Y, e = .returned (.tuple #[v, .int .i64 E]) ∧ OwnM w' w.heap.size v Y ∧ Y.map (·.1) = L ∧ Below w.heap.size w w'
theorem SentM.none {w w' : World} {E : Int} {L : List Ml} (hL : L = []) (hb : Below w.heap.size w w') : SentM w L E (.returned (.tuple #[.slice none 0 0, .int .i64 E])) w' :=
  ⟨_, [], rfl, OwnM.nil _ _, hL.symm, hb⟩

end Go.Proofs.YtijjiccgpobjmaeGreat

/- The program's client: Move. -/
namespace Go.Proofs.YtijjiccgpobjmaeGreat
open Go.ChangeShapes Go.WideShapes Go.ChangeAt Go.RowKit
open Orangery (Pl Mv Vw Cl noCl noOp clE movE movC movP movO checkOp orI viewE)

/-- what keeps a client from one operation more -/
def roomE (c : Cl) : Int := if c.1.1 = 0 then 7 else if c.2.1.length = 8 ∨ c.1.2.1 = 10000 ∨ c.1.2.2.1 = 30 then 2 else 0
theorem movE_or (c : Cl) (me n p nm : Int) : movE c me n p nm = if orI (clE c me) (roomE c) ≠ 0 then orI (clE c me) (roomE c) else checkOp (movO c me n p nm) := by
  unfold movE roomE orI
  by_cases h1 : clE c me ≠ 0
  · rw [if_pos h1, if_pos h1, if_pos h1]
  · rw [if_neg h1, if_neg h1]
    by_cases h2 : c.1.1 = 0
    · rw [if_pos h2, if_pos h2, if_pos (by decide)]
    · rw [if_neg h2, if_neg h2]
      by_cases h3 : c.2.1.length = 8 ∨ c.1.2.1 = 10000 ∨ c.1.2.2.1 = 30
      · rw [if_pos h3, if_pos h3, if_pos (by decide)]
      · rw [if_neg h3, if_neg h3, if_neg (by decide)]
theorem mov_zero {c : Cl} {me n p nm : Int} (h : movE c me n p nm ≠ 0) : movC c me n p nm = noCl ∧ movP c me n p nm = noOp := ⟨if_pos h, if_pos h⟩
theorem cl_few {c : Cl} {me : Int} (h : clE c me = 0) : ClFew c := by
  obtain ⟨_, _, h3, h4, _⟩ := Orangery.clE_zero h
  have e : viewE c.2.2.1 c.2.2.2.1 c.2.2.2.2 = 0 := h4
  have h5 := Orangery.rootsOk_len (Orangery.view_parts e).1
  have h6 := Orangery.scan_small (Orangery.view_scan e).1
  have h7 := Orangery.scan_small (Orangery.view_scan e).2
  exact ⟨by omega, by omega, by omega, by omega⟩
theorem cl_nums {c : Cl} {me : Int} (h : clE c me = 0) : (0 ≤ c.1.2.1 ∧ c.1.2.1 ≤ 10000) ∧ (0 ≤ c.1.2.2.1 ∧ c.1.2.2.1 ≤ 30) ∧ c.2.1.length ≤ 8 := by
  obtain ⟨_, h2, h3, _⟩ := Orangery.clE_zero h
  unfold Orangery.clRange at h2
  simp only [Bool.and_eq_true, decide_eq_true_eq] at h2
  omega
/-- what Move leaves -/
def Moves (w : World) (c : Cl) (me n p nm : Int) (e : Ending) (w' : World) : Prop :=
  ∃ y : Cm, e = .returned (.tuple #[y.val, opV (movP c me n p nm), .int .i64 (movE c me n p nm)]) ∧ y.1 = movC c me n p nm ∧ ClIn w' y ∧ InL (w.heap.size ≤ ·) y.2.1.1 y.1.2.1 ∧ Below w.heap.size w w'
theorem Moves.bad {w w' : World} {c : Cl} {me n p nm E : Int} (h : movE c me n p nm = E) (h0 : E ≠ 0) (hb : Below w.heap.size w w') : Moves w c me n p nm (.returned (.tuple #[.agg (bareC 0 0).toArray, .agg (opC noOp).toArray, .int .i64 E])) w' := by
  rw [← h] at h0
  obtain ⟨h1, h2⟩ := mov_zero h0
  exact ⟨bareM 0 0, by rw [h2, h]; rfl, by rw [h1]; rfl, bareM_in _ _ _, Or.inl rfl, hb⟩

set_option maxHeartbeats 16000000 in
set_option maxRecDepth 100000 in
theorem cmove_any (w : World) (x : Cm) (me n p nm : Int) (hx : ClIn w x) :
    Calls Tryz.prog 7 #[x.val, .int .i64 me, .int .i64 n, .int .i64 p, .int .i64 nm] w (Moves w x.1 me n p nm) := by
  have CC := Lib.hid (fun W h => ccheck_any W x me h)
  have CR := Lib.hid (fun W => ccheckRoom_any W x)
  have CN := Lib.hid (fun W h1 h2 => cclone_any W x h1 h2)
  have HOR := Lib.hid (movE_or x.1 me n p nm)
  obtain ⟨⟨⟨f, t, s, v⟩, P, R, K, V⟩, ⟨aP, cP⟩, ⟨aR, cR⟩, ⟨aK, cK⟩, ⟨aV, cV⟩⟩ := x
  show Calls Tryz.prog _ #[.agg #[Value.int .i64 f, .int .i64 t, .int .i64 s, .slice aP P.length cP, .int .i64 v, .slice aR R.length cR, .slice aK K.length cK, .slice aV V.length cV], .int .i64 me, .int .i64 n, .int .i64 p, .int .i64 nm] w (Moves w ((f, t, s, v), P, R, K, V) me n p nm)
  obtain ⟨W0, hW, hN, hRC, hRO, hB, hS⟩ := laid3 w [Value.int .i64 f, .int .i64 t, .int .i64 s, .slice aP P.length cP, .int .i64 v, .slice aR R.length cR, .slice aK K.length cK, .slice aV V.length cV] 28 [Value.int .i64 0, .int .i64 0, .int .i64 0, .slice none 0 0, .int .i64 0, .slice none 0 0, .slice none 0 0, .slice none 0 0] 28 [Value.int IntKind.i64 0, Value.int IntKind.i64 0, Value.int IntKind.i64 0, Value.int IntKind.i64 0, Value.int IntKind.i64 0, Value.int IntKind.i64 0, Value.int IntKind.i64 0] 32
  have HB := Lib.hid hB
  have HX := Lib.hid (hx.keep hB)
  have HN := Lib.hid hN
  have HRC := Lib.hid hRC
  have HRO := Lib.hid hRO
  have HS0 : Hid (w.heap.size + 3 ≤ W0.heap.size) := by show _ ≤ _; omega
  have HMB : Hid (∀ E w', movE ((f, t, s, v), P, R, K, V) me n p nm = E → E ≠ 0 → Below w.heap.size w w' → Moves w ((f, t, s, v), P, R, K, V) me n p nm (.returned (.tuple #[.agg (bareC 0 0).toArray, .agg (opC noOp).toArray, .int .i64 E])) w') := fun E w' h1 h2 h3 => Moves.bad h1 h2 h3
  have ERR : Hid (∀ (W : World), Blk W (w.heap.size + 1) [Value.int .i64 0, .int .i64 0, .int .i64 0, .slice none 0 0, .int .i64 0, .slice none 0 0, .slice none 0 0, .slice none 0 0] → Blk W (w.heap.size + 1 + 1) [Value.int IntKind.i64 0, Value.int IntKind.i64 0, Value.int IntKind.i64 0, Value.int IntKind.i64 0, Value.int IntKind.i64 0, Value.int IntKind.i64 0, Value.int IntKind.i64 0] → Below w.heap.size w W →
      (Blk ((W.setCells (w.heap.size + 1) 0 (bareC 0 0)).setCells (w.heap.size + 1 + 1) 0 (opC noOp)) (w.heap.size + 1) (bareC 0 0) ∧ Blk ((W.setCells (w.heap.size + 1) 0 (bareC 0 0)).setCells (w.heap.size + 1 + 1) 0 (opC noOp)) (w.heap.size + 1 + 1) (opC noOp) ∧ Below w.heap.size w ((W.setCells (w.heap.size + 1) 0 (bareC 0 0)).setCells (w.heap.size + 1 + 1) 0 (opC noOp)))) := by
    intro W h1 h2 h3
    exact ⟨(h1.sets (bareC 0 0) rfl).others (by omega) _ _, (h2.others (by omega) (bareC 0 0) 0).sets (opC noOp) rfl, below_sets (below_sets h3 (w.heap.size + 1) (by omega) _ 0) (w.heap.size + 1 + 1) (by omega) _ 0⟩
  obtain ⟨E1, hE1⟩ : ∃ E, E = clE ((f, t, s, v), P, R, K, V) me := ⟨_, rfl⟩
  obtain ⟨E2, hE2⟩ : ∃ E, E = roomE ((f, t, s, v), P, R, K, V) := ⟨_, rfl⟩
  have HE1 := Lib.hid hE1
  have HE2 := Lib.hid hE2
  clear hB hx hN hRC hRO hS hE1 hE2
  go_enter Tryz.func7, Tryz.ntmps7
  go_upto_region 1 with fail
  clear hW
  refine wp_region_held_drew (S := fun w' => Below W0.heap.size W0 w') (by kernel_rfl) ((Below.refl _ W0).drew) (fun hHeld => ?_)
  refine take_load 0 18 28 w.heap.size [Value.int .i64 f, .int .i64 t, .int .i64 s, .slice aP P.length cP, .int .i64 v, .slice aR R.length cR, .slice aK K.length cK, .slice aV V.length cV] rfl rfl (by kernel_rfl) (by kernel_rfl) (by kernel_rfl) (fun _ _ _ h => h) (by rfl) (by rfl) (by rfl) (fun w hw => (HN.out.keep hw).range) Tryz.underlying28 rfl sizeClient hHeld ?_
  simp only [Act.put, List.setIfInBounds_toArray, List.set_cons_succ, List.set_cons_zero]
  refine take_yes 1 19 (v := ?_) rfl rfl (by kernel_rfl) (by kernel_rfl) (by kernel_rfl) (fun _ _ _ h => h) (by rfl) ?_ hHeld ?_
  rotate_left 1
  · (intro w hSw; go_simp; try with_reducible rfl)
  simp only [Act.put, List.setIfInBounds_toArray, List.set_cons_succ, List.set_cons_zero]
  refine take_load 3 21 28 w.heap.size [Value.int .i64 f, .int .i64 t, .int .i64 s, .slice aP P.length cP, .int .i64 v, .slice aR R.length cR, .slice aK K.length cK, .slice aV V.length cV] rfl rfl (by kernel_rfl) (by kernel_rfl) (by kernel_rfl) (fun _ _ _ h => h) (by rfl) (by rfl) (by rfl) (fun w hw => (HN.out.keep hw).range) Tryz.underlying28 rfl sizeClient hHeld ?_
  simp only [Act.put, List.setIfInBounds_toArray, List.set_cons_succ, List.set_cons_zero]
  refine wpAnyH_ready (rs := [2]) (by kernel_rfl) (by simp) ?_
  refine AllReadyH.cons rfl (fun KK hKK => ?_) AllReadyH.nil
  go_simp
  refine (CC.out _ (HX.out.keep hHeld)).mono ?_
  rintro e w1 ⟨rfl, hb1⟩
  simp only
  rw [← HE1.out]
  have hS1 : Below W0.heap.size W0 w1 := hHeld.trans (hb1.mono hHeld.size)
  go_wp2_with fail
  refine hKK.out _ _ (hS1) (fun hHeld => ?_)
  clear hKK KK
  refine wpAnyH_ready (rs := [4]) (by kernel_rfl) (by simp) ?_
  refine AllReadyH.cons rfl (fun KK hKK => ?_) AllReadyH.nil
  go_simp
  refine (CR.out _).mono ?_
  rintro e w2 ⟨rfl, hb2⟩
  have hr2 : (if f = 0 then (7 : Int) else if P.length = 8 ∨ t = 10000 ∨ s = 30 then 2 else 0) = E2 := HE2.out.symm
  simp only
  rw [hr2]
  clear hr2
  have hS2 : Below W0.heap.size W0 w2 := hHeld.trans (hb2.mono hHeld.size)
  go_wp2_with fail
  refine hKK.out _ _ (hS2) (fun hHeld => ?_)
  clear hKK KK
  refine wpAnyH_ready (rs := [5]) (by kernel_rfl) (by simp) ?_
  refine AllReadyH.cons rfl (fun KK hKK => ?_) AllReadyH.nil
  go_simp
  have hN2 := Blk.new w2 [Value.int IntKind.i64 E1, Value.int IntKind.i64 E2] 33
  refine hKK.out _ _ (hHeld.alloc hHeld.size _) (fun hHeld => ?_)
  clear hKK KK
  refine wpAnyH_ready (rs := [6]) (by kernel_rfl) (by simp) ?_
  refine AllReadyH.cons rfl (fun KK hKK => ?_) AllReadyH.nil
  go_simp
  refine (orE_any _ w2.heap.size 2 E1 E2 (hN2.at 0 rfl) (hN2.at 1 rfl)).mono ?_
  rintro e _ ⟨rfl, rfl⟩
  go_wp2_with fail
  refine hKK.out _ _ (hHeld) (fun hHeld => ?_)
  clear hKK KK
  refine take_yes 7 13 (v := ?_) rfl rfl (by kernel_rfl) (by kernel_rfl) (by kernel_rfl) (fun _ _ _ h => h) (by rfl) ?_ hHeld ?_
  rotate_left 1
  · (intro w hSw; go_simp; try with_reducible rfl)
  simp only [Act.put, List.setIfInBounds_toArray, List.set_cons_succ, List.set_cons_zero]
  refine wpAnyH_done (by kernel_rfl) ?_ _
  have hb3 : Below W0.heap.size W0 (w2.alloc (Obj.cells #[Value.int IntKind.i64 E1, Value.int IntKind.i64 E2] 33)) := hHeld
  clear hS1 hS2 hb1 hb2 hN2 hHeld
  generalize w2.alloc (Obj.cells #[Value.int IntKind.i64 E1, Value.int IntKind.i64 E2] 33) = w3 at *
  have HN3 := Lib.hid (HN.out.keep hb3)
  have HRC3 := Lib.hid (HRC.out.keep hb3)
  have HRO3 := Lib.hid (HRO.out.keep hb3)
  have HX3 := Lib.hid (HX.out.keep hb3)
  have HB3 := Lib.hid (HB.out.trans (hb3.mono HB.out.size))
  have HS3 : Hid (w.heap.size + 3 ≤ w3.heap.size) := by show _ ≤ _; have := hb3.size; have := HS0.out; omega
  clear hb3 HN HRC HRO HX HB HS0 CC CR
  by_cases hz : orI E1 E2 = 0
  case neg =>
    have HE : Hid (movE ((f, t, s, v), P, R, K, V) me n p nm = orI E1 E2) := by
      show _ = _
      rw [HOR.out, ← HE1.out, ← HE2.out, if_pos hz]
    have hz' : (orI E1 E2 != 0) = true := by simpa using hz
    have HZ := Lib.hid hz
    clear hz HOR HE1 HE2 CN HX3 HN3
    generalize orI E1 E2 = E at *
    have h3 := Lib.hid (ERR.out w3 HRC3.out HRO3.out HB3.out)
    have c0 := HRC3.out.at 0 rfl
    have c1 := HRC3.out.at 1 rfl
    have c2 := HRC3.out.at 2 rfl
    have c3 := HRC3.out.at 3 rfl
    have c4 := HRC3.out.at 4 rfl
    have c5 := HRC3.out.at 5 rfl
    have c6 := HRC3.out.at 6 rfl
    have c7 := HRC3.out.at 7 rfl
    have cf := HRC3.out.frz
    have o0 := HRO3.out.at 0 rfl
    have o1 := HRO3.out.at 1 rfl
    have o2 := HRO3.out.at 2 rfl
    have o3 := HRO3.out.at 3 rfl
    have o4 := HRO3.out.at 4 rfl
    have o5 := HRO3.out.at 5 rfl
    have o6 := HRO3.out.at 6 rfl
    have of := HRO3.out.frz
    go_wp2
    refine ret_cell_cell_tmp Tryz.results7 rfl rfl rfl (h3.out.1.load Tryz.underlying28 rfl sizeClient) (h3.out.2.1.load Tryz.underlying32 rfl sizeOp) ?_
    exact HMB.out E _ HE.out HZ.out h3.out.2.2
  have hz1 : E1 = 0 := (Orangery.orI_zero hz).1
  have hz2 : E2 = 0 := (Orangery.orI_zero hz).2
  have hcl : clE ((f, t, s, v), P, R, K, V) me = 0 := by rw [← HE1.out]; exact hz1
  have HFEW := Lib.hid (cl_few hcl)
  obtain ⟨⟨ht0, ht1⟩, ⟨hs0, hs1⟩, hp8⟩ := cl_nums hcl
  simp only at ht0 ht1 hs0 hs1 hp8
  obtain ⟨t1, hT1⟩ : ∃ z : Int, z = t + 1 := ⟨_, rfl⟩
  obtain ⟨s1, hS1⟩ : ∃ z : Int, z = s + 1 := ⟨_, rfl⟩
  have pt : wrap64 (t + 1) = t1 := by rw [hT1]; unfold wrap64; omega
  have ps : wrap64 (s + 1) = s1 := by rw [hS1]; unfold wrap64; omega
  have HE : Hid (movE ((f, t, s, v), P, R, K, V) me n p nm = checkOp (t1, me, (n, p, nm), f, s1)) := by
    show _ = _
    rw [HOR.out, ← HE1.out, ← HE2.out, if_neg (by simp [hz]), hT1, hS1]
    rfl
  have HMV : Hid (movO ((f, t, s, v), P, R, K, V) me n p nm = (t1, me, (n, p, nm), f, s1)) := by
    show _ = _
    rw [hT1, hS1]
    rfl
  have HP8 := Lib.hid hp8
  have HT1 := Lib.hid hT1
  have HS1 := Lib.hid hS1
  rw [hz]
  clear hz hz1 hz2 hcl ht0 ht1 hs0 hs1 hp8 hT1 hS1 HE1 HE2 HOR
  obtain ⟨W4, hW4, hSt, hb4, hsz4⟩ := laid1 w3 [Value.int IntKind.i64 t1, Value.int IntKind.i64 me] 30
  obtain ⟨W5, hW5, hOp, hb5, hsz5⟩ := laid1 W4 [Value.int IntKind.i64 t1, Value.int IntKind.i64 me, Value.int IntKind.i64 n, Value.int IntKind.i64 p, Value.int IntKind.i64 nm, Value.int IntKind.i64 f, Value.int IntKind.i64 s1] 32
  have x0 := HN3.out.at 0 rfl
  have x1 := HN3.out.at 1 rfl
  have x2 := HN3.out.at 2 rfl
  have hN4 := HN3.out.keep hb4
  have y0 := hN4.at 0 rfl
  have y2 := hN4.at 2 rfl
  have st0 := hSt.at 0 rfl
  have st1 := hSt.at 1 rfl
  have hb35 : Below w3.heap.size w3 W5 := hb4.trans (hb5.mono hb4.size)
  have q0 := hOp.at 0 rfl
  have q1 := hOp.at 1 rfl
  have q2 := hOp.at 2 rfl
  have q3 := hOp.at 3 rfl
  have q4 := hOp.at 4 rfl
  have q5 := hOp.at 5 rfl
  have q6 := hOp.at 6 rfl
  have HOP5 := Lib.hid hOp
  have HN5 := Lib.hid (HN3.out.keep hb35)
  have HRC5 := Lib.hid (HRC3.out.keep hb35)
  have HRO5 := Lib.hid (HRO3.out.keep hb35)
  have HX5 := Lib.hid (HX3.out.keep hb35)
  have HB5 := Lib.hid (HB3.out.trans (hb35.mono HB3.out.size))
  have HW4 : Hid (w.heap.size + 3 ≤ W4.heap.size ∧ W4.heap.size < W5.heap.size) := by show _ ∧ _; have := HS3.out; omega
  clear hSt hb4 hsz4 hOp hb5 hsz5 hN4 hb35 HN3 HRC3 HRO3 HX3 HB3 HS3
  go_wp2_with fail
  refine (moveCheck_any W5 (t1, me, (n, p, nm), f, s1)).mono ?_
  rintro e w6 ⟨rfl, hb6⟩
  have HOP6 := Lib.hid (HOP5.out.keep hb6)
  have HN6 := Lib.hid (HN5.out.keep hb6)
  have HRC6 := Lib.hid (HRC5.out.keep hb6)
  have HRO6 := Lib.hid (HRO5.out.keep hb6)
  have HX6 := Lib.hid (HX5.out.keep hb6)
  have HB6 := Lib.hid (HB5.out.trans (hb6.mono HB5.out.size))
  have HS6 : Hid (W5.heap.size ≤ w6.heap.size) := hb6.size
  clear hb6 HOP5 HN5 HRC5 HRO5 HX5 HB5 x0 x1 x2 y0 y2 st0 st1 q0 q1 q2 q3 q4 q5 q6 hW4 hW5
  by_cases hc : checkOp (t1, me, (n, p, nm), f, s1) = 0
  case neg =>
    have hc' : (checkOp (t1, me, (n, p, nm), f, s1) != 0) = true := by simpa using hc
    have HZ := Lib.hid hc
    clear hc CN HX6 HN6 HOP6
    generalize checkOp (t1, me, (n, p, nm), f, s1) = E at *
    have h3 := Lib.hid (ERR.out w6 HRC6.out HRO6.out HB6.out)
    have c0 := HRC6.out.at 0 rfl
    have c1 := HRC6.out.at 1 rfl
    have c2 := HRC6.out.at 2 rfl
    have c3 := HRC6.out.at 3 rfl
    have c4 := HRC6.out.at 4 rfl
    have c5 := HRC6.out.at 5 rfl
    have c6 := HRC6.out.at 6 rfl
    have c7 := HRC6.out.at 7 rfl
    have cf := HRC6.out.frz
    have o0 := HRO6.out.at 0 rfl
    have o1 := HRO6.out.at 1 rfl
    have o2 := HRO6.out.at 2 rfl
    have o3 := HRO6.out.at 3 rfl
    have o4 := HRO6.out.at 4 rfl
    have o5 := HRO6.out.at 5 rfl
    have o6 := HRO6.out.at 6 rfl
    have of := HRO6.out.frz
    go_wp2
    refine ret_cell_cell_tmp Tryz.results7 rfl rfl rfl (h3.out.1.load Tryz.underlying28 rfl sizeClient) (h3.out.2.1.load Tryz.underlying32 rfl sizeOp) ?_
    exact HMB.out E _ HE.out HZ.out h3.out.2.2
  rw [hc]
  have HE0 : Hid (movE ((f, t, s, v), P, R, K, V) me n p nm = 0) := by show _ = _; rw [HE.out]; exact hc
  clear hc HE ERR HMB
  have HRG := Lib.hid HN6.out.range
  go_wp2_with (first | (refine wpList_load_mid rfl 28 _ rfl w.heap.size 0 rfl [Value.int .i64 f, .int .i64 t, .int .i64 s, .slice aP P.length cP, .int .i64 v, .slice aR R.length cR, .slice aK K.length cK, .slice aV V.length cV] _ HRG.out Tryz.underlying28 rfl sizeClient ?_) | fail)
  refine (CN.out w6 HX6.out HFEW.out).mono ?_
  rintro e w7 ⟨⟨y1, ⟨a0, c0⟩, ⟨b0, d0⟩, ⟨b1, d1⟩, ⟨b2, d2⟩⟩, rfl, hy1, hcn, hb7⟩
  obtain rfl : y1 = ((f, t, s, v), P, R, K, V) := hy1
  obtain ⟨W8, hW8, hN8, hb8, hsz8⟩ := laid1 w7 [Value.int .i64 f, .int .i64 t, .int .i64 s, .slice a0 P.length c0, .int .i64 v, .slice b0 R.length d0, .slice b1 K.length d1, .slice b2 V.length d2] 28
  obtain ⟨W9, hW9, hA9, hb9, hsz9⟩ := laid1 W8 [Value.int IntKind.i64 t1, Value.int IntKind.i64 me, Value.int IntKind.i64 n, Value.int IntKind.i64 p, Value.int IntKind.i64 nm, Value.int IntKind.i64 f, Value.int IntKind.i64 s1] 32
  have hb89 : Below w7.heap.size w7 W9 := hb8.trans (hb9.mono hb8.size)
  have hb69 : Below w6.heap.size w6 W9 := hb7.trans (hb89.mono hb7.size)
  have hOP8 := (HOP6.out.keep hb7).keep hb8
  have q0 := hOP8.at 0 rfl
  have q1 := hOP8.at 1 rfl
  have q2 := hOP8.at 2 rfl
  have q3 := hOP8.at 3 rfl
  have q4 := hOP8.at 4 rfl
  have q5 := hOP8.at 5 rfl
  have q6 := hOP8.at 6 rfl
  have n3 := hN8.at 3 rfl
  have hown : W9.ownsRow w6.heap.size 32 7 (.slice a0 P.length c0) P.length (P.flatMap opC) := (hcn.own.keep hb89).row
  have HCN := Lib.hid (hcn.keep hb89)
  have HN9 := Lib.hid (hN8.keep hb9)
  have HA9 := Lib.hid hA9
  have HOP9 := Lib.hid (HOP6.out.keep hb69)
  have HRC9 := Lib.hid (HRC6.out.keep hb69)
  have HRO9 := Lib.hid (HRO6.out.keep hb69)
  have HB9 := Lib.hid (HB6.out.trans (hb69.mono HB6.out.size))
  have HLT : Hid (∀ g, (Value.slice a0 P.length c0).ownBlock = some g → w6.heap.size ≤ g ∧ g < w7.heap.size) := fun g hg => hcn.own.row.lt g hg
  have HSZ : Hid (w6.heap.size ≤ w7.heap.size ∧ w7.heap.size < W8.heap.size ∧ W8.heap.size < W9.heap.size) := ⟨hb7.size, by omega, by omega⟩
  have hbase : w6.heap.size ≤ W9.heap.size := hb69.size
  have hP8 : P.length ≤ 8 := HP8.out
  obtain ⟨i0, hi, hz0, hz1, hz2⟩ := info_parts infoOp
  have HVO := Lib.hid hcn.view.offW
  clear hcn hb7 hb8 hb9 hb89 hb69 hN8 hA9 hOP8 hsz8 hsz9 HN6 HRC6 HRO6 HB6 HX6 HOP6 HRG CN
  rw [show Cm.val (((f, t, s, v), P, R, K, V), (a0, c0), (b0, d0), (b1, d1), (b2, d2)) = Value.agg #[Value.int .i64 f, .int .i64 t, .int .i64 s, .slice a0 P.length c0, .int .i64 v, .slice b0 R.length d0, .slice b1 K.length d1, .slice b2 V.length d2] from rfl]
  go_wp2_with (at_builtin; refine wpList_append_own_at _ rfl _ _ 22 rfl w6.heap.size 32 i0 _ 7 56 Tryz.underlying22 hi hz0 hz1 hz2 rfl (by decide) _ _ _ rfl hown ⟨W8.heap.size, 0, none⟩ 1 1 [Value.int IntKind.i64 t1, Value.int IntKind.i64 me, Value.int IntKind.i64 n, Value.int IntKind.i64 p, Value.int IntKind.i64 nm, Value.int IntKind.i64 f, Value.int IntKind.i64 s1] rfl rfl ?c1 ?c2 ?c3 ?c4 ?c5 ?_)
  case c1 => intro i u hi; first | exact HA9.out.at i hi | (rw [Addr.add_mid, Nat.zero_add]; exact HA9.out.at i hi)
  case c2 => exact opC_one (t1, me, (n, p, nm), f, s1)
  case c3 => unfold maxLen; omega
  case c4 => omega
  case c5 => exact hbase
  intro v' w10 hown' hgrow _ hat
  have hOwn10 : OwnE opC 7 32 w10 w6.heap.size v' (P ++ [(t1, me, (n, p, nm), f, s1)]) := by
    show World.ownsRow _ _ _ _ _ _ _
    simpa [opC] using hown'
  obtain ⟨a4, c4, hv4, -, -⟩ := hOwn10.val
  rw [show (P ++ [(t1, me, (n, p, nm), f, s1)]).length = P.length + 1 by simp] at hv4
  subst hv4
  have hsz := HSZ.out
  have hs6 := HS6.out
  have hw4 := HW4.out
  have hne : ∀ b, b < w6.heap.size → some b ≠ (Value.slice a0 P.length c0).ownBlock := fun b hb e => by have := (HLT.out b e.symm).1; omega
  have hN10 := HN9.out.grown hgrow (fun e => by have := (HLT.out _ e.symm).2; omega)
  have hOP10 := HOP9.out.grown hgrow (hne _ (by omega))
  have hRC10 := HRC9.out.grown hgrow (hne _ (by omega))
  have hRO10 := HRO9.out.grown hgrow (hne _ (by omega))
  have hV10 := HCN.out.view.grown hgrow HCN.out.sep
  have hB10 : Below w.heap.size w w10 := HB9.out.trans ((below_grown hown hbase hgrow).mono (by omega))
  have hin : InL (fun b => b ≠ w7.heap.size ∧ w.heap.size + 2 < b) a4 (P ++ [(t1, me, (n, p, nm), f, s1)]) := row_block hown' (fun g hg => by
    have h1 := (hown'.lt g hg).1
    refine ⟨?_, by omega⟩
    rcases hat with h | h
    · rw [hg] at h
      have := (HLT.out g h.symm).2
      omega
    · rw [hg] at h
      have : g = W9.heap.size := by simpa using h
      omega)
  have hP10 := hOwn10.read
  obtain ⟨W11, hW11⟩ : ∃ W11, w10.setCell ⟨w7.heap.size, 3, none⟩ (.slice a4 (P.length + 1) c4) = W11 := ⟨_, rfl⟩
  have hN11 : Blk W11 w7.heap.size [Value.int .i64 f, .int .i64 t, .int .i64 s, .slice a4 (P.length + 1) c4, .int .i64 v, .slice b0 R.length d0, .slice b1 K.length d1, .slice b2 V.length d2] := by rw [← hW11]; exact hN10.set 3 (by show 3 < 8; decide) _
  have hOP11 : Blk W11 W4.heap.size [Value.int IntKind.i64 t1, Value.int IntKind.i64 me, Value.int IntKind.i64 n, Value.int IntKind.i64 p, Value.int IntKind.i64 nm, Value.int IntKind.i64 f, Value.int IntKind.i64 s1] := by rw [← hW11]; exact hOP10.other (by omega) 3 _
  have hRC11 : Blk W11 (w.heap.size + 1) [Value.int .i64 0, .int .i64 0, .int .i64 0, .slice none 0 0, .int .i64 0, .slice none 0 0, .slice none 0 0, .slice none 0 0] := by rw [← hW11]; exact hRC10.other (by omega) 3 _
  have hRO11 : Blk W11 (w.heap.size + 1 + 1) [Value.int IntKind.i64 0, Value.int IntKind.i64 0, Value.int IntKind.i64 0, Value.int IntKind.i64 0, Value.int IntKind.i64 0, Value.int IntKind.i64 0, Value.int IntKind.i64 0] := by rw [← hW11]; exact hRO10.other (by omega) 3 _
  have hV11 : VwNew w6.heap.size R K V ((b0, d0), (b1, d1), (b2, d2)) W11 := by rw [← hW11]; exact hV10.setsO HVO.out [.slice a4 (P.length + 1) c4] 3
  have hB11 : Below w.heap.size w W11 := by rw [← hW11]; exact below_sets hB10 w7.heap.size (by omega) [.slice a4 (P.length + 1) c4] 3
  have hP11 : SlE opC W11 a4 (P ++ [(t1, me, (n, p, nm), f, s1)]) := by rw [← hW11]; exact hP10.sets (hin.off (fun b hb => hb.1)) [.slice a4 (P.length + 1) c4] 3
  have z3 := hN10.at 3 rfl
  have zf := hN10.frz
  have HN11 := Lib.hid hN11
  have HOP11 := Lib.hid hOP11
  have HRC11 := Lib.hid hRC11
  have HRO11 := Lib.hid hRO11
  have HV11 := Lib.hid hV11
  have HB11 := Lib.hid hB11
  have HP11 := Lib.hid hP11
  have HIN := Lib.hid hin
  clear hOwn10 hsz hne hN10 hOP10 hRC10 hRO10 hV10 hB10 hin hP10 hN11 hOP11 hRC11 hRO11 hV11 hB11 hP11 hown' hgrow hat hown hbase hi hz0 hz1 hz2 HCN HN9 HA9 HOP9 HRC9 HRO9 HB9 HLT n3 q0 q1 q2 q3 q4 q5 q6
  go_upto_region 11 with fail
  clear hW11 z3 zf
  refine wp_region_held_drew (S := fun w' => Blk w' W4.heap.size [Value.int IntKind.i64 t1, Value.int IntKind.i64 me, Value.int IntKind.i64 n, Value.int IntKind.i64 p, Value.int IntKind.i64 nm, Value.int IntKind.i64 f, Value.int IntKind.i64 s1]) (by kernel_rfl) HOP11.out (fun hHeld => ?_)
  refine take_yes 0 60 (v := ?_) rfl rfl (by kernel_rfl) (by kernel_rfl) (by kernel_rfl) (fun _ _ _ h => h) (by rfl) ?_ hHeld ?_
  rotate_left 1
  · (intro w9 hSw; skip; go_simp; try with_reducible rfl)
  simp only [Act.put, List.setIfInBounds_toArray, List.set_cons_succ, List.set_cons_zero]
  refine take_yes 1 61 (v := ?_) rfl rfl (by kernel_rfl) (by kernel_rfl) (by kernel_rfl) (fun _ _ _ h => h) (by rfl) ?_ hHeld ?_
  rotate_left 1
  · (intro w9 hSw; skip; go_simp; try with_reducible rfl)
  simp only [Act.put, List.setIfInBounds_toArray, List.set_cons_succ, List.set_cons_zero]
  refine take_yes 2 62 (v := ?_) rfl rfl (by kernel_rfl) (by kernel_rfl) (by kernel_rfl) (fun _ _ _ h => h) (by rfl) ?_ hHeld ?_
  rotate_left 1
  · (intro w9 hSw; have q0 := hSw.at 0 rfl; go_simp; try with_reducible rfl)
  simp only [Act.put, List.setIfInBounds_toArray, List.set_cons_succ, List.set_cons_zero]
  refine take_yes 3 63 (v := ?_) rfl rfl (by kernel_rfl) (by kernel_rfl) (by kernel_rfl) (fun _ _ _ h => h) (by rfl) ?_ hHeld ?_
  rotate_left 1
  · (intro w9 hSw; skip; go_simp; try with_reducible rfl)
  simp only [Act.put, List.setIfInBounds_toArray, List.set_cons_succ, List.set_cons_zero]
  refine take_yes 4 64 (v := ?_) rfl rfl (by kernel_rfl) (by kernel_rfl) (by kernel_rfl) (fun _ _ _ h => h) (by rfl) ?_ hHeld ?_
  rotate_left 1
  · (intro w9 hSw; have q6 := hSw.at 6 rfl; go_simp; try with_reducible rfl)
  simp only [Act.put, List.setIfInBounds_toArray, List.set_cons_succ, List.set_cons_zero]
  refine take_yes 5 65 (v := ?_) rfl rfl (by kernel_rfl) (by kernel_rfl) (by kernel_rfl) (fun _ _ _ h => h) (by rfl) ?_ hHeld ?_
  rotate_left 1
  · (intro w9 hSw; skip; go_simp; try with_reducible rfl)
  simp only [Act.put, List.setIfInBounds_toArray, List.set_cons_succ, List.set_cons_zero]
  have hHd := hHeld
  have z1 : W11.drew.cell? ⟨w7.heap.size, 1, none⟩ = some (.int .i64 t) := HN11.out.at 1 rfl
  have zf : ∀ j, W11.drew.frozen? ⟨w7.heap.size, j, none⟩ = false := HN11.out.frz
  refine wpAnyH_ready (rs := [6]) (by kernel_rfl) (by simp) ?_
  refine AllReadyH.cons rfl (fun KK hKK => ?_) AllReadyH.nil
  go_simp
  go_wp2_with fail
  refine hKK.out _ _ (hHd.other (g := w7.heap.size) (by have := HS6.out; have := HW4.out; have := HSZ.out; omega) 1 (.int .i64 t1)) (fun hHeld => ?_)
  clear hKK KK
  refine take_yes 7 66 (v := ?_) rfl rfl (by kernel_rfl) (by kernel_rfl) (by kernel_rfl) (fun _ _ _ h => h) (by rfl) ?_ hHeld ?_
  rotate_left 1
  · (intro w9 hSw; skip; go_simp; try with_reducible rfl)
  simp only [Act.put, List.setIfInBounds_toArray, List.set_cons_succ, List.set_cons_zero]
  have z2 : (W11.setCell ⟨w7.heap.size, 1, none⟩ (.int .i64 t1)).drew.cell? ⟨w7.heap.size, 2, none⟩ = some (.int .i64 s) := (HN11.out.set 1 (by show 1 < 8; decide) (.int .i64 t1)).at 2 rfl
  have zg : ∀ j, (W11.setCell ⟨w7.heap.size, 1, none⟩ (.int .i64 t1)).drew.frozen? ⟨w7.heap.size, j, none⟩ = false := (HN11.out.set 1 (by show 1 < 8; decide) (.int .i64 t1)).frz
  have hHd2 := hHeld
  refine wpAnyH_ready (rs := [8]) (by kernel_rfl) (by simp) ?_
  refine AllReadyH.cons rfl (fun KK hKK => ?_) AllReadyH.nil
  go_simp
  go_wp2_with fail
  refine hKK.out _ _ (hHd2.other (g := w7.heap.size) (by have := HS6.out; have := HW4.out; have := HSZ.out; omega) 2 (.int .i64 s1)) (fun hHeld => ?_)
  clear hKK KK
  refine wpAnyH_done (by kernel_rfl) ?_ _
  clear zg
  have hN12 : Blk ((W11.setCell ⟨w7.heap.size, 1, none⟩ (.int .i64 t1)).setCell ⟨w7.heap.size, 2, none⟩ (.int .i64 s1)).drew w7.heap.size [Value.int .i64 f, .int .i64 t1, .int .i64 s1, .slice a4 (P.length + 1) c4, .int .i64 v, .slice b0 R.length d0, .slice b1 K.length d1, .slice b2 V.length d2] := (HN11.out.set 1 (by show 1 < 8; decide) (.int .i64 t1)).set 2 (by show 2 < 8; decide) (.int .i64 s1)
  have hsz := HSZ.out
  have hs6 := HS6.out
  have hw4 := HW4.out
  have HN12 := Lib.hid hN12
  have HOP12 := Lib.hid ((HOP11.out.other (g := w7.heap.size) (by omega) 1 (.int .i64 t1)).other (g := w7.heap.size) (by omega) 2 (.int .i64 s1))
  have HRC12 := Lib.hid ((HRC11.out.other (g := w7.heap.size) (by omega) 1 (.int .i64 t1)).other (g := w7.heap.size) (by omega) 2 (.int .i64 s1))
  have HRO12 := Lib.hid ((HRO11.out.other (g := w7.heap.size) (by omega) 1 (.int .i64 t1)).other (g := w7.heap.size) (by omega) 2 (.int .i64 s1))
  have HV12 := Lib.hid ((HV11.out.setsO HVO.out [.int .i64 t1] 1).setsO HVO.out [.int .i64 s1] 2)
  have HB12 := Lib.hid (below_sets (below_sets HB11.out w7.heap.size (by omega) [.int .i64 t1] 1) w7.heap.size (by omega) [.int .i64 s1] 2)
  have HP12 := Lib.hid ((HP11.out.sets (HIN.out.off (fun b hb => hb.1)) [.int .i64 t1] 1).sets (HIN.out.off (fun b hb => hb.1)) [.int .i64 s1] 2)
  clear hHeld hHd hHd2 z1 z2 zf hN12 HN11 HOP11 HRC11 HRO11 HV11 HB11 HP11 hsz hs6 hw4
  obtain ⟨W12, hW12⟩ : ∃ W12, ((W11.setCell ⟨w7.heap.size, 1, none⟩ (.int .i64 t1)).setCell ⟨w7.heap.size, 2, none⟩ (.int .i64 s1)).drew = W12 := ⟨_, rfl⟩
  have HN13 : Hid (Blk W12 w7.heap.size [Value.int .i64 f, .int .i64 t1, .int .i64 s1, .slice a4 (P.length + 1) c4, .int .i64 v, .slice b0 R.length d0, .slice b1 K.length d1, .slice b2 V.length d2]) := by refine Lib.hid ?_; rw [← hW12]; exact HN12.out
  have HOP13 : Hid (Blk W12 W4.heap.size [Value.int IntKind.i64 t1, Value.int IntKind.i64 me, Value.int IntKind.i64 n, Value.int IntKind.i64 p, Value.int IntKind.i64 nm, Value.int IntKind.i64 f, Value.int IntKind.i64 s1]) := by refine Lib.hid ?_; rw [← hW12]; exact HOP12.out
  have HRC13 : Hid (Blk W12 (w.heap.size + 1) [Value.int .i64 0, .int .i64 0, .int .i64 0, .slice none 0 0, .int .i64 0, .slice none 0 0, .slice none 0 0, .slice none 0 0]) := by refine Lib.hid ?_; rw [← hW12]; exact HRC12.out
  have HRO13 : Hid (Blk W12 (w.heap.size + 1 + 1) [Value.int IntKind.i64 0, Value.int IntKind.i64 0, Value.int IntKind.i64 0, Value.int IntKind.i64 0, Value.int IntKind.i64 0, Value.int IntKind.i64 0, Value.int IntKind.i64 0]) := by refine Lib.hid ?_; rw [← hW12]; exact HRO12.out
  have HV13 : Hid (VwNew w6.heap.size R K V ((b0, d0), (b1, d1), (b2, d2)) W12) := by refine Lib.hid ?_; rw [← hW12]; exact HV12.out.drew
  have HB13 : Hid (Below w.heap.size w W12) := by refine Lib.hid ?_; rw [← hW12]; exact HB12.out.drew
  have HP13 : Hid (SlE opC W12 a4 (P ++ [(t1, me, (n, p, nm), f, s1)])) := by refine Lib.hid ?_; rw [← hW12]; exact HP12.out
  clear HN12 HOP12 HRC12 HRO12 HV12 HB12 HP12
  rw [hW12]
  go_upto_region 12 with fail
  clear hW12
  refine wp_region_held_drew (S := fun w' => Blk w' w7.heap.size [Value.int .i64 f, .int .i64 t1, .int .i64 s1, .slice a4 (P.length + 1) c4, .int .i64 v, .slice b0 R.length d0, .slice b1 K.length d1, .slice b2 V.length d2] ∧ Blk w' W4.heap.size [Value.int IntKind.i64 t1, Value.int IntKind.i64 me, Value.int IntKind.i64 n, Value.int IntKind.i64 p, Value.int IntKind.i64 nm, Value.int IntKind.i64 f, Value.int IntKind.i64 s1]) (by kernel_rfl) ⟨HN13.out, HOP13.out⟩ (fun hHeld => ?_)
  refine take_load 0 67 28 w7.heap.size [Value.int .i64 f, .int .i64 t1, .int .i64 s1, .slice a4 (P.length + 1) c4, .int .i64 v, .slice b0 R.length d0, .slice b1 K.length d1, .slice b2 V.length d2] rfl rfl (by kernel_rfl) (by kernel_rfl) (by kernel_rfl) (fun _ _ _ h => h) (by rfl) (by rfl) (by rfl) (fun w hw => hw.1.range) Tryz.underlying28 rfl sizeClient hHeld ?_
  simp only [Act.put, List.setIfInBounds_toArray, List.set_cons_succ, List.set_cons_zero]
  refine take_load 1 68 32 W4.heap.size [Value.int IntKind.i64 t1, Value.int IntKind.i64 me, Value.int IntKind.i64 n, Value.int IntKind.i64 p, Value.int IntKind.i64 nm, Value.int IntKind.i64 f, Value.int IntKind.i64 s1] rfl rfl (by kernel_rfl) (by kernel_rfl) (by kernel_rfl) (fun _ _ _ h => h) (by rfl) (by rfl) (by rfl) (fun w hw => hw.2.range) Tryz.underlying32 rfl sizeOp hHeld ?_
  simp only [Act.put, List.setIfInBounds_toArray, List.set_cons_succ, List.set_cons_zero]
  have hsz := HSZ.out
  have hs6 := HS6.out
  have hw4 := HW4.out
  refine step_store 2 28 (w.heap.size + 1) [Value.int .i64 f, .int .i64 t1, .int .i64 s1, .slice a4 (P.length + 1) c4, .int .i64 v, .slice b0 R.length d0, .slice b1 K.length d1, .slice b2 V.length d2] (by kernel_rfl) rfl rfl (by rfl) (by rfl) (by rfl) (by rfl) HRC13.out.drew.there sizeClient (by intro u hu; simp at hu; rcases hu with rfl | rfl | rfl | rfl | rfl | rfl | rfl | rfl <;> rfl) ⟨hHeld.1.others (by omega) _ _, hHeld.2.others (by omega) _ _⟩ ?_
  have hHeld2 : Blk (W12.drew.setCells (w.heap.size + 1) 0 [Value.int .i64 f, .int .i64 t1, .int .i64 s1, .slice a4 (P.length + 1) c4, .int .i64 v, .slice b0 R.length d0, .slice b1 K.length d1, .slice b2 V.length d2]) w7.heap.size [Value.int .i64 f, .int .i64 t1, .int .i64 s1, .slice a4 (P.length + 1) c4, .int .i64 v, .slice b0 R.length d0, .slice b1 K.length d1, .slice b2 V.length d2] ∧ Blk (W12.drew.setCells (w.heap.size + 1) 0 [Value.int .i64 f, .int .i64 t1, .int .i64 s1, .slice a4 (P.length + 1) c4, .int .i64 v, .slice b0 R.length d0, .slice b1 K.length d1, .slice b2 V.length d2]) W4.heap.size [Value.int IntKind.i64 t1, Value.int IntKind.i64 me, Value.int IntKind.i64 n, Value.int IntKind.i64 p, Value.int IntKind.i64 nm, Value.int IntKind.i64 f, Value.int IntKind.i64 s1] := ⟨hHeld.1.others (by omega) _ _, hHeld.2.others (by omega) _ _⟩
  have hRO14 : Blk (W12.drew.setCells (w.heap.size + 1) 0 [Value.int .i64 f, .int .i64 t1, .int .i64 s1, .slice a4 (P.length + 1) c4, .int .i64 v, .slice b0 R.length d0, .slice b1 K.length d1, .slice b2 V.length d2]) (w.heap.size + 1 + 1) [Value.int IntKind.i64 0, Value.int IntKind.i64 0, Value.int IntKind.i64 0, Value.int IntKind.i64 0, Value.int IntKind.i64 0, Value.int IntKind.i64 0, Value.int IntKind.i64 0] := HRO13.out.drew.others (by omega) _ _
  refine step_store 3 32 (w.heap.size + 1 + 1) [Value.int IntKind.i64 t1, Value.int IntKind.i64 me, Value.int IntKind.i64 n, Value.int IntKind.i64 p, Value.int IntKind.i64 nm, Value.int IntKind.i64 f, Value.int IntKind.i64 s1] (by kernel_rfl) rfl rfl (by rfl) (by rfl) (by rfl) (by rfl) hRO14.there sizeOp (opC_one (t1, me, (n, p, nm), f, s1)) ⟨hHeld2.1.others (by omega) _ _, hHeld2.2.others (by omega) _ _⟩ ?_
  have hHeld3 : Blk ((W12.drew.setCells (w.heap.size + 1) 0 [Value.int .i64 f, .int .i64 t1, .int .i64 s1, .slice a4 (P.length + 1) c4, .int .i64 v, .slice b0 R.length d0, .slice b1 K.length d1, .slice b2 V.length d2]).setCells (w.heap.size + 1 + 1) 0 [Value.int IntKind.i64 t1, Value.int IntKind.i64 me, Value.int IntKind.i64 n, Value.int IntKind.i64 p, Value.int IntKind.i64 nm, Value.int IntKind.i64 f, Value.int IntKind.i64 s1]) w7.heap.size [Value.int .i64 f, .int .i64 t1, .int .i64 s1, .slice a4 (P.length + 1) c4, .int .i64 v, .slice b0 R.length d0, .slice b1 K.length d1, .slice b2 V.length d2] ∧ Blk ((W12.drew.setCells (w.heap.size + 1) 0 [Value.int .i64 f, .int .i64 t1, .int .i64 s1, .slice a4 (P.length + 1) c4, .int .i64 v, .slice b0 R.length d0, .slice b1 K.length d1, .slice b2 V.length d2]).setCells (w.heap.size + 1 + 1) 0 [Value.int IntKind.i64 t1, Value.int IntKind.i64 me, Value.int IntKind.i64 n, Value.int IntKind.i64 p, Value.int IntKind.i64 nm, Value.int IntKind.i64 f, Value.int IntKind.i64 s1]) W4.heap.size [Value.int IntKind.i64 t1, Value.int IntKind.i64 me, Value.int IntKind.i64 n, Value.int IntKind.i64 p, Value.int IntKind.i64 nm, Value.int IntKind.i64 f, Value.int IntKind.i64 s1] := ⟨hHeld2.1.others (by omega) _ _, hHeld2.2.others (by omega) _ _⟩
  clear hHeld
  have hHeld := hHeld3
  refine take_yes 4 12 (v := ?_) rfl rfl (by kernel_rfl) (by kernel_rfl) (by kernel_rfl) (fun _ _ _ h => h) (by rfl) ?_ hHeld ?_
  rotate_left 1
  · (intro w9 hSw; skip; go_simp; try with_reducible rfl)
  simp only [Act.put, List.setIfInBounds_toArray, List.set_cons_succ, List.set_cons_zero]
  refine wpAnyH_done (by kernel_rfl) ?_ _
  have hRCf : Blk ((W12.drew.setCells (w.heap.size + 1) 0 [Value.int .i64 f, .int .i64 t1, .int .i64 s1, .slice a4 (P.length + 1) c4, .int .i64 v, .slice b0 R.length d0, .slice b1 K.length d1, .slice b2 V.length d2]).setCells (w.heap.size + 1 + 1) 0 [Value.int IntKind.i64 t1, Value.int IntKind.i64 me, Value.int IntKind.i64 n, Value.int IntKind.i64 p, Value.int IntKind.i64 nm, Value.int IntKind.i64 f, Value.int IntKind.i64 s1]) (w.heap.size + 1) [Value.int .i64 f, .int .i64 t1, .int .i64 s1, .slice a4 (P.length + 1) c4, .int .i64 v, .slice b0 R.length d0, .slice b1 K.length d1, .slice b2 V.length d2] := (HRC13.out.drew.sets [Value.int .i64 f, .int .i64 t1, .int .i64 s1, .slice a4 (P.length + 1) c4, .int .i64 v, .slice b0 R.length d0, .slice b1 K.length d1, .slice b2 V.length d2] rfl).others (by omega) _ _
  have hROf : Blk ((W12.drew.setCells (w.heap.size + 1) 0 [Value.int .i64 f, .int .i64 t1, .int .i64 s1, .slice a4 (P.length + 1) c4, .int .i64 v, .slice b0 R.length d0, .slice b1 K.length d1, .slice b2 V.length d2]).setCells (w.heap.size + 1 + 1) 0 [Value.int IntKind.i64 t1, Value.int IntKind.i64 me, Value.int IntKind.i64 n, Value.int IntKind.i64 p, Value.int IntKind.i64 nm, Value.int IntKind.i64 f, Value.int IntKind.i64 s1]) (w.heap.size + 1 + 1) [Value.int IntKind.i64 t1, Value.int IntKind.i64 me, Value.int IntKind.i64 n, Value.int IntKind.i64 p, Value.int IntKind.i64 nm, Value.int IntKind.i64 f, Value.int IntKind.i64 s1] := hRO14.sets [Value.int IntKind.i64 t1, Value.int IntKind.i64 me, Value.int IntKind.i64 n, Value.int IntKind.i64 p, Value.int IntKind.i64 nm, Value.int IntKind.i64 f, Value.int IntKind.i64 s1] rfl
  have hVf : VwNew w6.heap.size R K V ((b0, d0), (b1, d1), (b2, d2)) ((W12.drew.setCells (w.heap.size + 1) 0 [Value.int .i64 f, .int .i64 t1, .int .i64 s1, .slice a4 (P.length + 1) c4, .int .i64 v, .slice b0 R.length d0, .slice b1 K.length d1, .slice b2 V.length d2]).setCells (w.heap.size + 1 + 1) 0 [Value.int IntKind.i64 t1, Value.int IntKind.i64 me, Value.int IntKind.i64 n, Value.int IntKind.i64 p, Value.int IntKind.i64 nm, Value.int IntKind.i64 f, Value.int IntKind.i64 s1]) := (HV13.out.drew.sets (w.heap.size + 1) (by omega) [Value.int .i64 f, .int .i64 t1, .int .i64 s1, .slice a4 (P.length + 1) c4, .int .i64 v, .slice b0 R.length d0, .slice b1 K.length d1, .slice b2 V.length d2] 0).sets (w.heap.size + 1 + 1) (by omega) [Value.int IntKind.i64 t1, Value.int IntKind.i64 me, Value.int IntKind.i64 n, Value.int IntKind.i64 p, Value.int IntKind.i64 nm, Value.int IntKind.i64 f, Value.int IntKind.i64 s1] 0
  have hBf : Below w.heap.size w ((W12.drew.setCells (w.heap.size + 1) 0 [Value.int .i64 f, .int .i64 t1, .int .i64 s1, .slice a4 (P.length + 1) c4, .int .i64 v, .slice b0 R.length d0, .slice b1 K.length d1, .slice b2 V.length d2]).setCells (w.heap.size + 1 + 1) 0 [Value.int IntKind.i64 t1, Value.int IntKind.i64 me, Value.int IntKind.i64 n, Value.int IntKind.i64 p, Value.int IntKind.i64 nm, Value.int IntKind.i64 f, Value.int IntKind.i64 s1]) := below_sets (below_sets HB13.out.drew (w.heap.size + 1) (by omega) _ 0) (w.heap.size + 1 + 1) (by omega) _ 0
  have hPf : SlE opC ((W12.drew.setCells (w.heap.size + 1) 0 [Value.int .i64 f, .int .i64 t1, .int .i64 s1, .slice a4 (P.length + 1) c4, .int .i64 v, .slice b0 R.length d0, .slice b1 K.length d1, .slice b2 V.length d2]).setCells (w.heap.size + 1 + 1) 0 [Value.int IntKind.i64 t1, Value.int IntKind.i64 me, Value.int IntKind.i64 n, Value.int IntKind.i64 p, Value.int IntKind.i64 nm, Value.int IntKind.i64 f, Value.int IntKind.i64 s1]) a4 (P ++ [(t1, me, (n, p, nm), f, s1)]) := (HP13.out.drew.sets (HIN.out.off (fun b hb => by omega)) [Value.int .i64 f, .int .i64 t1, .int .i64 s1, .slice a4 (P.length + 1) c4, .int .i64 v, .slice b0 R.length d0, .slice b1 K.length d1, .slice b2 V.length d2] 0).sets (HIN.out.off (fun b hb => by omega)) [Value.int IntKind.i64 t1, Value.int IntKind.i64 me, Value.int IntKind.i64 n, Value.int IntKind.i64 p, Value.int IntKind.i64 nm, Value.int IntKind.i64 f, Value.int IntKind.i64 s1] 0
  have HRCf := Lib.hid hRCf
  have HROf := Lib.hid hROf
  have HVf := Lib.hid hVf
  have HBf := Lib.hid hBf
  have HPf := Lib.hid hPf
  clear hHeld hHeld2 hHeld3 hRO14 hRCf hROf hVf hBf hPf HN13 HOP13 HRC13 HRO13 HV13 HB13 HP13 hsz hs6 hw4
  generalize (W12.drew.setCells (w.heap.size + 1) 0 [Value.int .i64 f, .int .i64 t1, .int .i64 s1, .slice a4 (P.length + 1) c4, .int .i64 v, .slice b0 R.length d0, .slice b1 K.length d1, .slice b2 V.length d2]).setCells (w.heap.size + 1 + 1) 0 [Value.int IntKind.i64 t1, Value.int IntKind.i64 me, Value.int IntKind.i64 n, Value.int IntKind.i64 p, Value.int IntKind.i64 nm, Value.int IntKind.i64 f, Value.int IntKind.i64 s1] = W15 at *
  go_wp2
  refine ret_cell_cell_tmp Tryz.results7 rfl rfl rfl (HRCf.out.load Tryz.underlying28 rfl sizeClient) (HROf.out.load Tryz.underlying32 rfl sizeOp) ?_
  have hne : ¬ (movE ((f, t, s, v), P, R, K, V) me n p nm ≠ 0) := by rw [HE0.out]; simp
  refine ⟨(((f, t1, s1, v), P ++ [(t1, me, (n, p, nm), f, s1)], R, K, V), (a4, c4), (b0, d0), (b1, d1), (b2, d2)), ?_, ?_, ?_, HIN.out.imp (fun b hb => by have := hb.2; omega), HBf.out⟩
  · rw [HE0.out, show movP ((f, t, s, v), P, R, K, V) me n p nm = (t1, me, (n, p, nm), f, s1) from (if_neg hne).trans HMV.out]
    simp [clC]
  · have e : movC ((f, t, s, v), P, R, K, V) me n p nm = ((f, t + 1, s + 1, v), P ++ [movO ((f, t, s, v), P, R, K, V) me n p nm], R, K, V) := if_neg hne
    rw [e, HMV.out, HT1.out, HS1.out]
  · have hf := HFEW.out
    have h8 := HP8.out
    simp only [ClFew] at hf
    refine ⟨HPf.out, HVf.out.lr, HVf.out.lk, HVf.out.lv, ⟨?_, ?_, ?_, ?_⟩, ⟨HVf.out.nk, HVf.out.nv⟩⟩
    · simp only [List.length_append, List.length_cons, List.length_nil]
      omega
    · show R.length ≤ _
      omega
    · show K.length ≤ _
      omega
    · show V.length ≤ _
      omega
end Go.Proofs.YtijjiccgpobjmaeGreat

