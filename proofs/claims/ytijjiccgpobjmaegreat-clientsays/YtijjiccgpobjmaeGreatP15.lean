/- 5 texts of the proof: What is read lies in these blocks; what it is behind a writing of others. slices.IndexFunc, slices.DeleteFunc at operations. A region that draws its order, where a condition on the world holds until one operation (a store) has come up. Mail in memory: the blocks that its lists lie in; way.clone. delta.changed: some go, some stand so. -/
import Derived.Test.YtijjiccgpobjmaeGreatP05
import Derived.Test.YtijjiccgpobjmaeGreatP14
import Derived.Test.YtijjiccgpobjmaeGreatP06
import Derived.Test.YtijjiccgpobjmaeGreatP08
import Derived.Test.YtijjiccgpobjmaeGreatP10
/- What is read lies in these blocks; what it is behind a writing of others. -/
namespace Go.Proofs.YtijjiccgpobjmaeGreat
open Go.ChangeShapes Go.WideShapes Go.ChangeAt Go.RowKit
open Orangery (Pl)

theorem SlE.apartH {α : Type} {enc : α → List Value} {w w' : World} {a : Option Addr} {l : List α} (h : SlE enc w a l) (hs : w.heap.size ≤ w'.heap.size)
    (hk : ∀ b off, a = some ⟨b, off, none⟩ → b < w.heap.size → w'.heap[b]? = w.heap[b]?) : SlE enc w' a l := by
  rcases h with h | ⟨b, off, ha, hb, hr⟩
  · exact Or.inl h
  · refine Or.inr ⟨b, off, ha, by omega, fun j v hv => ?_⟩
    rw [World.cell?_of_block (w := w) (w' := w') (a := ⟨b, off + j, none⟩) (hk b off ha hb)]
    exact hr j v hv
theorem SlI.apartH {w w' : World} {a : Option Addr} {l : List Int} (h : SlI w a l) (hs : w.heap.size ≤ w'.heap.size)
    (hk : ∀ b off, a = some ⟨b, off, none⟩ → b < w.heap.size → w'.heap[b]? = w.heap[b]?) : SlI w' a l := by
  rcases h with h | ⟨b, off, ha, hb, hr⟩
  · exact Or.inl h
  · refine Or.inr ⟨b, off, ha, by omega, fun j hj => ?_⟩
    rw [World.cell?_of_block (w := w) (w' := w') (a := ⟨b, off + j, none⟩) (hk b off ha hb)]
    exact hr j hj
theorem SlP.apartH {w w' : World} {a : Option Addr} {l : List Pl} (h : SlP w a l) (hs : w.heap.size ≤ w'.heap.size)
    (hk : ∀ b off, a = some ⟨b, off, none⟩ → b < w.heap.size → w'.heap[b]? = w.heap[b]?) : SlP w' a l := by
  rcases h with h | ⟨b, off, ha, hb, hr⟩
  · exact Or.inl h
  · refine Or.inr ⟨b, off, ha, by omega, fun i hi => ?_⟩
    have hbl := hk b off ha hb
    obtain ⟨h1, h2, h3⟩ := hr i hi
    exact ⟨by rw [World.cell?_of_block (w := w) (w' := w') (by exact hbl)]; exact h1, by rw [World.cell?_of_block (w := w) (w' := w') (by exact hbl)]; exact h2, by rw [World.cell?_of_block (w := w) (w' := w') (by exact hbl)]; exact h3⟩

/-- what is read there is not in block g -/
def OffL {α : Type} (g : Nat) (a : Option Addr) (l : List α) : Prop := l = [] ∨ ∀ b off, a = some ⟨b, off, none⟩ → b ≠ g
theorem SlE.off {α : Type} {enc : α → List Value} {w : World} {a : Option Addr} {l : List α} {g : Nat} (h : SlE enc w a l) (hg : w.heap.size ≤ g) : OffL g a l := by
  rcases h with h | ⟨b, off, ha, hb, _⟩
  · exact Or.inl h
  · refine Or.inr (fun b' off' e => ?_)
    rw [ha] at e
    obtain ⟨rfl, _⟩ : b = b' ∧ off = off' := by simpa using e
    omega
theorem SlI.off {w : World} {a : Option Addr} {l : List Int} {g : Nat} (h : SlI w a l) (hg : w.heap.size ≤ g) : OffL g a l := by
  rcases h with h | ⟨b, off, ha, hb, _⟩
  · exact Or.inl h
  · refine Or.inr (fun b' off' e => ?_)
    rw [ha] at e
    obtain ⟨rfl, _⟩ : b = b' ∧ off = off' := by simpa using e
    omega
theorem SlP.off {w : World} {a : Option Addr} {l : List Pl} {g : Nat} (h : SlP w a l) (hg : w.heap.size ≤ g) : OffL g a l := by
  rcases h with h | ⟨b, off, ha, hb, _⟩
  · exact Or.inl h
  · refine Or.inr (fun b' off' e => ?_)
    rw [ha] at e
    obtain ⟨rfl, _⟩ : b = b' ∧ off = off' := by simpa using e
    omega
theorem row_off {α : Type} {w : World} {base n k c : Nat} {e : TypeId} {a : Option Addr} {cs : List Value} {l : List α} {g : Nat} (h : w.ownsRow base e k (.slice a n c) n cs) (hg : g < base) : OffL g a l := by
  refine Or.inr (fun b off ha => ?_)
  rcases h.2 with ⟨h', _⟩ | ⟨g', cap, cur, h', hb, _⟩
  · simp [ha] at h'
  · rw [ha] at h'
    obtain ⟨⟨rfl, _⟩, _⟩ : (b = g' ∧ off = 0) ∧ _ := by simpa using h'
    omega
theorem sets_heap (b g : Nat) (hne : b ≠ g) : ∀ (us : List Value) (o : Nat) (w : World), (w.setCells g o us).heap[b]? = w.heap[b]?
  | [], _, _ => rfl
  | u :: us, o, w => by
    show ((w.setCell ⟨g, o, none⟩ u).setCells g (o + 1) us).heap[b]? = _
    rw [sets_heap b g hne us (o + 1) _]
    exact heap_setCell_other w ⟨g, o, none⟩ b u hne
theorem SlE.sets {α : Type} {enc : α → List Value} {w : World} {a : Option Addr} {l : List α} {g : Nat} (h : SlE enc w a l) (ho : OffL g a l) (us : List Value) (o : Nat) : SlE enc (w.setCells g o us) a l := by
  rcases ho with rfl | ho
  · exact Or.inl rfl
  · exact h.apartH (by simp [Go.Sort.size_setCells]) (fun b off ha _ => sets_heap b g (ho b off ha) us o w)
theorem SlI.setsO {w : World} {a : Option Addr} {l : List Int} {g : Nat} (h : SlI w a l) (ho : OffL g a l) (us : List Value) (o : Nat) : SlI (w.setCells g o us) a l := by
  rcases ho with rfl | ho
  · exact Or.inl rfl
  · exact h.apartH (by simp [Go.Sort.size_setCells]) (fun b off ha _ => sets_heap b g (ho b off ha) us o w)
theorem SlP.sets {w : World} {a : Option Addr} {l : List Pl} {g : Nat} (h : SlP w a l) (ho : OffL g a l) (us : List Value) (o : Nat) : SlP (w.setCells g o us) a l := by
  rcases ho with rfl | ho
  · exact Or.inl rfl
  · exact h.apartH (by simp [Go.Sort.size_setCells]) (fun b off ha _ => sets_heap b g (ho b off ha) us o w)
theorem set_sets (w : World) (g o : Nat) (u : Value) : w.setCell ⟨g, o, none⟩ u = w.setCells g o [u] := rfl

/-- what is read there is in a block of D -/
def InL {α : Type} (D : Nat → Prop) (a : Option Addr) (l : List α) : Prop := l = [] ∨ ∀ b off, a = some ⟨b, off, none⟩ → D b
theorem InL.off {α : Type} {D : Nat → Prop} {a : Option Addr} {l : List α} {g : Nat} (h : InL D a l) (hg : ∀ b, D b → b ≠ g) : OffL g a l := by
  rcases h with h | h
  · exact Or.inl h
  · exact Or.inr (fun b off e => hg b (h b off e))
theorem InL.imp {α : Type} {D D' : Nat → Prop} {a : Option Addr} {l : List α} (h : InL D a l) (hg : ∀ b, D b → D' b) : InL D' a l := by
  rcases h with h | h
  · exact Or.inl h
  · exact Or.inr (fun b off e => hg b (h b off e))
theorem InL.and {α : Type} {D D' : Nat → Prop} {a : Option Addr} {l : List α} (h : InL D a l) (h' : InL D' a l) : InL (fun b => D b ∧ D' b) a l := by
  rcases h with h | h
  · exact Or.inl h
  · rcases h' with h' | h'
    · exact Or.inl h'
    · exact Or.inr (fun b off e => ⟨h b off e, h' b off e⟩)
theorem SlE.isin {α : Type} {enc : α → List Value} {w : World} {a : Option Addr} {l : List α} (h : SlE enc w a l) : InL (· < w.heap.size) a l := by
  rcases h with h | ⟨b, off, ha, hb, _⟩
  · exact Or.inl h
  · refine Or.inr (fun b' off' e => ?_)
    rw [ha] at e
    obtain ⟨rfl, _⟩ : b = b' ∧ off = off' := by simpa using e
    exact hb
theorem SlI.isin {w : World} {a : Option Addr} {l : List Int} (h : SlI w a l) : InL (· < w.heap.size) a l := by
  rcases h with h | ⟨b, off, ha, hb, _⟩
  · exact Or.inl h
  · refine Or.inr (fun b' off' e => ?_)
    rw [ha] at e
    obtain ⟨rfl, _⟩ : b = b' ∧ off = off' := by simpa using e
    exact hb
theorem SlP.isin {w : World} {a : Option Addr} {l : List Pl} (h : SlP w a l) : InL (· < w.heap.size) a l := by
  rcases h with h | ⟨b, off, ha, hb, _⟩
  · exact Or.inl h
  · refine Or.inr (fun b' off' e => ?_)
    rw [ha] at e
    obtain ⟨rfl, _⟩ : b = b' ∧ off = off' := by simpa using e
    exact hb
theorem row_in {α : Type} {w : World} {base n k c : Nat} {e : TypeId} {a : Option Addr} {cs : List Value} {l : List α} (h : w.ownsRow base e k (.slice a n c) n cs) : InL (base ≤ ·) a l := by
  refine Or.inr (fun b off ha => ?_)
  rcases h.2 with ⟨h', _⟩ | ⟨g', cap, cur, h', hb, _⟩
  · simp [ha] at h'
  · rw [ha] at h'
    obtain ⟨⟨rfl, _⟩, _⟩ : (b = g' ∧ off = 0) ∧ _ := by simpa using h'
    exact hb

/-- a row of the call's own -/
theorem own_blk {α : Type} {enc : α → List Value} {k : Nat} {e : TypeId} {w : World} {base g cap : Nat} {l : List α} (h : OwnE enc k e w base (.slice (some ⟨g, 0, none⟩) l.length cap) l) : Blk w g (l.flatMap enc) ∧ base ≤ g := by
  rcases h.2 with ⟨h', _⟩ | ⟨g', cap', cur, h', hb, hg, hn, hm, hs, ht⟩
  · simp at h'
  · obtain ⟨rfl, rfl⟩ : g = g' ∧ cap = cap' := by simpa using h'
    refine ⟨⟨blk_lt hg, fun j => ?_, fun i v hv => ?_⟩, hb⟩
    · unfold World.frozen?
      simp only [hg]
      simp
    · rw [← ht] at hv
      rw [Go.Joins.cell_of_block hg]
      have hi : i < l.length * k := by
        have := (List.getElem?_eq_some_iff.1 hv).1
        simp at this
        omega
      rw [List.getElem?_take_of_lt hi] at hv
      simpa using hv

end Go.Proofs.YtijjiccgpobjmaeGreat

/- slices.IndexFunc, slices.DeleteFunc at operations. -/
namespace Go.Proofs.YtijjiccgpobjmaeGreat
open Go.ChangeShapes Go.WideShapes Go.ChangeAt Go.RowKit
open Orangery (Pl Mv idxA KeptA)

set_option maxHeartbeats 1000000 in
theorem indexOps_any (w : World) (a : Option Addr) (c : Nat) (l : List Mv) (g : Nat) (v : Value) (f : Mv → Bool) (hl : l.length ≤ maxLen) (h : SlE opC w a l)
    (eg : ∀ args w, (callFunc g args).run Tryz.prog w = .ok (.enter g args) w)
    (hg : ∀ W p, Below w.heap.size w W → Calls Tryz.prog g #[opV p, v] W fun e w' => e = .returned (.bool (f p)) ∧ Below W.heap.size W w') :
    Calls Tryz.prog 82 #[.slice a l.length c, .func (.func g) #[] #[v]] w
      fun e w' => e = .returned (.int .i64 (idxA f 0 l)) ∧ Below w.heap.size w w' := by
  have hl' : l.length ≤ 9223372036854775807 := hl
  go_enter Tryz.func82, Tryz.ntmps82
  go_wp2
  go_loopw [8] (fun i W => ∃ k : Nat, k ≤ l.length ∧ i = .int .i64 k ∧ idxA f k (l.drop k) = idxA f 0 l ∧ Below w.heap.size w W) (fun i _ => l.length - (intOf i).toNat)
  case atStart => exact ⟨0, Nat.zero_le _, rfl, rfl, Below.refl _ _⟩
  case round =>
    obtain ⟨k, hk, rfl, hno, hb⟩ := hrel
    have HNO := Lib.hid hno
    clear hno
    by_cases hlt : k < l.length
    · obtain ⟨b, off, rfl, hbl, hr⟩ := h.at opC_len k hlt
      have hr1 : wr.rangeAt b (off + k * 7) (opC l[k]) := fun j v hv => by rw [hb.cell (by exact hbl)]; exact hr j v hv
      obtain ⟨g0, g1, g2, g3, g4, g5, g6⟩ := op_cells hr1
      have hst := Orangery.idxA_step f l k hlt HNO.out
      have HS := Lib.hid hst
      clear hr hr1 HNO hst
      go_wp2_with fail
      refine (hg wr l[k] hb).mono ?_
      rintro e w1 ⟨rfl, hb1⟩
      have hb2 : Below w.heap.size w w1 := hb.trans (hb1.mono hb.size)
      cases hr : f l[k]
      · go_wp2
        go_roundw
        case rel => exact ⟨k + 1, hlt, by go_num, HS.out.2 hr, hb2⟩
        case measure => simp [intOf]; omega
      · go_wp2
        go_ret
        exact ⟨ret_int (HS.out.1 hr).symm, hb2⟩
    · go_wp2
      go_ret
      refine ⟨ret_int ?_, hb⟩
      rw [← HNO.out, List.drop_of_length_le (by omega)]
      rfl

theorem zeroOps (n : Nat) : ∀ v ∈ (Builtin.zeroCells #[Value.int IntKind.i64 0, Value.int IntKind.i64 0, Value.int IntKind.i64 0, Value.int IntKind.i64 0, Value.int IntKind.i64 0, Value.int IntKind.i64 0, Value.int IntKind.i64 0] n).toList, v.oneCell' = true := by
  intro v hv
  rw [Builtin.zeroCells, Array.toList_map, List.mem_map] at hv
  obtain ⟨a, _, rfl⟩ := hv
  have hlt : a % 7 < 7 := Nat.mod_lt _ (by decide)
  have h : a % 7 = 0 ∨ a % 7 = 1 ∨ a % 7 = 2 ∨ a % 7 = 3 ∨ a % 7 = 4 ∨ a % 7 = 5 ∨ a % 7 = 6 := by omega
  show (#[Value.int IntKind.i64 0, Value.int IntKind.i64 0, Value.int IntKind.i64 0, Value.int IntKind.i64 0, Value.int IntKind.i64 0, Value.int IntKind.i64 0, Value.int IntKind.i64 0][a % 7]!).oneCell' = true
  rcases h with h | h | h | h | h | h | h <;> rw [h] <;> rfl
theorem take_flatE {α : Type} {enc : α → List Value} {k : Nat} (hk : ∀ x, (enc x).length = k) (l : List α) (i : Nat) : (l.flatMap enc).take (i * k) = (l.take i).flatMap enc := by
  induction l generalizing i with
  | nil => simp
  | cons x l ih =>
    cases i with
    | zero => simp
    | succ i =>
      simp only [List.flatMap_cons, List.take_succ_cons]
      rw [show (i + 1) * k = (enc x).length + i * k by rw [hk, Nat.succ_mul]; omega, List.take_length_add_append, ih]
/-- the end of an own row written over: the beginning of it stays -/
theorem OwnE.cut {α : Type} {enc : α → List Value} {k : Nat} (hk : ∀ x, (enc x).length = k) {e : TypeId} {w : World} {base g cap : Nat} {l : List α} (h : OwnE enc k e w base (.slice (some ⟨g, 0, none⟩) l.length cap) l) (i : Nat) (hi : i ≤ l.length) (vs : List Value) (hv : vs.length = (l.length - i) * k) :
    OwnE enc k e (w.setCells g (i * k) vs) base (.slice (some ⟨g, 0, none⟩) (l.take i).length cap) (l.take i) := by
  refine ⟨flatE_len hk _, ?_⟩
  rcases h.2 with ⟨h', _⟩ | ⟨g', cap', cur, h', hb, hg, hn, hm, hs, ht⟩
  · simp at h'
  · obtain ⟨rfl, rfl⟩ : g = g' ∧ cap = cap' := by simpa using h'
    have hle : i * k + vs.length = l.length * k := by
      rw [hv, ← Nat.add_mul]
      congr 1
      omega
    have hle2 : l.length * k ≤ cap * k := Nat.mul_le_mul_right k hn
    obtain ⟨cur', h1, h2⟩ := setCells_whole g e vs (i * k) w cur hg (by omega)
    have hcl : cur.toList.length = cap * k := by simpa using hs
    have hsz : cur'.size = cap * k := by
      have := congrArg List.length h2
      simp at this
      omega
    have hti : (l.take i).length = i := by simp; omega
    refine Or.inr ⟨g, cap, cur', rfl, hb, h1, by omega, hm, hsz, ?_⟩
    rw [hti, h2, List.append_assoc, List.take_append_of_le_length (by simp; omega), List.take_take, Nat.min_self, ← take_flatE hk, ← ht, List.take_take, Nat.min_eq_left (by omega)]
/-- 'clear' of the end of a row -/
theorem run_clear_ops (w : World) (ty : TypeId) (base g i n c cap : Nat) (m : List Mv) (h : OwnE opC 7 32 w base (.slice (some ⟨g, 0, none⟩) m.length cap) m) (hn : i + n = m.length) (hp : 0 < n) :
    ∃ vs, vs.length = n * 7 ∧ (Builtin.clear_ #[22] ty #[.slice (some ⟨g, i * 7, none⟩) n c]).run Tryz.prog w = .ok (.tuple #[]) (w.setCells g (i * 7) vs) := by
  refine ⟨(Builtin.zeroCells #[Value.int IntKind.i64 0, Value.int IntKind.i64 0, Value.int IntKind.i64 0, Value.int IntKind.i64 0, Value.int IntKind.i64 0, Value.int IntKind.i64 0, Value.int IntKind.i64 0] n).toList, by simp [size_zeroCells], ?_⟩
  have hth : w.there g (i * 7) (n * 7) := by
    rcases h.2 with ⟨h', _⟩ | ⟨g', cap', cur, h', hb, hg, hc, hm, hs, ht⟩
    · simp at h'
    · obtain ⟨rfl, rfl⟩ : g = g' ∧ cap = cap' := by simpa using h'
      exact there_block hg _ _ (by omega)
  have hlen : (Builtin.zeroCells #[Value.int IntKind.i64 0, Value.int IntKind.i64 0, Value.int IntKind.i64 0, Value.int IntKind.i64 0, Value.int IntKind.i64 0, Value.int IntKind.i64 0, Value.int IntKind.i64 0] n).toList.length = n * 7 := by simp [size_zeroCells]
  have hst := run_storeCells_cells (P := Tryz.prog) g (i * 7) (Builtin.zeroCells #[Value.int IntKind.i64 0, Value.int IntKind.i64 0, Value.int IntKind.i64 0, Value.int IntKind.i64 0, Value.int IntKind.i64 0, Value.int IntKind.i64 0, Value.int IntKind.i64 0] n).toList 0 w
    (fun j hj => (hth j (by omega)).1) (fun j hj => (hth j (by omega)).2) (zeroOps n)
  simp only [Nat.add_zero] at hst
  obtain ⟨k, rfl⟩ : ∃ k, n = k + 1 := ⟨n - 1, by omega⟩
  have hz := Tryz.zeroValue32
  simp [Builtin.clear_, run_underlying Tryz.underlying22, hz, Value.cells, hst]

theorem OwnE.fits {α : Type} {enc : α → List Value} {k : Nat} {e : TypeId} {w : World} {base n c : Nat} {a : Option Addr} {l : List α} (h : OwnE enc k e w base (.slice a n c) l) : c ≤ maxLen := by
  rcases h.2 with ⟨h', _⟩ | ⟨g, cap, cur, h', _, _, _, hm, _⟩
  · obtain ⟨_, _, rfl⟩ : a = none ∧ n = 0 ∧ c = 0 := by simpa using h'
    exact Nat.zero_le _
  · obtain ⟨_, _, rfl⟩ : a = _ ∧ n = _ ∧ c = cap := by simpa using h'
    exact hm

/-- an own row behind the writing of another block -/
theorem OwnE.off {α : Type} {enc : α → List Value} {k : Nat} {e : TypeId} {w : World} {base : Nat} {v : Value} {l : List α} (h : OwnE enc k e w base v l) (g : Nat) (hg : v.ownBlock ≠ some g) (us : List Value) (o : Nat) : OwnE enc k e (w.setCells g o us) base v l := by
  refine ⟨h.1, ?_⟩
  rcases h.2 with h2 | ⟨g', cap, cur, hv, hb, hh, hn, hm, hs, ht⟩
  · exact Or.inl h2
  · refine Or.inr ⟨g', cap, cur, hv, hb, ?_, hn, hm, hs, ht⟩
    rw [sets_heap g' g (fun e => hg (by rw [hv, ← e]; rfl)) us o w]
    exact hh
theorem grown_keep {w W W' : World} {row : Option Nat} (h : w.grownBy W row) (hb : Below W.heap.size W W') : w.grownBy W' row :=
  ⟨hb.os.trans h.os, hb.tape.trans h.tape, hb.output.trans h.output, Nat.le_trans h.size hb.size, fun k hk hne => (hb.block k (Nat.lt_of_lt_of_le hk h.size)).trans (h.block k hk hne)⟩
theorem grown_sets {w W : World} {g : Nat} (h : w.grownBy W (some g)) (us : List Value) (o : Nat) : w.grownBy (W.setCells g o us) (some g) := by
  have h0 : Below 0 w (W.setCells g o us) := below_sets ⟨h.os, h.tape, h.output, h.size, fun k hk => absurd hk (Nat.not_lt_zero k)⟩ g (Nat.zero_le _) us o
  exact ⟨h0.os, h0.tape, h0.output, h0.size, fun k hk hne => (sets_heap k g (fun e => hne (by rw [e])) us o W).trans (h.block k hk hne)⟩

set_option maxHeartbeats 4000000 in
set_option maxRecDepth 100000 in
theorem deleteOps_any (w : World) (base : Nat) (sv : Value) (l : List Mv) (k : Nat) (v : Value) (f : Mv → Bool) (hl : l.length ≤ 1000) (h : OwnE opC 7 32 w base sv l)
    (hbase : base ≤ w.heap.size)
    (eg : ∀ args w, (callFunc k args).run Tryz.prog w = .ok (.enter k args) w)
    (hg : ∀ W p, Below base w W → Calls Tryz.prog k #[opV p, v] W fun e w' => e = .returned (.bool (f p)) ∧ Below W.heap.size W w') :
    Calls Tryz.prog 49 #[sv, .func (.func k) #[] #[v]] w
      fun e w' => ∃ rv, e = .returned rv ∧ OwnE opC 7 32 w' base rv (l.filter fun p => !f p) ∧ Below base w w' ∧ w.grownBy w' sv.ownBlock ∧ (rv.ownBlock = sv.ownBlock) := by
  obtain ⟨a, c, rfl, -, hcap⟩ := h.val
  have hcm : c ≤ maxLen := h.fits
  go_enter Tryz.func49, Tryz.ntmps49
  go_wp2_with fail
  refine (indexOps_any w a c l k v f (by unfold maxLen; omega) h.read eg (fun W p hb => hg W p (hb.mono hbase))).mono ?_
  rintro e w1 ⟨rfl, hb1⟩
  have hO1 := h.keep hb1
  have hB1 : Below base w w1 := hb1.mono hbase
  have hS1 : base ≤ w1.heap.size := Nat.le_trans hbase hb1.size
  have hG1 : ∀ row, w.grownBy w1 row := fun row => ⟨hb1.os, hb1.tape, hb1.output, hb1.size, fun k hk _ => hb1.block k hk⟩
  clear h
  rcases Orangery.idxA_first f l 0 with ⟨h1, h2⟩ | ⟨i, hi, h1, h2⟩
  · rw [h1]
    have HE : Hid (l.filter (fun p => !f p) = l) := h2
    clear h1 h2
    go_wp2
    go_ret
    exact ⟨_, rfl, by rw [HE.out]; exact hO1, hB1, hG1 _, rfl⟩
  · rw [h1, Nat.zero_add]
    have hK := KeptA.start f l i hi h2
    clear h1 h2
    obtain ⟨a', cap, he, hP, hcase⟩ := own_slE hO1.row
    obtain ⟨rfl, rfl⟩ : a = a' ∧ c = cap := by simpa using he
    rcases hcase with rfl | ⟨g, rfl, hgb, hgl⟩
    · exfalso
      rcases hP with rfl | ⟨b, off, h', _⟩
      · simp at hi
      · simp at h'
    have HO := Lib.hid hO1
    have HG1 := Lib.hid (hG1 (some g))
    clear hG1
    have HK := Lib.hid hK
    clear hK hO1 hP he
    have hi' : ((i : Int) == -1) = false := by simp <;> omega
    go_wp2
    go_loopw [5, 6] (fun x y W => ∃ (i j : Nat) (m : List Mv), x = .int .i64 i ∧ y = .int .i64 j ∧ KeptA f l m i j ∧ OwnE opC 7 32 W base (.slice (some ⟨g, 0, none⟩) m.length c) m ∧ Below base w W ∧ w.grownBy W (some g)) (fun _ y _ => l.length - (intOf y).toNat)
    case atStart => exact ⟨i, i + 1, l, rfl, by go_num, HK.out, HO.out, hB1, HG1.out⟩
    case round =>
      clear HO HK hi' hgl
      obtain ⟨i, j, m, rfl, rfl, hK, hO, hb, hG⟩ := hrel
      have HG := Lib.hid hG
      clear hG HG1
      have HK := Lib.hid hK
      have HO := Lib.hid hO
      have hml : m.length = l.length := hK.1
      have hij : i < j := hK.2.1
      have hjl : j ≤ l.length := hK.2.2.1
      by_cases hlt : j < l.length
      · obtain ⟨hjm, hmj⟩ := hK.get hlt
        obtain ⟨b, off, he, hbl, hr⟩ := hO.read.at opC_len j hjm
        obtain ⟨rfl, rfl⟩ : g = b ∧ 0 = off := by simpa using he
        rw [hmj] at hr
        obtain ⟨g0, g1, g2, g3, g4, g5, g6⟩ := op_cells hr
        simp only [Nat.zero_add] at g0 g1 g2 g3 g4 g5 g6
        have HK1 : Hid (f l[j] = true → KeptA f l m i (j + 1)) := hK.skip hlt
        have HK2 : Hid (f l[j] = false → KeptA f l (m.set i l[j]) (i + 1) (j + 1)) := hK.keep hlt
        clear hK hO hmj hr he
        generalize hq : l[j] = q at *
        clear hq
        obtain ⟨q0, q1, ⟨q2, q3, q4⟩, q5, q6⟩ := q
        simp only at g0 g1 g2 g3 g4 g5 g6
        obtain ⟨W2, hW2, hN, hBn, -⟩ := laid1 wr [Value.int IntKind.i64 q0, Value.int IntKind.i64 q1, Value.int IntKind.i64 q2, Value.int IntKind.i64 q3, Value.int IntKind.i64 q4, Value.int IntKind.i64 q5, Value.int IntKind.i64 q6] 32
        have n0 := hN.at 0 rfl
        have n1 := hN.at 1 rfl
        have n2 := hN.at 2 rfl
        have n3 := hN.at 3 rfl
        have n4 := hN.at 4 rfl
        have n5 := hN.at 5 rfl
        have n6 := hN.at 6 rfl
        have HN := Lib.hid hN
        have hs2 : base ≤ wr.heap.size := Nat.le_trans hbase hb.size
        have HB2 := Lib.hid (hb.trans (hBn.mono hs2))
        have HO2 := Lib.hid (HO.out.keep hBn)
        have HG2 := Lib.hid (grown_keep HG.out hBn)
        clear hN hBn HO
        go_wp2_with fail
        refine (hg W2 (q0, q1, (q2, q3, q4), q5, q6) HB2.out).mono ?_
        rintro e w3 ⟨rfl, hb3⟩
        have HO3 := Lib.hid (HO2.out.keep hb3)
        have HG3 := Lib.hid (grown_keep HG2.out hb3)
        have hN3 := HN.out.keep hb3
        have n0 := hN3.at 0 rfl
        have n1 := hN3.at 1 rfl
        have n2 := hN3.at 2 rfl
        have n3 := hN3.at 3 rfl
        have n4 := hN3.at 4 rfl
        have n5 := hN3.at 5 rfl
        have n6 := hN3.at 6 rfl
        have HB3 := Lib.hid (HB2.out.trans (hb3.mono (Nat.le_trans hbase HB2.out.size)))
        clear hb3 hN3 HO2 HB2 hW2 HN
        cases hr : f (q0, q1, (q2, q3, q4), q5, q6)
        · have HTH := Lib.hid (HO3.out.there i (by omega))
          have HSET : Hid (OwnE opC 7 32 (w3.setCells g (i * 7) [Value.int IntKind.i64 q0, Value.int IntKind.i64 q1, Value.int IntKind.i64 q2, Value.int IntKind.i64 q3, Value.int IntKind.i64 q4, Value.int IntKind.i64 q5, Value.int IntKind.i64 q6]) base (.slice (some ⟨g, 0, none⟩) (m.set i (q0, q1, (q2, q3, q4), q5, q6)).length c) (m.set i (q0, q1, (q2, q3, q4), q5, q6))) := HO3.out.set opC_len i (by omega) (q0, q1, (q2, q3, q4), q5, q6)
          have HGS : Hid (w.grownBy (w3.setCells g (i * 7) [Value.int IntKind.i64 q0, Value.int IntKind.i64 q1, Value.int IntKind.i64 q2, Value.int IntKind.i64 q3, Value.int IntKind.i64 q4, Value.int IntKind.i64 q5, Value.int IntKind.i64 q6]) (some g)) := grown_sets HG3.out _ _
          have HBS : Hid (Below base w (w3.setCells g (i * 7) [Value.int IntKind.i64 q0, Value.int IntKind.i64 q1, Value.int IntKind.i64 q2, Value.int IntKind.i64 q3, Value.int IntKind.i64 q4, Value.int IntKind.i64 q5, Value.int IntKind.i64 q6])) := below_sets HB3.out g hgb _ _
          go_wp2_with (with_reducible refine at_store 32 ?_; refine wpList_store_mid ?c1 32 (Operand.tmp 33) (Operand.tmp 32) ?c2 g (i * 7) #[Value.int IntKind.i64 q0, Value.int IntKind.i64 q1, Value.int IntKind.i64 q2, Value.int IntKind.i64 q3, Value.int IntKind.i64 q4, Value.int IntKind.i64 q5, Value.int IntKind.i64 q6] ?c3 ?c4 ?c5 ?c6 ?c7 ?_)
          case c1 => rfl
          case c2 => rfl
          case c3 => rfl
          case c4 => rfl
          case c5 => exact HTH.out
          case c6 => exact sizeOp
          case c7 => exact all_oneCell_toArray (opC_one (q0, q1, (q2, q3, q4), q5, q6))
          go_roundw
          case rel =>
            exact ⟨i + 1, j + 1, m.set i (q0, q1, (q2, q3, q4), q5, q6), by go_num, by go_num, HK2.out hr, HSET.out, HBS.out, HGS.out⟩
          case measure => simp [intOf]; omega
        · go_wp2
          go_roundw
          case rel => exact ⟨i, j + 1, m, rfl, by go_num, HK1.out hr, HO3.out, HB3.out, HG3.out⟩
          case measure => simp [intOf]; omega
      · have HE := Lib.hid (hK.done hlt)
        obtain ⟨vs, hvs, hrun⟩ := run_clear_ops wr 0 base g i (l.length - i) (c - i) c m hO (by omega) (by omega)
        have HO2 := Lib.hid (hO.cut opC_len i (by omega) vs (by rw [hvs, hml]))
        have HB2 := Lib.hid (below_sets hb g hgb vs (i * 7))
        have HG2 := Lib.hid (grown_sets HG.out vs (i * 7))
        have hlen : (m.take i).length = i := by simp; omega
        clear hO hK HO HK
        go_wp2
        go_ret
        refine ⟨_, rfl, ?_, HB2.out, HG2.out, rfl⟩
        rw [← HE.out]
        have := HO2.out
        rw [hlen] at this
        exact this
end Go.Proofs.YtijjiccgpobjmaeGreat

/- A region that draws its order, where a condition on the world holds until one operation (a store) has come up. -/
namespace Go.Proofs.YtijjiccgpobjmaeGreat
open Go.ChangeShapes Go.WideShapes Go.ChangeAt Go.RowKit

/-- does operation st wait for operation i (by whatever others)? -/
def waitsOn (md : Region.Mode) (ops : Array Oper) (i : Nat) : Nat → Nat → Bool
  | 0, _ => false
  | n + 1, st => ((ops[st]?).map fun o => o.after.any fun e => Region.binds md e && (e.on == i || waitsOn md ops i n e.on)).getD false
/-- whatever has come up: what it waited for has come up -/
def closedB (md : Region.Mode) (ops : Array Oper) (listed : Array Bool) : Bool :=
  (List.range ops.size).all fun j => !listed.getD j false || ((ops[j]?).map fun o => o.after.all fun e => !Region.binds md e || listed.getD e.on false).getD true

section
variable {P : Program} {ops : Array Oper} {Q : Exit → Act → World → Prop} {md : Region.Mode} {S : World → Prop}

theorem closed_at {listed : Array Bool} (h : closedB md ops listed = true) {j : Nat} {o : Oper} (ho : ops[j]? = some o) (hl : listed.getD j false = true) {e : Edge} (he : e ∈ o.after) (hb : Region.binds md e = true) : listed.getD e.on false = true := by
  have hj : j < ops.size := (Array.getElem?_eq_some_iff.1 ho).1
  unfold closedB at h
  rw [List.all_eq_true] at h
  have h1 := h j (List.mem_range.2 hj)
  rw [ho, hl] at h1
  simp only [Bool.not_true, Bool.false_or, Option.map_some, Option.getD_some, Array.all_eq_true_iff_forall_mem] at h1
  have h2 := h1 e he
  rw [hb] at h2
  simpa using h2
theorem closed_set {listed : Array Bool} (h : closedB md ops listed = true) {j : Nat} (hr : j ∈ Region.ready md ops listed) : closedB md ops (listed.setIfInBounds j true) = true := by
  obtain ⟨_, oj, hoj, hall⟩ := mem_ready.1 hr
  unfold closedB
  rw [List.all_eq_true]
  intro k hk
  cases ho : ops[k]? with
  | none => simp
  | some o =>
    cases hl : (listed.setIfInBounds j true).getD k false with
    | false => simp
    | true =>
      simp only [Bool.not_true, Bool.false_or, Option.map_some, Option.getD_some, Array.all_eq_true_iff_forall_mem]
      intro e he
      cases hb : Region.binds md e with
      | false => simp
      | true =>
        simp only [Bool.not_true, Bool.false_or]
        refine getD_set_true ?_
        by_cases hkj : j = k
        · subst hkj
          rw [hoj] at ho
          obtain rfl : oj = o := by simpa using ho
          exact hall e he hb
        · rw [getD_set_ne false hkj] at hl
          exact closed_at h ho hl he hb
theorem listed_of_ready {listed : Array Bool} {i : Nat} (h : closedB md ops listed = true) : ∀ (n st : Nat), waitsOn md ops i n st = true → (listed.getD st false = true ∨ st ∈ Region.ready md ops listed) → listed.getD i false = true := by
  intro n
  induction n with
  | zero => intro st hw; simp [waitsOn] at hw
  | succ n ih =>
    intro st hw hs
    unfold waitsOn at hw
    cases ho : ops[st]? with
    | none => rw [ho] at hw; simp at hw
    | some o =>
      rw [ho] at hw
      simp only [Option.map_some, Option.getD_some, Array.any_eq_true] at hw
      obtain ⟨k, hk, hw⟩ := hw
      simp only [Bool.and_eq_true, Bool.or_eq_true, beq_iff_eq] at hw
      obtain ⟨hb, hw⟩ := hw
      have hle : listed.getD (o.after[k]).on false = true := by
        rcases hs with hs | hs
        · exact closed_at h ho hs (Array.getElem_mem hk) hb
        · obtain ⟨_, o', ho', hall⟩ := mem_ready.1 hs
          rw [ho] at ho'
          obtain rfl : o = o' := by simpa using ho'
          exact hall _ (Array.getElem_mem hk) hb
      rcases hw with hw | hw
      · rw [← hw]; exact hle
      · exact ih _ hw (Or.inl hle)

/-- Whatever order is picked from here on, and S holds behind every operation, until operation st has come up. -/
def wpAnyU (P : Program) (md : Region.Mode) (ops : Array Oper) (Q : Exit → Act → World → Prop) (S : World → Prop) (st : Nat) : Nat → Array Bool → Act → World → Prop
  | 0, listed, a, w => Region.ready md ops listed = [] ∧ Q .normal a w
  | fuel + 1, listed, a, w =>
    (Region.ready md ops listed = [] → Q .normal a w) ∧
    ∀ i ∈ Region.ready md ops listed, wpOp P ops Q i (fun a' w' => ((i = st ∨ listed.getD st false = true) ∨ S w') ∧ wpAnyU P md ops Q S st fuel (listed.setIfInBounds i true) a' w') a w

theorem wpAny_of_until {st : Nat} : ∀ (fuel : Nat) (listed : Array Bool) (a : Act) (w : World), wpAnyU P md ops Q S st fuel listed a w → wpAny P md ops Q fuel listed a w
  | 0, _, _, _, h => h
  | fuel + 1, _, _, _, h => ⟨h.1, fun i hi => wpOp_mono (fun a' w' h' => wpAny_of_until fuel _ a' w' h'.2) (h.2 i hi)⟩

theorem wpAnyU_first {st n i : Nat} {oi : Oper} {v : Value} (hi : ops[i]? = some oi) (hsel : ∀ (j : Nat) (o : Oper) cs b, ops[j]? = some o → o.op ≠ .select cs b)
    (hQ : ∀ c a w, Q (.panic c) (a.put oi.dst v) w → Q (.panic c) a w) (hst : i ≠ st) (hwt : waitsOn md ops i n st = true) :
    ∀ (fuel : Nat) (listed : Array Bool) (a : Act) (w : World), closedB md ops listed = true →
      (∀ j oj, ops[j]? = some oj → j ≠ i → listed.getD j true = false → (∀ e ∈ oj.after, Region.binds md e = true → e.on ≠ i) → oi.apart ops oj = true) →
      i ∈ Region.ready md ops listed → YieldsIf P ops S oi v a → S w →
      wpAnyU P md ops Q S st fuel (listed.setIfInBounds i true) (a.put oi.dst v) w → wpAnyU P md ops Q S st (fuel + 1) listed a w := by
  intro fuel
  induction fuel with
  | zero =>
    intro listed a w _ _ hr hy hS H
    refine ⟨fun h => (by rw [h] at hr; cases hr), fun j hj => ?_⟩
    by_cases hji : j = i
    · subst hji; exact hy.wpOp hi hS ⟨Or.inr hS, H⟩
    · have := ready_mono hj hji
      rw [H.1] at this
      cases this
  | succ fuel ih =>
    intro listed a w hcl hfree hr hy hS H
    refine ⟨fun h => (by rw [h] at hr; cases hr), fun j hj => ?_⟩
    by_cases hji : j = i
    · subst hji; exact hy.wpOp hi hS ⟨Or.inr hS, H⟩
    · have hun : listed.getD i false = false := by
        have h0 := (mem_ready.1 hr).1
        rcases Nat.lt_or_ge i listed.size with h' | h'
        · simp [h'] at h0 ⊢; exact h0
        · simp [Array.getElem?_eq_none h'] at h0
      have hjs : j ≠ st := by
        intro e
        subst e
        have := listed_of_ready hcl n j hwt (Or.inr hj)
        rw [hun] at this
        cases this
      have hsu : listed.getD st false = false := by
        cases hq : listed.getD st false
        · rfl
        · have := listed_of_ready hcl n st hwt (Or.inl hq)
          rw [hun] at this
          cases this
      have h1 := H.2 j (ready_mono hj hji)
      obtain ⟨hjun, oj, hoj, hall⟩ := mem_ready.1 hj
      have hnot : ∀ e ∈ oj.after, Region.binds md e = true → e.on ≠ i := fun e he hb heq => by
        have h1 := hall e he hb
        rw [heq, hun] at h1
        cases h1
      have h2 := wpOp_putIf hoj (hfree j oj hoj hji hjun hnot) (fun cs b => hsel i oi cs b hi) (fun cs b => hsel j oj cs b hoj) hQ hy h1
      have hfree' : ∀ k ok, ops[k]? = some ok → k ≠ i → (listed.setIfInBounds j true).getD k true = false →
          (∀ e ∈ ok.after, Region.binds md e = true → e.on ≠ i) → oi.apart ops ok = true := fun k ok hk hki hun' hno => by
        refine hfree k ok hk hki ?_ hno
        by_cases hjk : j = k
        · subst hjk; exact hjun
        · rw [getD_set_ne true hjk] at hun'; exact hun'
      refine wpOp_mono (fun a' w' h3 => ?_) h2
      obtain ⟨h4, h5, h6⟩ := h3
      have hSw : S w' := by
        rcases h5 with (h5 | h5) | h5
        · exact absurd h5 hjs
        · rw [getD_set_ne false hst, hsu] at h5; cases h5
        · exact h5
      refine ⟨Or.inr hSw, ih (listed.setIfInBounds j true) a' w' (closed_set hcl hj) hfree' (ready_mono hr (Ne.symm hji)) h4 hSw ?_⟩
      rw [Array.setIfInBounds_comm _ _ hji]
      exact h6

theorem wpAnyU_take {st : Nat} (n : Nat) {i : Nat} {oi : Oper} {v : Value} {fuel : Nat} {listed : Array Bool} {a : Act} {w : World} (hi : ops[i]? = some oi)
    (hs : Region.noSelect ops = true) (hf : Region.free md ops listed i = true) (hr : (Region.ready md ops listed).contains i = true) (hcl : closedB md ops listed = true) (hst : i ≠ st) (hwt : waitsOn md ops i n st = true)
    (hQ : ∀ c a w, Q (.panic c) (a.put oi.dst v) w → Q (.panic c) a w) (hy : YieldsIf P ops S oi v a) (hS : S w)
    (h : wpAnyU P md ops Q S st fuel (listed.setIfInBounds i true) (a.put oi.dst v) w) : wpAnyU P md ops Q S st (fuel + 1) listed a w :=
  wpAnyU_first hi (Region.noSelect_spec hs) hQ hst hwt fuel listed a w hcl (Region.free_spec hi hf) (by simpa using hr) hy hS h

/-- each of those that may come up, S handed on -/
def AllReadyU (P : Program) (md : Region.Mode) (ops : Array Oper) (Q : Exit → Act → World → Prop) (S : World → Prop) (st : Nat) (fuel : Nat) (listed : Array Bool) (a : Act) (w : World) (rs : List Nat) : Prop :=
  ∀ i ∈ rs, wpOp P ops Q i (fun a' w' => ((i = st ∨ listed.getD st false = true) ∨ S w') ∧ wpAnyU P md ops Q S st fuel (listed.setIfInBounds i true) a' w') a w
theorem AllReadyU.nil {st fuel : Nat} {listed : Array Bool} {a : Act} {w : World} : AllReadyU P md ops Q S st fuel listed a w [] := fun _ h => by cases h
theorem AllReadyU.cons {st fuel : Nat} {listed : Array Bool} {a : Act} {w : World} {i : Nat} {o : Oper} {rs : List Nat} (ho : ops[i]? = some o)
    (h : ∀ K' : Act → World → Prop, Shut (∀ a w, S w → (S w → wpAnyU P md ops Q S st fuel (listed.setIfInBounds i true) a w) → K' a w) → if Region.wanted o (yielded ops a.tmps) = true then Oper.wp P o a w K' Q else K' (a.put o.dst undef) w)
    (hs : AllReadyU P md ops Q S st fuel listed a w rs) : AllReadyU P md ops Q S st fuel listed a w (i :: rs) := fun j hj => by
  rcases List.mem_cons.1 hj with rfl | hj
  · exact wpOp_step ho (fun K' hK => h K' (fun a w hS hW => hK a w ⟨Or.inr hS, hW hS⟩))
  · exact hs j hj
theorem wpAnyU_ready {st : Nat} {rs : List Nat} {fuel : Nat} {listed : Array Bool} {a : Act} {w : World} (hr : Region.ready md ops listed = rs) (hne : rs ≠ [])
    (h : AllReadyU P md ops Q S st fuel listed a w rs) : wpAnyU P md ops Q S st (fuel + 1) listed a w := ⟨fun h0 => absurd (hr ▸ h0) hne, hr ▸ h⟩
/-- the operation until which S held comes up, alone -/
theorem wpAnyU_last {st : Nat} {fuel : Nat} {listed : Array Bool} {a : Act} {w : World} {o : Oper} (hr : Region.ready md ops listed = [st]) (ho : ops[st]? = some o)
    (h : ∀ K' : Act → World → Prop, Shut (∀ a w, wpAnyU P md ops Q S st fuel (listed.setIfInBounds st true) a w → K' a w) → if Region.wanted o (yielded ops a.tmps) = true then Oper.wp P o a w K' Q else K' (a.put o.dst undef) w) : wpAnyU P md ops Q S st (fuel + 1) listed a w := by
  refine wpAnyU_ready hr (by simp) (fun j hj => ?_)
  rcases List.mem_cons.1 hj with rfl | hj
  · exact wpOp_step ho (fun K' hK => h K' (fun a w hW => hK a w ⟨Or.inl (Or.inl rfl), hW⟩))
  · cases hj
theorem wpAnyU_done {st : Nat} {listed : Array Bool} {a : Act} {w : World} (hr : Region.ready md ops listed = []) (h : Q .normal a w) :
    ∀ fuel, wpAnyU P md ops Q S st fuel listed a w
  | 0 => ⟨hr, h⟩
  | _ + 1 => ⟨fun _ => h, by rw [hr]; simp⟩
theorem wp_region_until (st : Nat) {id : Nat} {a : Act} {w : World} (hm : P.follows .mixedOrders = true) (hS : S w.drew)
    (h : S w.drew → wpAnyU P .any ops Q S st ops.size (Array.replicate ops.size false) a w.drew) : (Code.region id ops true).wp P Q a w :=
  wp_region_any hm (wpAny_of_until _ _ _ _ (h hS))
end

/-- a wanted operation is taken first -/
theorem takeU_yes {P : Program} {md : Region.Mode} {ops : Array Oper} {Q : Exit → Act → World → Prop} {S : World → Prop} {st : Nat} (n i d : Nat) {oi : Oper} {v : Value} {fuel : Nat} {listed : Array Bool} {a : Act} {w : World} (hi : ops[i]? = some oi) (hd : oi.dst = some d)
    (hs : Region.noSelect ops = true) (hf : Region.free md ops listed i = true) (hr : (Region.ready md ops listed).contains i = true) (hcl : closedB md ops listed = true) (hst : i ≠ st) (hwt : waitsOn md ops i n st = true)
    (hQ : ∀ c a w, Q (.panic c) (a.put oi.dst v) w → Q (.panic c) a w) (hw : Region.wanted oi (yielded ops a.tmps) = true) (hy : ∀ w, S w → (execOp a.eval oi).run P w = .ok (.value v) w) (hS : S w)
    (h : wpAnyU P md ops Q S st fuel (listed.setIfInBounds i true) (a.put (some d) v) w) : wpAnyU P md ops Q S st (fuel + 1) listed a w :=
  wpAnyU_take n hi hs hf hr hcl hst hwt hQ (Or.inl ⟨hw, hy⟩) hS (by rw [hd]; exact h)
end Go.Proofs.YtijjiccgpobjmaeGreat

/- Mail in memory: the blocks that its lists lie in; way.clone. -/
namespace Go.Proofs.YtijjiccgpobjmaeGreat
open Go.ChangeShapes Go.WideShapes Go.ChangeAt Go.RowKit
open Orangery (Pl Mv Vw Dl Ml noVw noDl noMl viewME deltaME ml1E mlsE mlE sameV sameD noOp viewE deltaE rootsOk check)

/-- its lists lie in blocks of D -/
def MlD (D : Nat → Prop) (x : Mm) : Prop :=
  InL D x.2.1.1.1 x.1.2.2.1.1 ∧ InL D x.2.1.2.1.1 x.1.2.2.1.2.1 ∧ InL D x.2.1.2.2.1 x.1.2.2.1.2.2 ∧ InL D x.2.2.1.1 x.1.2.2.2.1 ∧ InL D x.2.2.2.1.1 x.1.2.2.2.2.1 ∧ InL D x.2.2.2.2.1.1 x.1.2.2.2.2.2.1 ∧ InL D x.2.2.2.2.2.1 x.1.2.2.2.2.2.2
theorem MlD.imp {D D' : Nat → Prop} {x : Mm} (h : MlD D x) (hg : ∀ b, D b → D' b) : MlD D' x :=
  ⟨h.1.imp hg, h.2.1.imp hg, h.2.2.1.imp hg, h.2.2.2.1.imp hg, h.2.2.2.2.1.imp hg, h.2.2.2.2.2.1.imp hg, h.2.2.2.2.2.2.imp hg⟩
theorem MlD.and {D D' : Nat → Prop} {x : Mm} (h : MlD D x) (k : MlD D' x) : MlD (fun b => D b ∧ D' b) x :=
  ⟨h.1.and k.1, h.2.1.and k.2.1, h.2.2.1.and k.2.2.1, h.2.2.2.1.and k.2.2.2.1, h.2.2.2.2.1.and k.2.2.2.2.1, h.2.2.2.2.2.1.and k.2.2.2.2.2.1, h.2.2.2.2.2.2.and k.2.2.2.2.2.2⟩
theorem MlIn.isin {w : World} {x : Mm} (h : MlIn w x) : MlD (· < w.heap.size) x := ⟨h.lr.isin, h.lk.isin, h.lv.isin, h.lg.isin, h.lh.isin, h.lx.isin, h.ly.isin⟩
theorem SlI.apartL {w w' : World} {a : Option Addr} {l : List Int} {D : Nat → Prop} (h : SlI w a l) (d : InL D a l) (hs : w.heap.size ≤ w'.heap.size) (hk : ∀ b, D b → b < w.heap.size → w'.heap[b]? = w.heap[b]?) : SlI w' a l := by
  rcases d with rfl | d
  · exact Or.inl rfl
  · exact h.apartH hs (fun b off e hb => hk b (d b off e) hb)
theorem SlP.apartL {w w' : World} {a : Option Addr} {l : List Pl} {D : Nat → Prop} (h : SlP w a l) (d : InL D a l) (hs : w.heap.size ≤ w'.heap.size) (hk : ∀ b, D b → b < w.heap.size → w'.heap[b]? = w.heap[b]?) : SlP w' a l := by
  rcases d with rfl | d
  · exact Or.inl rfl
  · exact h.apartH hs (fun b off e hb => hk b (d b off e) hb)
theorem MlIn.apart {w w' : World} {x : Mm} {D : Nat → Prop} (h : MlIn w x) (d : MlD D x) (hs : w.heap.size ≤ w'.heap.size) (hk : ∀ b, D b → b < w.heap.size → w'.heap[b]? = w.heap[b]?) : MlIn w' x :=
  ⟨h.lr.apartL d.1 hs hk, h.lk.apartL d.2.1 hs hk, h.lv.apartL d.2.2.1 hs hk, h.lg.apartL d.2.2.2.1 hs hk, h.lh.apartL d.2.2.2.2.1 hs hk, h.lx.apartL d.2.2.2.2.2.1 hs hk, h.ly.apartL d.2.2.2.2.2.2 hs hk, h.few, h.nils⟩
theorem MlIn.sets {w : World} {x : Mm} {D : Nat → Prop} (h : MlIn w x) (d : MlD D x) (g : Nat) (hg : ∀ b, D b → b ≠ g) (us : List Value) (o : Nat) : MlIn (w.setCells g o us) x :=
  h.apart d (by simp [Go.Sort.size_setCells]) (fun b hb _ => sets_heap b g (hg b hb) us o w)
theorem MlIn.grown {w w' : World} {x : Mm} {D : Nat → Prop} {row : Option Nat} (h : MlIn w x) (d : MlD D x) (hg : w.grownBy w' row) (hne : ∀ b, D b → some b ≠ row) : MlIn w' x :=
  h.apart d hg.size (fun b hb hl => hg.block b hl (hne b hb))
/-- its lists are short -/
def MlFew (x : Ml) : Prop := x.2.2.1.1.length ≤ 1000 ∧ x.2.2.1.2.1.length ≤ 1000 ∧ x.2.2.1.2.2.length ≤ 1000 ∧ x.2.2.2.1.length ≤ 1000 ∧ x.2.2.2.2.1.length ≤ 1000 ∧ x.2.2.2.2.2.1.length ≤ 1000 ∧ x.2.2.2.2.2.2.length ≤ 1000

/-- what way.clone has made of its box when the view is cloned -/
def ClV (w : World) (B : Nat) (x : Mm) (W : World) : Prop :=
  ∃ p : Ad × Ad × Ad, Blk W B (mlC (x.1, p, x.2.2)) ∧ Blk W (B + 1) zeroMail ∧ SlI W p.1.1 x.1.2.2.1.1 ∧ SlP W p.2.1.1 x.1.2.2.1.2.1 ∧ SlP W p.2.2.1 x.1.2.2.1.2.2 ∧
    InL (B + 2 ≤ ·) p.1.1 x.1.2.2.1.1 ∧ InL (B + 2 ≤ ·) p.2.1.1 x.1.2.2.1.2.1 ∧ InL (B + 2 ≤ ·) p.2.2.1 x.1.2.2.1.2.2 ∧ (p.2.1.1 = none → p.2.1.2 = 0) ∧ (p.2.2.1 = none → p.2.2.2 = 0) ∧ Below w.heap.size w W
/-- .. and the delta -/
def ClD (w : World) (B : Nat) (x : Mm) (W : World) : Prop :=
  ∃ y : Mm, y.1 = x.1 ∧ Blk W B (mlC y) ∧ Blk W (B + 1) zeroMail ∧ MlIn W y ∧ MlD (B + 2 ≤ ·) y ∧ Below w.heap.size w W
theorem own_none {α : Type} {enc : α → List Value} {k : Nat} {e : TypeId} {w : World} {base : Nat} {a : Option Addr} {n c : Nat} {l : List α} (h : w.ownsRow base e k (.slice a n c) n (l.flatMap enc)) (ha : a = none) : c = 0 := by
  subst ha
  rcases h.2 with ⟨h', _⟩ | ⟨g, cap, cur, h', _⟩
  · simpa using (by simpa using h' : _ ∧ _).2
  · simp at h'
theorem ownS_none {w : World} {base : Nat} {a : Option Addr} {c : Nat} {l : List Pl} (h : OwnS w base (.slice a l.length c) l) (ha : a = none) : c = 0 := own_none h.row ha
theorem set3 (w : World) (g o : Nat) (u v x : Value) : w.setCells g o [u, v, x] = ((w.setCell ⟨g, o, none⟩ u).setCell ⟨g, o + 1, none⟩ v).setCell ⟨g, o + 1 + 1, none⟩ x := rfl
theorem set4 (w : World) (g o : Nat) (u v x y : Value) : w.setCells g o [u, v, x, y] = (((w.setCell ⟨g, o, none⟩ u).setCell ⟨g, o + 1, none⟩ v).setCell ⟨g, o + 1 + 1, none⟩ x).setCell ⟨g, o + 1 + 1 + 1, none⟩ y := rfl
theorem Blk.part {w : World} {b o : Nat} {vs us : List Value} (h : Blk w b vs) (ho : o + us.length ≤ vs.length) : w.there b o us.length := fun j hj =>
  ⟨by rw [h.at (o + j) (List.getElem?_eq_getElem (by omega))]; rfl, h.frz _⟩

end Go.Proofs.YtijjiccgpobjmaeGreat

/- delta.changed: some go, some stand so. -/
namespace Go.Proofs.YtijjiccgpobjmaeGreat
open Go.ChangeShapes Go.WideShapes Go.ChangeAt Go.RowKit
open Orangery (Pl scan hasB hasN appL cmpI)

theorem changed2_any (w : World) (p q : Pl) :
    Calls Tryz.prog 132 #[plV p, plV q] w fun e w' => e = .returned (.int .i64 (cmpI p.1 q.1)) ∧ ∃ n os, w' = Go.Sort.grow (w.drewN n) os := by
  obtain ⟨a0, a1, a2⟩ := p
  obtain ⟨b0, b1, b2⟩ := q
  go_enter Tryz.func132, Tryz.ntmps132
  go_wp2_with fail
  refine (compare_any _ a0 b0).mono ?_
  rintro e w1 ⟨rfl, rfl⟩
  go_wp2
  go_ret
  exact ⟨rfl, 0, _, by rw [Go.Sort.alloc_eq_grow, Go.Sort.alloc_eq_grow, Go.Sort.grow_grow]; rfl⟩

theorem sort_changed (w : World) (base : Nat) (sv : Value) (l : List Pl) (hl : l.length ≤ 1000) (hbase : base ≤ w.heap.size) (h : OwnS w base sv l) :
    Calls Tryz.prog 61 #[sv, .func (.func 132) #[] #[]] w
      fun e w' => e = .returned (.tuple #[]) ∧ ∃ l', l'.Perm l ∧ (l'.Pairwise fun p q => p.1 ≤ q.1) ∧ OwnS w' base sv l' ∧ Below base w w' ∧ w.grownBy w' sv.ownBlock := by
  refine (sort_gen 132 cmpN swoNode (Go.Proofs.enters_of Tryz.func132 (by kernel_rfl) rfl) (fun w p q => changed2_any w p q) w base sv l hl hbase h).mono ?_
  rintro e w' ⟨he, l', h1, h2, h3, h4, h5⟩
  exact ⟨he, l', h1, h2.imp (fun {p q} hh => by rw [cmpN_lt] at hh; omega), h3, h4, h5⟩

set_option maxHeartbeats 1000000 in
set_option maxRecDepth 100000 in
theorem changed1_any (w : World) (p : Pl) (b : Nat) (aG aH : Option Addr) (cG cH : Nat) (G : List Int) (H : List Pl) (hG : G.length ≤ maxLen) (hH : H.length ≤ maxLen) (h1 : SlI w aG G) (h2 : SlP w aH H) (hB : Blk w b [.slice aG G.length cG, .slice aH H.length cH]) :
    Calls Tryz.prog 130 #[plV p, .pointer (some ⟨b, 0, none⟩)] w fun e w' => e = .returned (.bool (hasB p.1 G || hasN H p.1)) ∧ Below w.heap.size w w' := by
  obtain ⟨p0, p1, p2⟩ := p
  obtain ⟨W0, hW, hN, hB0, hS⟩ := laid1 w [Value.int IntKind.i64 p0, Value.int IntKind.i64 p1, Value.int IntKind.i64 p2] 47
  have hX := hB.keep hB0
  have g1 := h1.below hB0
  have g2 := h2.below hB0
  have HB0 : Hid (Below w.heap.size w W0) := hB0
  have x0 := hX.at 0 rfl
  have x1 := hX.at 1 rfl
  have n0 := hN.at 0 rfl
  have HS : Hid ((hasB p0 G || hasN H p0) = (hasB p0 G || hasN H p0)) := rfl
  clear h1 h2 hB hB0 hS
  go_enter Tryz.func130, Tryz.ntmps130
  go_wp2_with fail
  clear hW
  refine (containsI_any W0 aG cG p0 G hG g1).mono ?_
  rintro e W0 ⟨rfl, rfl⟩
  cases hq : hasB p0 G
  · go_wp2_with fail
    refine (has_any W0 aH cH H p0 hH g2).mono ?_
    rintro e w2 ⟨rfl, hb2⟩
    have HB2 : Hid (Below w.heap.size w w2) := HB0.out.trans (hb2.mono HB0.out.size)
    clear x0 x1 n0 hX hN hb2
    go_wp2
    go_ret
    exact ⟨ret_bool (by show _ = (hasB p0 G || _); rw [hq]; rfl), HB2.out⟩
  · clear x0 x1 n0 hX hN
    go_wp2
    go_ret
    exact ⟨ret_bool (by show _ = (hasB p0 G || _); rw [hq]; rfl), HB0.out⟩

set_option maxHeartbeats 2000000 in
set_option maxRecDepth 100000 in
theorem changed_any (w : World) (a aG aH : Option Addr) (c cG cH : Nat) (l : List Pl) (G : List Int) (H : List Pl) (hl : scan 0 l = 0) (hG : G.length ≤ maxLen) (hH : scan 0 H = 0) (hc : aH = none → cH = 0) (h0 : SlP w a l) (h1 : SlI w aG G) (h2 : SlP w aH H) :
    Calls Tryz.prog 112 #[.slice a l.length c, .agg #[.slice aG G.length cG, .slice aH H.length cH]] w
      fun e w' => ∃ v, e = .returned v ∧ OwnS w' w.heap.size v (appL l G H) ∧ Below w.heap.size w w' := by
  obtain ⟨i0, hi, hz0, hz1, hz2⟩ := info_parts infoPlace
  have hKl := Orangery.scan_small hl
  have hWl := Orangery.scan_small hH
  obtain ⟨W0, hW0, hX, hB, hS⟩ := laid1 w [Value.slice aG G.length cG, Value.slice aH H.length cH] 136
  have hS1 : w.heap.size < W0.heap.size := by omega
  clear hS
  have hP1 := h0.below hB
  have HPG : Hid (SlI w aG G) := h1
  have HPH : Hid (SlP w aH H) := h2
  have HB : Hid (Below w.heap.size w W0) := hB
  clear h0 h1 h2
  go_enter Tryz.func112, Tryz.ntmps112
  go_wp2_with fail
  clear hW0
  refine (clone_any W0 a c l (by omega) hP1).mono ?_
  rintro e w1 ⟨v1, rfl, hO1, hb1⟩
  have hX1 := hX.keep hb1
  have HB1 : Hid (Below w.heap.size w w1) := HB.out.trans (hb1.mono HB.out.size)
  clear hX hB hP1 HB
  go_wp2_with fail
  refine (delete_any w1 W0.heap.size v1 l 130 (.pointer (some ⟨w.heap.size, 0, none⟩)) (fun p => hasB p.1 G || hasN H p.1) (by omega) hO1 hb1.size (Go.Proofs.enters_of Tryz.func130 (by kernel_rfl) rfl) ?_).mono ?_
  · intro V p hV
    have hbV := HB1.out.trans (hV.mono (by omega))
    exact changed1_any V p w.heap.size aG aH cG cH G H hG (by unfold maxLen; omega) (HPG.out.below hbV) (HPH.out.below hbV) (hX1.below hV (by omega))
  rintro e w2 ⟨v2, rfl, hO2, hb2⟩
  have hX2 := hX1.below hb2 (by omega)
  have HB2 : Hid (Below w.heap.size w w2) := HB1.out.trans (hb2.mono (by omega))
  have hsz2 : W0.heap.size ≤ w2.heap.size := Nat.le_trans hb1.size hb2.size
  have hO2r := hO2.row
  have hP2 := HPH.out.below HB2.out
  generalize hM : (l.filter fun p => !(hasB p.1 G || hasN H p.1)) = M at *
  have hMl : M.length ≤ 15 := by rw [← hM]; exact Nat.le_trans (List.length_filter_le _ _) hKl
  have HU : Hid (∀ l', l'.Perm (M ++ H) → (l'.Pairwise fun p q => p.1 ≤ q.1) → l' = appL l G H) := fun l' h1 h2 => Orangery.app_unique l G H l' hl hH (by rw [hM]; exact h1) h2
  clear hO1 hb1 hX1 HB1 hb2 hM
  have y1 := hX2.at 1 rfl
  clear hX2
  have FIN : Hid (∀ (v3 : Value) (w3 : World), OwnS w3 W0.heap.size v3 (M ++ H) → W0.heap.size ≤ w3.heap.size → Below w.heap.size w w3 →
      Calls Tryz.prog 61 #[v3, .func (.func 132) #[] #[]] w3 fun e w' => e = .returned (.tuple #[]) ∧ OwnS w' w.heap.size v3 (appL l G H) ∧ Below w.heap.size w w') := by
    intro v3 w3 h1 h3 h4
    refine (sort_changed w3 W0.heap.size v3 (M ++ H) (by simp; omega) h3 h1).mono ?_
    rintro e w4 ⟨he, l', hp, hs, hO, hb, _⟩
    have := HU.out l' hp hs
    subst this
    exact ⟨he, hO.mono (by omega), h4.trans (hb.mono (by omega))⟩
  clear HU
  cases aH with
  | none =>
    have e1 := hP2.none_nil
    have e2 := hc rfl
    have y1' : w2.cell? ⟨w.heap.size, 1, none⟩ = some (.slice none 0 0) := by rw [y1, e1, e2]; rfl
    have E3 : Hid (M ++ H = M) := by show _ = _; rw [e1, List.append_nil]
    clear y1 e1 e2
    go_wp2_with (at_builtin; refine wpList_append_own_none rfl _ _ 24 rfl W0.heap.size 47 i0 3 Tryz.underlying24 hi _ M.length (M.flatMap encPl) rfl hO2r rfl ?_)
    refine (FIN.out v2 w2 (by rw [E3.out]; exact hO2) hsz2 HB2.out).mono ?_
    rintro e w4 ⟨rfl, hO4, hb4⟩
    have HO4 : Hid (OwnS w4 w.heap.size v2 (appL l G H)) := hO4
    clear hO4 FIN y1' hO2 hO2r
    go_wp2
    go_ret
    exact ⟨_, rfl, HO4.out, hb4⟩
  | some ad =>
    have HN : Hid (∀ j u, (H.flatMap encPl)[j]? = some u → w2.cell? (ad.add j) = some u) := hP2.news
    clear hP2
    go_wp2_with (at_builtin; refine wpList_append_own _ rfl _ _ 24 rfl W0.heap.size 47 i0 _ 3 24 Tryz.underlying24 hi hz0 hz1 hz2 rfl (by decide) _ _ _ rfl hO2r ad H.length cH (H.flatMap encPl) rfl (flatE_len encPl_len H) ?c1 ?c2 ?c3 ?c4 ?c5 ?_)
    case c1 => exact HN.out
    case c2 => exact flat_one H
    case c3 => unfold maxLen; omega
    case c4 => omega
    case c5 => exact hsz2
    intro v3 w3 hown' hgrow _
    have hlo : ∀ g, v2.ownBlock = some g → W0.heap.size ≤ g := fun g hg => (World.ownsRow.lt hO2r g hg).1
    have hO3 : OwnS w3 W0.heap.size v3 (M ++ H) := own_pls (by rw [List.length_append, List.flatMap_append]; exact hown')
    have hb3 : Below W0.heap.size w2 w3 := (Below.refl _ w2).grown hgrow hsz2 hlo
    have hB3 : Below w.heap.size w w3 := HB2.out.trans (hb3.mono (by omega))
    have hsz3 : W0.heap.size ≤ w3.heap.size := Nat.le_trans hsz2 hb3.size
    clear hown' hgrow hlo hb3 hO2r HN HB2 y1 hO2
    go_wp2_with fail
    refine (FIN.out v3 w3 hO3 hsz3 hB3).mono ?_
    clear hO3 hsz3 hB3
    rintro e w4 ⟨rfl, hO4, hb4⟩
    have HO4 : Hid (OwnS w4 w.heap.size v3 (appL l G H)) := hO4
    clear hO4 FIN
    go_wp2
    go_ret
    exact ⟨_, rfl, HO4.out, hb4⟩
end Go.Proofs.YtijjiccgpobjmaeGreat

