/- 8 texts of the proof: note.join. Slices of bytes: how they lie, are owned, are read as texts; the value of a disk. Plain facts on lines of records: what a disk holds. Plain facts on disks: checked, put on, synced, crashed, recovered; what was synced is there. Plain facts on lines: strings.SplitAfter at a line feed, piece by piece. bytes.Cut is the library's, by its own laws. bytes.Equal, bytes.Clone, bytes.Cut at a lin -/
import Derived.Deep.RegionHeld3
import Derived.Shelf.Bytes.SlEqualAll
import Derived.Shelf.Bytes.SlCut
import Derived.Test.YtmlodnamknielacDoorProg
import Derived.Test.YtmlodnamknielacDoorP05
import Derived.Test.YtmlodnamknielacDoorP04
import Derived.Test.YtmlodnamknielacDoorP03
/- note.join. -/
namespace Go.Proofs.YtmlodnamknielacDoor
open Go.ChangeShapes Go.WideShapes Go.ChangeAt Go.RowKit
open Orangery (Mv Rc noRec noOp recOf wOp wLife wRoots)

/-- an address from block B on -/
def From (B : Nat) (a : Option Addr) : Prop := ∀ b off, a = some ⟨b, off, none⟩ → B ≤ b
theorem from_none {B : Nat} : From B none := fun _ _ e => by simp at e
theorem from_mono {B B' : Nat} {a : Option Addr} (h : From B a) (hb : B' ≤ B) : From B' a := fun b off e => Nat.le_trans hb (h b off e)
theorem from_own {W : World} {base : Nat} {a : Option Addr} {n c : Nat} {l : List Int} (h : OwnI W base (.slice a n c) l) : From base a := by
  rcases h.2 with ⟨e2, _⟩ | ⟨g, cap', cur, e2, hg, _⟩
  · intro b off e
    subst e
    simp at e2
  · intro b off e
    subst e
    simp at e2
    omega
theorem OwnI.caps {w : World} {base : Nat} {v : Value} {l : List Int} (h : OwnI w base v l) : ∃ a cap, v = .slice a l.length cap ∧ SlI w a l ∧ l.length ≤ cap ∧ cap ≤ maxLen := by
  obtain ⟨a, cap, e, hs⟩ := h.val
  refine ⟨a, cap, e, hs, ?_⟩
  rcases h.2 with ⟨e2, hn⟩ | ⟨g, cap', cur, e2, _, _, hn, hm, _⟩
  · rw [e] at e2
    obtain ⟨_, h2, h3⟩ : a = none ∧ l.length = 0 ∧ cap = 0 := by simpa using e2
    omega
  · rw [e] at e2
    obtain ⟨_, rfl⟩ : a = _ ∧ cap = cap' := by simpa using e2
    exact ⟨hn, hm⟩

theorem SlI.sets {w : World} {a : Option Addr} {l : List Int} {B g : Nat} (h : SlI w a l) (hf : From B a) (hg : g < B) : ∀ (us : List Value) (o : Nat), SlI (w.setCells g o us) a l := by
  intro us
  induction us generalizing w with
  | nil => intro o; exact h
  | cons u us ih =>
    intro o
    refine ih (w := w.setCell ⟨g, o, none⟩ u) ?_ (o + 1)
    rcases h with h | ⟨b, off, e, hlt, hp⟩
    · exact Or.inl h
    · refine Or.inr ⟨b, off, e, by simpa using hlt, fun i hi => ?_⟩
      have := hf b off e
      rw [World.cell?_setCell_other _ _ _ _ (by simp <;> omega)]
      exact hp i hi

/-- an address in a row of ints -/
def TagI (w : World) (a : Option Addr) : Prop := ∀ b off, a = some ⟨b, off, none⟩ → ∃ cs fr, w.heap[b]? = some (.cells cs 3 fr)
theorem tag_none (w : World) : TagI w none := fun _ _ e => by simp at e
theorem TagI.keep {w w' : World} {a : Option Addr} (h : TagI w a) (hb : Below w.heap.size w w') : TagI w' a := by
  intro b off e
  obtain ⟨cs, fr, hc⟩ := h b off e
  exact ⟨cs, fr, by rw [hb.block b (blk_lt hc)]; exact hc⟩
theorem tag_own {W : World} {base : Nat} {a : Option Addr} {n c : Nat} {l : List Int} (h : OwnI W base (.slice a n c) l) : TagI W a := by
  rcases h.2 with ⟨e2, _⟩ | ⟨g, cap', cur, e2, hg, hh, _⟩
  · intro b off e
    subst e
    simp at e2
  · intro b off e
    subst e
    simp at e2
    obtain ⟨⟨rfl, _⟩, _⟩ := e2
    exact ⟨cur, (0, 0), hh⟩
theorem TagI.sets {w : World} {a : Option Addr} {B g : Nat} (h : TagI w a) (hf : From B a) (hg : g < B) : ∀ (us : List Value) (o : Nat), TagI (w.setCells g o us) a := by
  intro us
  induction us generalizing w with
  | nil => intro o; exact h
  | cons u us ih =>
    intro o
    refine ih (w := w.setCell ⟨g, o, none⟩ u) ?_ (o + 1)
    intro b off e
    obtain ⟨cs, fr, hc⟩ := h b off e
    have := hf b off e
    exact ⟨cs, fr, by rw [heap_setCell_other w ⟨g, o, none⟩ b u (by show b ≠ g; omega)]; exact hc⟩

/-- the value of a record whose roots lie in memory, from block B on, in a row of ints -/
def RecIs (B : Nat) (w : World) (v : Value) (r : Rc) : Prop := ∃ a c, v = rcV r.1 r.2.1 r.2.2.1 (.slice a r.2.2.2.1.length c) r.2.2.2.2 ∧ SlI w a r.2.2.2.1 ∧ From B a ∧ (a = none → c = 0) ∧ TagI w a
theorem RecIs.keep {B : Nat} {w w' : World} {v : Value} {r : Rc} (h : RecIs B w v r) (hb : Below w.heap.size w w') : RecIs B w' v r := by
  obtain ⟨a, c, e, hs, hf, hn, ht⟩ := h
  exact ⟨a, c, e, hs.below hb, hf, hn, ht.keep hb⟩
theorem recIs_none (B : Nat) (w : World) : RecIs B w (rcV 0 0 0 (.slice none 0 0) noOp) noRec := ⟨none, 0, rfl, SlI.nil, from_none, fun _ => rfl, tag_none w⟩
theorem sizeRec : (Tryd.prog.info? 28).map (·.size) = some 11 := by kernel_rfl

theorem recOf_op {t : List UInt8} {N : List Int} (h1 : t = wOp) (h2 : N.length = 7) : recOf t N = some (1, 0, 0, [], (N.getD 0 0, N.getD 1 0, (N.getD 2 0, N.getD 3 0, N.getD 4 0), N.getD 5 0, N.getD 6 0)) := by
  unfold recOf; rw [if_pos ⟨h1, h2⟩]
theorem recOf_life {t : List UInt8} {N : List Int} (h1 : t = wLife) (h2 : N.length = 2) : recOf t N = some (2, N.getD 0 0, N.getD 1 0, [], noOp) := by
  unfold recOf; rw [if_neg (by rw [h2]; omega), if_pos ⟨h1, h2⟩]
theorem recOf_roots {t : List UInt8} {N : List Int} (h1 : t = wRoots) (h2 : 1 ≤ N.length) : recOf t N = some (3, N.getD 0 0, 0, N.tail, noOp) := by
  unfold recOf; rw [if_neg (by intro h; rw [h1] at h; exact absurd h.1 (by decide)), if_neg (by intro h; rw [h1] at h; exact absurd h.1 (by decide)), if_pos ⟨h1, h2⟩]
theorem recOf_none {t : List UInt8} {N : List Int} (h1 : ¬ (t = wOp ∧ N.length = 7)) (h2 : ¬ (t = wLife ∧ N.length = 2)) (h3 : ¬ (t = wRoots ∧ 1 ≤ N.length)) : recOf t N = none := by
  unfold recOf; rw [if_neg h1, if_neg h2, if_neg h3]

set_option maxHeartbeats 2000000 in
set_option maxRecDepth 100000 in
theorem njoin_op (w : World) (a : Option Addr) (c : Nat) (n0 n1 n2 n3 n4 n5 n6 : Int) (h : SlI w a [n0, n1, n2, n3, n4, n5, n6]) :
    Calls Tryd.prog 30 #[txV wOp, .slice a 7 c] w
      fun e w' => e = .returned (.tuple #[rcV 1 0 0 (.slice none 0 0) (n0, n1, (n2, n3, n4), n5, n6), .bool true]) ∧ Below w.heap.size w w' := by
  rcases h with h | ⟨b, off, rfl, hlt, hp⟩
  · simp at h
  have x0 : w.cell? ⟨b, off, none⟩ = some (.int .i64 n0) := hp 0 (by simp)
  have x1 : w.cell? ⟨b, off + 1, none⟩ = some (.int .i64 n1) := hp 1 (by simp)
  have x2 : w.cell? ⟨b, off + 2, none⟩ = some (.int .i64 n2) := hp 2 (by simp)
  have x3 : w.cell? ⟨b, off + 3, none⟩ = some (.int .i64 n3) := hp 3 (by simp)
  have x4 : w.cell? ⟨b, off + 4, none⟩ = some (.int .i64 n4) := hp 4 (by simp)
  have x5 : w.cell? ⟨b, off + 5, none⟩ = some (.int .i64 n5) := hp 5 (by simp)
  have x6 : w.cell? ⟨b, off + 6, none⟩ = some (.int .i64 n6) := hp 6 (by simp)
  have hne : ¬ w.heap.size = b := by omega
  clear hp
  go_enter Tryd.func30, Tryd.ntmps30
  go_wp2_with fail
  go_region_held3 (fun w' => w'.cell? ⟨b, off, none⟩ = some (.int .i64 n0) ∧ w'.cell? ⟨b, off + 1, none⟩ = some (.int .i64 n1) ∧ w'.cell? ⟨b, off + 2, none⟩ = some (.int .i64 n2) ∧ w'.cell? ⟨b, off + 3, none⟩ = some (.int .i64 n3) ∧ w'.cell? ⟨b, off + 4, none⟩ = some (.int .i64 n4) ∧ w'.cell? ⟨b, off + 5, none⟩ = some (.int .i64 n5) ∧ w'.cell? ⟨b, off + 6, none⟩ = some (.int .i64 n6)) (go_keep) (fail)
  go_wp2
  refine ret_cell_tmp Tryd.results30 rfl rfl (((Blk.new w [.int .i64 1, .int .i64 0, .int .i64 0, .slice none 0 0, .int .i64 n0, .int .i64 n1, .int .i64 n2, .int .i64 n3, .int .i64 n4, .int .i64 n5, .int .i64 n6] 28).alloc _).drew.load Tryd.underlying28 rfl sizeRec) ?_
  exact ⟨rfl, (Go.Joins.below_alloc2 w _ _).drew⟩

set_option maxHeartbeats 2000000 in
set_option maxRecDepth 100000 in
theorem njoin_life (w : World) (a : Option Addr) (c : Nat) (n0 n1 : Int) (h : SlI w a [n0, n1]) :
    Calls Tryd.prog 30 #[txV wLife, .slice a 2 c] w
      fun e w' => e = .returned (.tuple #[rcV 2 n0 n1 (.slice none 0 0) noOp, .bool true]) ∧ Below w.heap.size w w' := by
  rcases h with h | ⟨b, off, rfl, hlt, hp⟩
  · simp at h
  have x0 : w.cell? ⟨b, off, none⟩ = some (.int .i64 n0) := hp 0 (by simp)
  have x1 : w.cell? ⟨b, off + 1, none⟩ = some (.int .i64 n1) := hp 1 (by simp)
  have hne : ¬ w.heap.size = b := by omega
  clear hp
  go_enter Tryd.func30, Tryd.ntmps30
  go_wp2_with fail
  go_region_held3 (fun w' => w'.cell? ⟨b, off, none⟩ = some (.int .i64 n0) ∧ w'.cell? ⟨b, off + 1, none⟩ = some (.int .i64 n1)) (go_keep) (fail)
  go_wp2
  refine ret_cell_tmp Tryd.results30 rfl rfl ((Blk.new w [.int .i64 2, .int .i64 n0, .int .i64 n1, .slice none 0 0, .int .i64 0, .int .i64 0, .int .i64 0, .int .i64 0, .int .i64 0, .int .i64 0, .int .i64 0] 28).drew.load Tryd.underlying28 rfl sizeRec) ?_
  exact ⟨rfl, (Go.Joins.below_alloc1 w _).drew⟩

set_option maxHeartbeats 2000000 in
set_option maxRecDepth 100000 in
theorem njoin_roots (w : World) (a : Option Addr) (c : Nat) (n0 : Int) (R : List Int) (hl : R.length ≤ 60000) (hc : R.length + 1 ≤ c) (hc2 : c ≤ maxLen) (h : SlI w a (n0 :: R)) :
    Calls Tryd.prog 30 #[txV wRoots, .slice a (R.length + 1) c] w
      fun e w' => (∃ a' c', e = .returned (.tuple #[rcV 3 n0 0 (.slice a' R.length c') noOp, .bool true]) ∧ SlI w' a' R ∧ (∀ B, From B a → From B a') ∧ (a' = none → c' = 0) ∧ (TagI w a → TagI w' a')) ∧ Below w.heap.size w w' := by
  rcases h with h | ⟨b, off, rfl, hlt, hp⟩
  · simp at h
  have x0 : w.cell? ⟨b, off, none⟩ = some (.int .i64 n0) := hp 0 (by simp)
  have hne : ¬ w.heap.size = b := by omega
  have hc3 : c ≤ 9223372036854775807 := hc2
  have HP : Hid (IntsAt w b off (n0 :: R)) := hp
  clear hp hc2
  have d1 : (1 : Int) ≤ (R.length : Int) + 1 := by omega
  have d2 : decide ((R.length : Int) + 1 ≥ 1) = true := by simp; omega
  by_cases h1 : c = 1
  · obtain rfl : R = [] := by cases R with
      | nil => rfl
      | cons x l => simp at hc; omega
    subst h1
    go_enter Tryd.func30, Tryd.ntmps30
    go_wp2_with fail
    go_region_held3 (fun w' => w'.cell? ⟨b, off, none⟩ = some (.int .i64 n0)) (go_keep) (fail)
    go_wp2
    refine ret_cell_tmp Tryd.results30 rfl rfl ((Blk.new w [.int .i64 3, .int .i64 n0, .int .i64 0, .slice (some ⟨b, off, none⟩) 0 0, .int .i64 0, .int .i64 0, .int .i64 0, .int .i64 0, .int .i64 0, .int .i64 0, .int .i64 0] 28).drew.load Tryd.underlying28 rfl sizeRec) ?_
    exact ⟨⟨_, _, rfl, SlI.nil, fun _ h => h, fun e => by simp at e, fun ht => ht.keep (Go.Joins.below_alloc1 w _).drew⟩, (Go.Joins.below_alloc1 w _).drew⟩
  · have d3 : 2 ≤ c := by omega
    have d4 : ¬ c - 1 = 0 := by omega
    go_enter Tryd.func30, Tryd.ntmps30
    go_wp2_with fail
    go_region_held3 (fun w' => w'.cell? ⟨b, off, none⟩ = some (.int .i64 n0)) (go_keep) (fail)
    go_wp2
    have hS : SlI ((w.alloc (Obj.cells [Value.int IntKind.i64 3, .int .i64 n0, .int .i64 0, .slice (some ⟨b, off + 1, none⟩) R.length (c - 1), .int .i64 0, .int .i64 0, .int .i64 0, .int .i64 0, .int .i64 0, .int .i64 0, .int .i64 0].toArray 28)).drew) (some ⟨b, off + 1, none⟩) R := by
      refine SlI.below (w := w) (Or.inr ⟨b, off + 1, rfl, hlt, ?_⟩) (Go.Joins.below_alloc1 w _).drew
      intro i hi
      have := HP.out (i + 1) (by simp; omega)
      rw [show off + 1 + i = off + (i + 1) by omega]
      simpa using this
    refine ret_cell_tmp Tryd.results30 rfl rfl ((Blk.new w [.int .i64 3, .int .i64 n0, .int .i64 0, .slice (some ⟨b, off + 1, none⟩) R.length (c - 1), .int .i64 0, .int .i64 0, .int .i64 0, .int .i64 0, .int .i64 0, .int .i64 0, .int .i64 0] 28).drew.load Tryd.underlying28 rfl sizeRec) ?_
    exact ⟨⟨_, _, rfl, hS, fun B hB b' off' e => hB b' off (by simp at e; rw [e.1]), fun e => by simp at e, fun ht b' off' e => (ht.keep (Go.Joins.below_alloc1 w _).drew) b' off (by simp at e; rw [e.1])⟩, (Go.Joins.below_alloc1 w _).drew⟩

set_option maxHeartbeats 2000000 in
theorem njoin_none (w : World) (t : List UInt8) (a : Option Addr) (c : Nat) (N : List Int) (hl : N.length ≤ 60001) (h1 : ¬ (t = wOp ∧ N.length = 7)) (h2 : ¬ (t = wLife ∧ N.length = 2)) (h3 : ¬ (t = wRoots ∧ 1 ≤ N.length)) :
    Calls Tryd.prog 30 #[txV t, .slice a N.length c] w
      fun e w' => e = .returned (.tuple #[rcV 0 0 0 (.slice none 0 0) noOp, .bool false]) ∧ Below w.heap.size w w' := by
  have fin : ∀ W, W = w.alloc (Obj.cells [Value.int IntKind.i64 0, .int .i64 0, .int .i64 0, .slice none 0 0, .int .i64 0, .int .i64 0, .int .i64 0, .int .i64 0, .int .i64 0, .int .i64 0, .int .i64 0].toArray 28) → Below w.heap.size w W ∧ Blk W w.heap.size [Value.int IntKind.i64 0, .int .i64 0, .int .i64 0, .slice none 0 0, .int .i64 0, .int .i64 0, .int .i64 0, .int .i64 0, .int .i64 0, .int .i64 0, .int .i64 0] :=
    fun W e => by subst e; exact ⟨Go.Joins.below_alloc1 w _, Blk.new w _ 28⟩
  have HF := Lib.hid fin
  clear fin
  by_cases e1 : t = wOp
  · have d1 : ((N.length : Int) == 7) = false := by
      have : N.length ≠ 7 := fun e => h1 ⟨e1, e⟩
      simp; omega
    subst e1
    clear h1 h2 h3
    go_enter Tryd.func30, Tryd.ntmps30
    go_wp2
    obtain ⟨f1, f2⟩ := HF.out _ rfl
    refine ret_cell_tmp Tryd.results30 rfl rfl (f2.load Tryd.underlying28 rfl sizeRec) ⟨rfl, f1⟩
  by_cases e2 : t = wLife
  · have d1 : ((N.length : Int) == 2) = false := by
      have : N.length ≠ 2 := fun e => h2 ⟨e2, e⟩
      simp; omega
    subst e2
    clear h1 h2 h3
    go_enter Tryd.func30, Tryd.ntmps30
    go_wp2
    obtain ⟨f1, f2⟩ := HF.out _ rfl
    refine ret_cell_tmp Tryd.results30 rfl rfl (f2.load Tryd.underlying28 rfl sizeRec) ⟨rfl, f1⟩
  by_cases e3 : t = wRoots
  · have d0 : N.length = 0 := by
      have : ¬ 1 ≤ N.length := fun e => h3 ⟨e3, e⟩
      omega
    obtain rfl := List.length_eq_zero_iff.1 d0
    subst e3
    clear h1 h2 h3 d0
    go_enter Tryd.func30, Tryd.ntmps30
    go_wp2
    obtain ⟨f1, f2⟩ := HF.out _ rfl
    refine ret_cell_tmp Tryd.results30 rfl rfl (f2.load Tryd.underlying28 rfl sizeRec) ⟨rfl, f1⟩
  have d1 : (t == [111, 112]) = false := by simpa [wOp] using e1
  have d2 : (t == [108, 105, 102, 101]) = false := by simpa [wLife] using e2
  have d3 : (t == [114, 111, 111, 116, 115]) = false := by simpa [wRoots] using e3
  clear h1 h2 h3 e1 e2 e3
  go_enter Tryd.func30, Tryd.ntmps30
  go_wp2
  obtain ⟨f1, f2⟩ := HF.out _ rfl
  refine ret_cell_tmp Tryd.results30 rfl rfl (f2.load Tryd.underlying28 rfl sizeRec) ⟨rfl, f1⟩

theorem njoin_any (w : World) (B : Nat) (t : List UInt8) (a : Option Addr) (c : Nat) (N : List Int) (hf : From B a) (ht : TagI w a) (hl : N.length ≤ 60001) (hc : N.length ≤ c) (hc2 : c ≤ maxLen) (h : SlI w a N) :
    Calls Tryd.prog 30 #[txV t, .slice a N.length c] w
      fun e w' => (∃ v, e = .returned (.tuple #[v, .bool (recOf t N).isSome]) ∧ RecIs B w' v ((recOf t N).getD noRec)) ∧ Below w.heap.size w w' := by
  by_cases h1 : t = wOp ∧ N.length = 7
  · rw [recOf_op h1.1 h1.2]
    obtain ⟨rfl, h2⟩ := h1
    match N, h2 with
    | [n0, n1, n2, n3, n4, n5, n6], _ =>
      refine (njoin_op w a c n0 n1 n2 n3 n4 n5 n6 h).mono ?_
      rintro e w' ⟨rfl, hb⟩
      exact ⟨⟨_, rfl, none, 0, rfl, SlI.nil, from_none, fun _ => rfl, tag_none _⟩, hb⟩
  by_cases h2 : t = wLife ∧ N.length = 2
  · rw [recOf_life h2.1 h2.2]
    obtain ⟨rfl, h3⟩ := h2
    match N, h3 with
    | [n0, n1], _ =>
      refine (njoin_life w a c n0 n1 h).mono ?_
      rintro e w' ⟨rfl, hb⟩
      exact ⟨⟨_, rfl, none, 0, rfl, SlI.nil, from_none, fun _ => rfl, tag_none _⟩, hb⟩
  by_cases h3 : t = wRoots ∧ 1 ≤ N.length
  · rw [recOf_roots h3.1 h3.2]
    obtain ⟨rfl, h4⟩ := h3
    match N, h4 with
    | n0 :: R, _ =>
      refine (njoin_roots w a c n0 R (by simp at hl; omega) (by simpa using hc) hc2 h).mono ?_
      rintro e w' ⟨⟨a', c', rfl, hs, hg, hn, hk⟩, hb⟩
      exact ⟨⟨_, rfl, a', c', rfl, hs, hg B hf, hn, hk ht⟩, hb⟩
  rw [recOf_none h1 h2 h3]
  refine (njoin_none w t a c N hl h1 h2 h3).mono ?_
  rintro e w' ⟨rfl, hb⟩
  exact ⟨⟨_, rfl, recIs_none B w'⟩, hb⟩
end Go.Proofs.YtmlodnamknielacDoor

/- Slices of bytes: how they lie, are owned, are read as texts; the value of a disk. -/
namespace Go.Proofs.YtmlodnamknielacDoor
open Go.ChangeShapes Go.WideShapes Go.ChangeAt Go.RowKit

/-- the cell of a byte -/
def btC (x : UInt8) : List Value := [.int .u8 x.toNat]
theorem btC_len (x : UInt8) : (btC x).length = 1 := rfl
theorem btC_one (x : UInt8) : ∀ v ∈ btC x, v.oneCell' = true := by
  intro v hv
  simp [btC] at hv
  subst hv
  rfl
theorem infoByte : (Tryd.prog.info? 5).map (fun i => (i.zero, i.size, i.bytes)) = some (some (.int .u8 0), 1, 1) := by kernel_rfl

/-- one slice behind another one of the call's own -/
theorem slE_news {α : Type} {enc : α → List Value} {w : World} {ad : Addr} {l : List α} (h : SlE enc w (some ad) l) : ∀ j u, (l.flatMap enc)[j]? = some u → w.cell? (ad.add j) = some u := by
  intro j u hj
  rcases h with rfl | ⟨b, off, ha, _, hp⟩
  · simp at hj
  · simp at ha
    subst ha
    rw [Addr.add_mid]
    exact hp j u hj
theorem slE_none {α : Type} {enc : α → List Value} {w : World} {l : List α} (h : SlE enc w none l) : l = [] := by
  rcases h with rfl | ⟨b, off, h, _⟩
  · rfl
  · simp at h

/-- a slice's address holds these bytes -/
abbrev SlB (w : World) (a : Option Addr) (l : List UInt8) : Prop := SlE btC w a l
/-- a slice of bytes of the call's own -/
abbrev OwnB (w : World) (base : Nat) (v : Value) (l : List UInt8) : Prop := OwnE btC 1 5 w base v l

theorem SlB.cell {w : World} {a : Option Addr} {l : List UInt8} (h : SlB w a l) (k : Nat) (hk : k < l.length) :
    ∃ b off, a = some ⟨b, off, none⟩ ∧ b < w.heap.size ∧ w.cell? ⟨b, off + k, none⟩ = some (.int .u8 l[k].toNat) := by
  obtain ⟨b, off, e, hb, hr⟩ := h.at btC_len k hk
  refine ⟨b, off, e, hb, ?_⟩
  have := hr 0 (.int .u8 l[k].toNat) rfl
  simpa using this
theorem SlB.of_cells {w : World} {b off : Nat} {l : List UInt8} (hb : b < w.heap.size) (h : ∀ k (hk : k < l.length), w.cell? ⟨b, off + k, none⟩ = some (.int .u8 l[k].toNat)) : SlB w (some ⟨b, off, none⟩) l := by
  refine Or.inr ⟨b, off, rfl, hb, fun j v hv => ?_⟩
  have hlt : j < l.length := by
    have := (List.getElem?_eq_some_iff.1 hv).1
    rw [flatE_len btC_len] at this
    omega
  have e := flatE_get btC_len l j hlt 0 (by omega)
  rw [Nat.mul_one, Nat.add_zero, hv] at e
  have e2 : v = .int .u8 l[j].toNat := by simpa [btC] using e
  rw [e2]
  exact h j hlt
theorem SlB.drop {w : World} {b off : Nat} {l : List UInt8} (h : SlB w (some ⟨b, off, none⟩) l) (j : Nat) : SlB w (some ⟨b, off + j, none⟩) (l.drop j) := by
  by_cases hj : j < l.length
  · obtain ⟨b', off', e, hb, _⟩ := h.cell j hj
    obtain ⟨rfl, rfl⟩ : b = b' ∧ off = off' := by simpa using e
    refine SlB.of_cells hb fun k hk => ?_
    simp at hk
    obtain ⟨b', off', e, _, hc⟩ := h.cell (j + k) (by omega)
    obtain ⟨rfl, rfl⟩ : b = b' ∧ off = off' := by simpa using e
    rw [List.getElem_drop, Nat.add_assoc]
    exact hc
  · rw [List.drop_of_length_le (by omega)]
    exact SlE.nil

/-- bytes as numbers -/
def nums (l : List UInt8) : List Int := l.map fun b => (b.toNat : Int)
theorem nums_len (l : List UInt8) : (nums l).length = l.length := by simp [nums]
theorem bytesOf_nums (l : List UInt8) : Lib.bytesOf (nums l) = l := by
  unfold Lib.bytesOf nums
  rw [List.map_map]
  have : ((fun n : Int => UInt8.ofNat n.toNat) ∘ fun b : UInt8 => (b.toNat : Int)) = id := by funext b; simp
  rw [this, List.map_id]
theorem nums_range (l : List UInt8) : ∀ x ∈ nums l, 0 ≤ x ∧ x < 256 := by
  intro x hx
  obtain ⟨b, _, rfl⟩ := List.mem_map.1 hx
  have := b.toNat_lt
  omega
theorem str_nums (l : List UInt8) : strOfNums (nums l) = (⟨l.toArray⟩ : ByteArray) := by
  have h := Lib.strOfNums_toList (nums l)
  rw [bytesOf_nums, Lib.toList_data] at h
  cases hs : strOfNums (nums l) with
  | mk d =>
    rw [hs] at h
    simp at h
    rw [← h]
theorem SlB.inB {w : World} {a : Option Addr} {l : List UInt8} (h : SlB w a l) : Lib.BytesIn w a l.length (nums l) := by
  intro hn
  obtain ⟨b, off, e, _, _⟩ := h.cell 0 hn
  refine ⟨b, off, e, fun i hi => ?_⟩
  obtain ⟨b', off', e', _, hc⟩ := h.cell i hi
  subst e
  obtain ⟨rfl, rfl⟩ : b = b' ∧ off = off' := by simpa using e'
  rw [hc]
  simp [nums, List.getD, List.getElem?_eq_getElem hi]
/-- 'string(b)' -/
theorem SlB.text {w : World} {a : Option Addr} {l : List UInt8} (h : SlB w a l) (c : Nat) : (convert 39 9 (.slice a l.length c)).run Tryd.prog w = .ok (txV l) w := by
  have := h.inB.convert (P := Tryd.prog) (nums_len l) c 39 5 9 Tryd.underlying39 Tryd.underlying5 Tryd.underlying9
  rw [str_nums] at this
  exact this

/-- the value of a disk -/
abbrev dkV (x y : Value) : Value := .agg #[x, y]
/-- a slice value that holds these bytes -/
structure BsIs (w : World) (a : Option Addr) (c : Nat) (l : List UInt8) : Prop where
  reads : SlB w a l
  none : a = none → c = 0
  room : l.length ≤ c
  cap : c ≤ maxLen
  few : l.length ≤ 140737488351232
theorem BsIs.keep {w w' : World} {a : Option Addr} {c : Nat} {l : List UInt8} (h : BsIs w a c l) (hb : Below w.heap.size w w') : BsIs w' a c l := ⟨SlE.below h.reads hb, h.none, h.room, h.cap, h.few⟩
theorem bsIs_nil (w : World) : BsIs w none 0 [] := ⟨SlE.nil, fun _ => rfl, Nat.le_refl _, by unfold maxLen; omega, by simp⟩
theorem OwnB.bs {w : World} {base : Nat} {v : Value} {l : List UInt8} (h : OwnB w base v l) (hl : l.length ≤ 140737488351232) : ∃ a c, v = .slice a l.length c ∧ BsIs w a c l := by
  obtain ⟨a, c, e, hs, hc⟩ := OwnE.val h
  refine ⟨a, c, e, hs, ?_, hc, ?_, hl⟩
  · intro ha
    subst ha
    rcases h.2 with ⟨e2, _⟩ | ⟨g, cap', cur, e2, _⟩
    · rw [e] at e2; simp at e2; exact e2.2
    · rw [e] at e2; simp at e2
  · rcases h.2 with ⟨e2, _⟩ | ⟨g, cap', cur, e2, _, _, _, hm, _⟩
    · rw [e] at e2; simp at e2; rw [e2.2.2]; unfold maxLen; omega
    · rw [e] at e2
      obtain ⟨_, rfl⟩ : a = _ ∧ c = cap' := by simpa using e2
      exact hm
theorem OwnB.bsi {w : World} {base : Nat} {a : Option Addr} {n c : Nat} {l : List UInt8} (h : OwnB w base (.slice a n c) l) (hl : l.length ≤ 140737488351232) : BsIs w a c l := by
  obtain ⟨a', c', e, hb⟩ := OwnB.bs h hl
  obtain ⟨rfl, _, rfl⟩ : a = a' ∧ n = l.length ∧ c = c' := by simpa using e
  exact hb
/-- a value is the disk of these bytes -/
def DkIs (w : World) (v : Value) (s t : List UInt8) : Prop := ∃ a c a' c', v = dkV (.slice a s.length c) (.slice a' t.length c') ∧ BsIs w a c s ∧ BsIs w a' c' t
theorem DkIs.keep {w w' : World} {v : Value} {s t : List UInt8} (h : DkIs w v s t) (hb : Below w.heap.size w w') : DkIs w' v s t := by
  obtain ⟨a, c, a', c', e, h1, h2⟩ := h
  exact ⟨a, c, a', c', e, h1.keep hb, h2.keep hb⟩
/-- a value is the disk of these bytes, its memory from block B on -/
def DkNew (B : Nat) (w : World) (v : Value) (s t : List UInt8) : Prop := ∃ a c a' c', v = dkV (.slice a s.length c) (.slice a' t.length c') ∧ BsIs w a c s ∧ BsIs w a' c' t ∧ From B a ∧ From B a'
theorem DkNew.is {B : Nat} {w : World} {v : Value} {s t : List UInt8} (h : DkNew B w v s t) : DkIs w v s t := by
  obtain ⟨a, c, a', c', e, h1, h2, _, _⟩ := h
  exact ⟨a, c, a', c', e, h1, h2⟩
theorem OwnB.from {w : World} {base : Nat} {a : Option Addr} {n c : Nat} {l : List UInt8} (h : OwnB w base (.slice a n c) l) : From base a := by
  rcases h.2 with ⟨e2, _⟩ | ⟨g, cap', cur, e2, hg, _⟩
  · intro b off e
    subst e
    simp at e2
  · intro b off e
    subst e
    simp at e2
    omega
theorem BsIs.sets {B g : Nat} {a : Option Addr} {c : Nat} {l : List UInt8} (hf : From B a) (hg : g < B) : ∀ (us : List Value) (o : Nat) (w : World), BsIs w a c l → BsIs (w.setCells g o us) a c l := by
  intro us
  induction us with
  | nil => intro o w h; exact h
  | cons u us ih =>
    intro o w h
    refine ih (o + 1) (w.setCell ⟨g, o, Option.none⟩ u) ⟨?_, h.none, h.room, h.cap, h.few⟩
    rcases h.reads with h0 | ⟨b, off, e, hlt, hr⟩
    · exact Or.inl h0
    · refine Or.inr ⟨b, off, e, by simpa using hlt, fun j v hv => ?_⟩
      have := hf b off e
      rw [World.cell?_setCell_other _ _ _ _ (by simp <;> omega)]
      exact hr j v hv
theorem DkNew.sets {B g : Nat} {w : World} {v : Value} {s t : List UInt8} (h : DkNew B w v s t) (hg : g < B) (us : List Value) (o : Nat) : DkIs (w.setCells g o us) v s t := by
  obtain ⟨a, c, a', c', e, h1, h2, f1, f2⟩ := h
  exact ⟨a, c, a', c', e, BsIs.sets f1 hg us o w h1, BsIs.sets f2 hg us o w h2⟩
theorem dkNew_none (B : Nat) (w : World) : DkNew B w (dkV (.slice none 0 0) (.slice none 0 0)) [] [] := ⟨none, 0, none, 0, rfl, bsIs_nil w, bsIs_nil w, from_none, from_none⟩
theorem dkIs_none (w : World) : DkIs w (dkV (.slice none 0 0) (.slice none 0 0)) [] [] := ⟨none, 0, none, 0, rfl, bsIs_nil w, bsIs_nil w⟩
end Go.Proofs.YtmlodnamknielacDoor

/- Plain facts on lines of records: what a disk holds. -/
namespace Orangery
open Go.Lib (itoa)

/-- the first line, without its line feed, and what is behind it -/
def lineOf : List UInt8 → Option (List UInt8 × List UInt8)
  | [] => none
  | c :: r => if c = 10 then some ([], r) else (lineOf r).map fun x => (c :: x.1, x.2)
/-- records as far as lines are whole: them, how many bytes they have, what is wrong with the next one; at most m -/
def linesR : Nat → Nat → List UInt8 → List Rc × Nat × Int
  | 0, _, _ => ([], 0, 0)
  | f + 1, m, s => if s = [] then ([], 0, 0) else match lineOf s with
    | none => ([], 0, 8)
    | some (t, r) => if readE t ≠ 0 then ([], 0, readE t) else if m = 0 then ([], 0, 2)
      else (readR t :: (linesR f (m - 1) r).1, t.length + 1 + (linesR f (m - 1) r).2.1, (linesR f (m - 1) r).2.2)

def recLine (r : Rc) : List UInt8 := recT r ++ [10]
def encR (l : List Rc) : List UInt8 := l.flatMap recLine

theorem lineOf_app (t r : List UInt8) (h : ∀ c ∈ t, c ≠ 10) : lineOf (t ++ 10 :: r) = some (t, r) := by
  induction t with
  | nil => simp [lineOf]
  | cons c t ih =>
    rw [List.cons_append]
    unfold lineOf
    rw [if_neg (h c (by simp)), ih (fun d hd => h d (by simp [hd]))]
    rfl
theorem lineOf_none (t : List UInt8) (h : ∀ c ∈ t, c ≠ 10) : lineOf t = none := by
  induction t with
  | nil => rfl
  | cons c t ih =>
    unfold lineOf
    rw [if_neg (h c (by simp)), ih (fun d hd => h d (by simp [hd]))]
    rfl
theorem lineOf_some {s t r : List UInt8} (h : lineOf s = some (t, r)) : s = t ++ 10 :: r ∧ ∀ c ∈ t, c ≠ 10 := by
  induction s generalizing t r with
  | nil => simp [lineOf] at h
  | cons c s ih =>
    unfold lineOf at h
    split at h
    · rename_i h1
      simp at h
      obtain ⟨rfl, rfl⟩ := h
      exact ⟨by rw [h1]; rfl, by simp⟩
    · rename_i h1
      rw [Option.map_eq_some_iff] at h
      obtain ⟨⟨t', r'⟩, h2, h3⟩ := h
      simp at h3
      obtain ⟨rfl, rfl⟩ := h3
      obtain ⟨e1, e2⟩ := ih h2
      refine ⟨by rw [e1]; rfl, fun d hd => ?_⟩
      rcases List.mem_cons.1 hd with rfl | hd
      · exact h1
      · exact e2 d hd

theorem glue_no (b : UInt8) (hb : b ≠ 32) (ws : List (List UInt8)) (h : ∀ x ∈ ws, ∀ c ∈ x, c ≠ b) : ∀ c ∈ glue ws, c ≠ b := by
  induction ws with
  | nil => intro c hc; simp [glue, Go.Lib.join] at hc
  | cons x l ih =>
    cases l with
    | nil => rw [glue_one]; exact h x (by simp)
    | cons y l =>
      rw [glue_cons]
      intro c hc
      rcases List.mem_append.1 hc with hc | hc
      · exact h x (by simp) c hc
      · rcases List.mem_cons.1 hc with rfl | hc
        · exact fun e => hb e.symm
        · exact ih (fun z hz => h z (by simp [hz])) c hc
theorem itoa_lf (n : Int) : ∀ c ∈ itoa n, c ≠ 10 := by
  intro c hc e
  subst e
  unfold itoa at hc
  split at hc
  · simp at hc
    have := digits_all _ _ hc
    simp at this
  · have := digits_all _ _ hc
    simp at this
theorem recT_lf (r : Rc) : ∀ c ∈ recT r, c ≠ 10 := by
  unfold recT
  refine glue_no 10 (by decide) _ ?_
  intro x hx
  rcases List.mem_cons.1 hx with rfl | hx
  · unfold recWord
    split
    · decide
    · split <;> decide
  · obtain ⟨n, _, rfl⟩ := List.mem_map.1 hx
    exact itoa_lf n

theorem encR_cons (r : Rc) (l : List Rc) : encR (r :: l) = recT r ++ 10 :: encR l := by simp [encR, recLine]
theorem encR_app (a b : List Rc) : encR (a ++ b) = encR a ++ encR b := by simp [encR]

/-- whole lines of right records are read, and what is behind them -/
theorem lines_enc (l : List Rc) (hl : ∀ r ∈ l, checkRec r = 0) : ∀ (f m : Nat) (s : List UInt8), l.length ≤ f → l.length ≤ m →
    linesR f m (encR l ++ s) = (l ++ (linesR (f - l.length) (m - l.length) s).1, (encR l).length + (linesR (f - l.length) (m - l.length) s).2.1, (linesR (f - l.length) (m - l.length) s).2.2) := by
  induction l with
  | nil => intro f m s _ _; simp [encR]
  | cons r l ih =>
    intro f m s hf hm
    cases f with
    | zero => simp at hf
    | succ f =>
      have hr := hl r (by simp)
      rw [encR_cons, List.append_assoc, List.cons_append]
      conv => lhs; unfold linesR
      rw [if_neg (by simp), lineOf_app _ _ (recT_lf r)]
      simp only
      rw [if_neg (by rw [(read_text hr).2.1]; simp), if_neg (by simp at hm; omega), (read_text hr).2.2]
      have := ih (fun q hq => hl q (by simp [hq])) f (m - 1) s (by simp at hf; omega) (by simp at hm; omega)
      rw [this]
      have e1 : f + 1 - (r :: l).length = f - l.length := by simp
      have e2 : m - (r :: l).length = m - 1 - l.length := by simp; omega
      rw [e1, e2]
      simp only [List.length_append, List.length_cons, List.cons_append]
      refine congrArg _ (congrArg (·, _) ?_)
      omega

/-- a beginning of whole lines: some of them, and a beginning of the next one -/
theorem take_enc (l : List Rc) : ∀ n, ∃ (j : Nat) (t : List UInt8), j ≤ l.length ∧ (encR l).take n = encR (l.take j) ++ t ∧ (t = [] ∨ ∀ c ∈ t, c ≠ 10) := by
  induction l with
  | nil => intro n; exact ⟨0, [], by simp, by simp [encR], Or.inl rfl⟩
  | cons r l ih =>
    intro n
    by_cases hn : n ≤ (recT r).length
    · refine ⟨0, (recT r).take n, by simp, ?_, Or.inr fun c hc => recT_lf r c (List.mem_of_mem_take hc)⟩
      rw [encR_cons, List.take_append_of_le_length hn]
      simp [encR]
    · obtain ⟨j, t, h1, h2, h3⟩ := ih (n - ((recT r).length + 1))
      refine ⟨j + 1, t, by simp; omega, ?_, h3⟩
      rw [encR_cons, List.take_succ_cons, encR_cons]
      have e : recT r ++ 10 :: encR l = (recT r ++ [10]) ++ encR l := by simp
      rw [e, List.take_append]
      have e2 : (recT r ++ [10]).length = (recT r).length + 1 := by simp
      rw [e2, h2, List.take_of_length_le (by rw [e2]; omega)]
      simp

/-- what is behind whole lines and has no line feed says nothing -/
theorem lines_torn (t : List UInt8) (h : t = [] ∨ ∀ c ∈ t, c ≠ 10) (f m : Nat) : (linesR f m t).1 = [] ∧ (linesR f m t).2.1 = 0 := by
  cases f with
  | zero => exact ⟨rfl, rfl⟩
  | succ f =>
    unfold linesR
    by_cases ht : t = []
    · rw [if_pos ht]; exact ⟨rfl, rfl⟩
    · rw [if_neg ht]
      have : lineOf t = none := lineOf_none t (by rcases h with h | h; exact absurd h ht; exact h)
      rw [this]
      exact ⟨rfl, rfl⟩
end Orangery

/- Plain facts on disks: checked, put on, synced, crashed, recovered; what was synced is there. -/
namespace Orangery
open Go.Lib (itoa)

/-- records, bytes and error of a text's lines, m records at most -/
def lnL (m : Nat) (s : List UInt8) : List Rc := (linesR (s.length + 1) m s).1
def lnN (m : Nat) (s : List UInt8) : Nat := (linesR (s.length + 1) m s).2.1
def lnE (m : Nat) (s : List UInt8) : Int := (linesR (s.length + 1) m s).2.2

/-- chapter 7's Check -/
def diskE (s w : List UInt8) : Int := if 60000 < s.length ∨ 60000 - s.length < w.length then 2 else lnE 60 s
/-- chapter 7's Put, of a right disk -/
def putE (s w : List UInt8) (r : Rc) : Int := if checkRec r ≠ 0 then checkRec r else if 60000 < s.length + w.length + (recT r).length + 1 then 2 else 0
/-- chapter 7's Recover, of a right disk -/
def recovS (s w : List UInt8) : List UInt8 := s ++ w.take (lnN (60 - (lnL 60 s).length) w)
def recovL (s w : List UInt8) : List Rc := lnL 60 s ++ lnL (60 - (lnL 60 s).length) w

/-- more fuel than lines changes nothing -/
theorem lineOf_len {s t r : List UInt8} (h : lineOf s = some (t, r)) : s.length = t.length + 1 + r.length := by
  obtain ⟨e, _⟩ := lineOf_some h
  rw [e]; simp; omega
theorem lines_fuels (f : Nat) : ∀ (g m : Nat) (s : List UInt8), s.length < f → s.length < g → linesR f m s = linesR g m s := by
  induction f with
  | zero => intro g m s h _; omega
  | succ f ih =>
    intro g m s h h'
    cases g with
    | zero => omega
    | succ g =>
      unfold linesR
      by_cases hs : s = []
      · rw [if_pos hs, if_pos hs]
      · rw [if_neg hs, if_neg hs]
        cases hl : lineOf s with
        | none => rfl
        | some x =>
          obtain ⟨t, r⟩ := x
          have hlen := lineOf_len hl
          simp only
          rw [ih g (m - 1) r (by omega) (by omega)]
theorem lines_fuel (f m : Nat) (s : List UInt8) (h : s.length < f) : linesR f m s = linesR (s.length + 1) m s := lines_fuels f _ m s h (Nat.lt_succ_self _)

theorem ln_enc (l : List Rc) (hl : ∀ r ∈ l, checkRec r = 0) (m : Nat) (t : List UInt8) (hm : l.length ≤ m) (ht : t = [] ∨ ∀ c ∈ t, c ≠ 10) :
    lnL m (encR l ++ t) = l ∧ lnN m (encR l ++ t) = (encR l).length ∧ (t = [] → lnE m (encR l ++ t) = 0) := by
  have hlen : l.length ≤ (encR l).length := by
    clear hl hm
    induction l with
    | nil => simp
    | cons r l ih => rw [encR_cons]; simp; omega
  have h := lines_enc l hl ((encR l ++ t).length + 1) m t (by simp; omega) hm
  have h2 := lines_torn t ht ((encR l ++ t).length + 1 - l.length) (m - l.length)
  unfold lnL lnN lnE
  rw [h]
  refine ⟨by rw [h2.1]; simp, by rw [h2.2]; simp, ?_⟩
  intro e
  subst e
  cases hk : (encR l ++ []).length + 1 - l.length with
  | zero => rfl
  | succ k => simp [linesR]

/-- P7.3: whatever is kept of what was not synced -/
theorem disk_keeps (A B : List Rc) (hA : ∀ r ∈ A, checkRec r = 0) (hB : ∀ r ∈ B, checkRec r = 0) (ha : A.length ≤ 20) (hb : B.length ≤ 20) (n : Nat) :
    ∃ j, j ≤ B.length ∧ recovL (encR A) ((encR B).take n) = A ++ B.take j ∧ recovS (encR A) ((encR B).take n) = encR (A ++ B.take j) := by
  obtain ⟨j, t, h1, h2, h3⟩ := take_enc B n
  refine ⟨j, h1, ?_⟩
  have eA := ln_enc A hA 60 [] (by omega) (Or.inl rfl)
  rw [List.append_nil] at eA
  have hBj : ∀ r ∈ B.take j, checkRec r = 0 := fun r hr => hB r (List.mem_of_mem_take hr)
  have eB := ln_enc (B.take j) hBj (60 - A.length) t (by simp; omega) h3
  unfold recovL recovS
  rw [eA.1, h2, eB.1, eB.2.1]
  refine ⟨rfl, ?_⟩
  rw [List.take_left, encR_app]
/-- recovered again it is the same -/
theorem disk_again (L : List Rc) (hL : ∀ r ∈ L, checkRec r = 0) (hl : L.length ≤ 60) : recovL (encR L) [] = L ∧ recovS (encR L) [] = encR L ∧ lnE 60 (encR L) = 0 := by
  have e := ln_enc L hL 60 [] hl (Or.inl rfl)
  rw [List.append_nil] at e
  unfold recovL recovS
  rw [e.1]
  refine ⟨by simp [lnL, linesR], by simp, e.2.2 rfl⟩
theorem encR_len (L : List Rc) (hL : ∀ r ∈ L, checkRec r = 0) : (encR L).length ≤ 177 * L.length := by
  induction L with
  | nil => simp [encR]
  | cons r l ih =>
    have h1 := recT_len (hL r (by simp))
    have h2 := ih (fun q hq => hL q (by simp [hq]))
    rw [encR_cons]
    simp
    omega
end Orangery

/- Plain facts on lines: strings.SplitAfter at a line feed, piece by piece. -/
namespace Orangery
open Go.Lib (index splitK count splitB countB)

theorem index_lf_nil : index [] [10] = -1 := rfl
theorem index_lf (c : UInt8) (r : List UInt8) : index (c :: r) [10] = if c = 10 then 0 else if index r [10] = -1 then -1 else index r [10] + 1 := by
  have e : index (c :: r) [10] = if List.isPrefixOf [10] (c :: r) then 0 else if index r [10] == -1 then -1 else index r [10] + 1 := rfl
  rw [e]
  by_cases h : c = 10
  · subst h; simp [List.isPrefixOf]
  · have h2 : (10 == c) = false := by simp; exact fun e => h e.symm
    simp [List.isPrefixOf, h, h2]
theorem lineOf_index (s : List UInt8) : lineOf s = if index s [10] = -1 then none else some (s.take (index s [10]).toNat, s.drop ((index s [10]).toNat + 1)) := by
  induction s with
  | nil => rfl
  | cons c r ih =>
    unfold lineOf
    rw [index_lf]
    by_cases h : c = 10
    · rw [if_pos h, if_pos h]; simp
    · rw [if_neg h, if_neg h, ih]
      have hge := Go.Lib.index_ge r [10]
      by_cases h2 : index r [10] = -1
      · rw [if_pos h2, if_pos h2]; rfl
      · rw [if_neg h2, if_neg h2, if_neg (by omega)]
        have h5 : (index r [10] + 1).toNat = (index r [10]).toNat + 1 := by omega
        rw [h5]
        rfl
/-- the pieces of a text, each with its line feed -/
def pcs : Nat → List UInt8 → List (List UInt8)
  | 0, s => [s]
  | k + 1, s => match lineOf s with
    | none => [s]
    | some (t, r) => (t ++ [10]) :: pcs k r
theorem splitK_pcs (k : Nat) : ∀ s : List UInt8, splitK [10] 1 k s = pcs k s := by
  induction k with
  | zero => intro s; rfl
  | succ k ih =>
    intro s
    unfold splitK pcs
    have hl := lineOf_index s
    by_cases h : index s [10] = -1
    · rw [if_pos h] at hl
      rw [hl, h]
      rfl
    · rw [if_neg h] at hl
      rw [hl, if_neg (by simpa using h), ih]
      simp only [List.length_cons, List.length_nil]
      refine congrArg (· :: _) ?_
      obtain ⟨e, _⟩ := lineOf_some hl
      have hlen := lineOf_len hl
      generalize (index s [10]).toNat = n at *
      have ht : (s.take n).length = n := by
        simp only [List.length_take, List.length_drop] at hlen ⊢
        omega
      have hn : n < s.length := by
        simp only [List.length_take, List.length_drop] at hlen ht
        omega
      have e2 : s[n] = 10 := by
        have : s[n]? = some 10 := by
          rw [e, List.getElem?_append_right (by omega), ht]
          simp
        rw [List.getElem?_eq_getElem hn] at this
        simpa using this
      rw [List.take_succ_eq_append_getElem hn, e2]
/-- the lines of pieces: them as records, bytes, what is wrong -/
def runP : Nat → List (List UInt8) → List Rc × Nat × Int
  | _, [] => ([], 0, 0)
  | m, t :: ps => if t = [] then ([], 0, 0) else if t.getLast? ≠ some 10 then ([], 0, 8)
    else if readE t.dropLast ≠ 0 then ([], 0, readE t.dropLast) else if m = 0 then ([], 0, 2)
    else (readR t.dropLast :: (runP (m - 1) ps).1, t.length + (runP (m - 1) ps).2.1, (runP (m - 1) ps).2.2)
theorem lineOf_count {s t r : List UInt8} (h : lineOf s = some (t, r)) : s.count 10 = r.count 10 + 1 := by
  obtain ⟨e, hn⟩ := lineOf_some h
  rw [e, List.count_append, List.count_cons_self, List.count_eq_zero.2 (fun hm => hn 10 hm rfl)]
  omega
theorem lineOf_no {s : List UInt8} (h : lineOf s = none) : ∀ c ∈ s, c ≠ 10 := by
  induction s with
  | nil => simp
  | cons c r ih =>
    unfold lineOf at h
    split at h
    · simp at h
    · rename_i h1
      simp at h
      intro d hd
      rcases List.mem_cons.1 hd with rfl | hd
      · exact h1
      · exact ih h d hd
theorem run_pcs (k : Nat) : ∀ (m : Nat) (s : List UInt8), s.count 10 ≤ k → runP m (pcs k s) = linesR (s.length + 1) m s := by
  induction k with
  | zero =>
    intro m s h
    have hn : lineOf s = none := by
      cases hl : lineOf s with
      | none => rfl
      | some x => have := lineOf_count (s := s) (t := x.1) (r := x.2) hl; omega
    unfold pcs runP linesR
    by_cases hs : s = []
    · rw [if_pos hs, if_pos hs]
    · rw [if_neg hs, if_neg hs, hn]
      have : s.getLast? ≠ some 10 := fun e => lineOf_no hn 10 (List.mem_of_getLast? e) rfl
      rw [if_pos this]
  | succ k ih =>
    intro m s h
    unfold pcs linesR
    cases hl : lineOf s with
    | none =>
      simp only
      unfold runP
      by_cases hs : s = []
      · rw [if_pos hs, if_pos hs]
      · rw [if_neg hs, if_neg hs]
        have : s.getLast? ≠ some 10 := fun e => lineOf_no hl 10 (List.mem_of_getLast? e) rfl
        rw [if_pos this]
    | some x =>
      obtain ⟨t, r⟩ := x
      have hc := lineOf_count hl
      have hlen := lineOf_len hl
      have hs : s ≠ [] := by intro e; subst e; simp [lineOf] at hl
      simp only
      rw [if_neg hs]
      unfold runP
      rw [if_neg (by simp), if_neg (by simp)]
      have e1 : (t ++ [10]).dropLast = t := by simp
      rw [e1, ih (m - 1) r (by omega), ← lines_fuel s.length (m - 1) r (by omega)]
      simp
/-- strings.SplitAfter at a line feed, as the library's law says it -/
theorem splitB_pcs (s : ByteArray) : (splitB ⟨#[10]⟩ 1 (countB s ⟨#[10]⟩) s).map (·.data.toList) = pcs (s.data.toList.count 10) s.data.toList := by
  rw [Go.Lib.splitB_data]
  have e : countB s ⟨#[10]⟩ = s.data.toList.count 10 := Go.Lib.count_one 10 _
  rw [e]
  exact splitK_pcs _ _
theorem pcs_len (k : Nat) : ∀ s : List UInt8, (pcs k s).length ≤ k + 1 := by
  induction k with
  | zero => intro s; simp [pcs]
  | succ k ih =>
    intro s
    unfold pcs
    split
    · simp
    · rename_i t r _
      have := ih r
      simp; omega
theorem pcs_small (k : Nat) : ∀ s : List UInt8, ∀ t ∈ pcs k s, t.length ≤ s.length := by
  induction k with
  | zero => intro s t ht; simp [pcs] at ht; subst ht; exact Nat.le_refl _
  | succ k ih =>
    intro s t ht
    unfold pcs at ht
    split at ht
    · simp at ht; subst ht; exact Nat.le_refl _
    · rename_i u r hl
      have hlen := lineOf_len hl
      rcases List.mem_cons.1 ht with rfl | ht
      · simp; omega
      · have := ih r t ht; omega
end Orangery

/- bytes.Cut is the library's, by its own laws. -/
namespace Go.Proofs
open Go.Shelf
def Tryd.laysT4_ren : Go.Shelf.Ren := ⟨fun | 4 => 82 | 5 => 100 | 6 => 106 | 7 => 47 | 8 => 107 | 9 => 89 | 10 => 108 | 11 => 109 | 12 => 110 | n => n, fun | 22 => 39 | 4 => 4 | 3 => 3 | 0 => 0 | 5 => 5 | 29 => 111 | 9 => 9 | 31 => 141 | 30 => 136 | n => n, fun | 0 => 0 | n => n⟩
theorem Tryd.laysT4 : Go.Proofs.SlLaysT.n4 Tryd.prog Tryd.laysT4_ren := {
  mixed := by kernel_rfl
  f4 := Tryd.func82.trans (congrArg some (by kernel_rfl))
  f5 := Tryd.func100.trans (congrArg some (by kernel_rfl))
  f6 := Tryd.func106.trans (congrArg some (by kernel_rfl))
  f7 := Tryd.func47.trans (congrArg some (by kernel_rfl))
  f8 := Tryd.func107.trans (congrArg some (by kernel_rfl))
  f9 := Tryd.func89.trans (congrArg some (by kernel_rfl))
  f10 := Tryd.func108.trans (congrArg some (by kernel_rfl))
  f11 := Tryd.func109.trans (congrArg some (by kernel_rfl))
  f12 := Tryd.func110.trans (congrArg some (by kernel_rfl))
  t0 := Tryd.underlying0
  a0 := Tryd.isAgg0
  z0 := Tryd.sizeOf0
  v0 := Tryd.zeroValue0
  t3 := Tryd.underlying3
  a3 := Tryd.isAgg3
  z3 := Tryd.sizeOf3
  v3 := Tryd.zeroValue3
  t4 := Tryd.underlying4
  a4 := Tryd.isAgg4
  z4 := Tryd.sizeOf4
  v4 := Tryd.zeroValue4
  t5 := Tryd.underlying5
  a5 := Tryd.isAgg5
  z5 := Tryd.sizeOf5
  v5 := Tryd.zeroValue5
  t9 := Tryd.underlying9
  a9 := Tryd.isAgg9
  z9 := Tryd.sizeOf9
  v9 := Tryd.zeroValue9
  t22 := Tryd.underlying39
  a22 := Tryd.isAgg39
  z22 := Tryd.sizeOf39
  v22 := Tryd.zeroValue39
  t29 := Tryd.underlying111
  a29 := Tryd.isAgg111
  z29 := Tryd.sizeOf111
  v29 := Tryd.zeroValue111
  t30 := Tryd.underlying136
  a30 := Tryd.isAgg136
  z30 := Tryd.sizeOf136
  v30 := Tryd.zeroValue136
  t31 := Tryd.underlying141
  a31 := Tryd.isAgg141
  z31 := Tryd.sizeOf141
  v31 := Tryd.zeroValue141
  g0 := by kernel_rfl }
end Go.Proofs

/- bytes.Equal, bytes.Clone, bytes.Cut at a line feed; slices.Equal at bytes. -/
namespace Go.Proofs.YtmlodnamknielacDoor
open Go.ChangeShapes Go.WideShapes Go.ChangeAt Go.RowKit
open Orangery (lineOf)

def eqB (l m : List UInt8) : Bool := decide (l = m)
theorem eqB_no {l m : List UInt8} (h : l ≠ m) : eqB l m = false := by simpa [eqB] using h
theorem eqB_yes {l m : List UInt8} (h : l = m) : eqB l m = true := by simpa [eqB] using h
theorem eqB_beq (l m : List UInt8) : (l == m) = eqB l m := by
  by_cases h : l = m
  · rw [eqB_yes h]; simpa using h
  · rw [eqB_no h]; simpa using h

set_option maxHeartbeats 1000000 in
theorem bequal_any (w : World) (a a' : Option Addr) (c c' : Nat) (l m : List UInt8) (h1 : SlB w a l) (h2 : SlB w a' m) :
    Calls Tryd.prog 47 #[.slice a l.length c, .slice a' m.length c'] w fun e w' => e = .returned (.bool (eqB l m)) ∧ w' = w := by
  have k1 := h1.text c
  have k2 := h2.text c'
  have HE : Hid ((l == m) = eqB l m) := eqB_beq l m
  go_enter Tryd.func47, Tryd.ntmps47
  go_wp2
  go_ret
  exact ⟨ret_bool HE.out, rfl⟩

set_option maxHeartbeats 1000000 in
theorem bclone_any (w : World) (a : Option Addr) (c : Nat) (l : List UInt8) (hl : l.length ≤ 60000) (h : SlB w a l) :
    Calls Tryd.prog 43 #[.slice a l.length c] w
      fun e w' => ∃ v, e = .returned v ∧ OwnB w' w.heap.size v l ∧ Below w.heap.size w w' := by
  obtain ⟨i0, hi, hz0, hz1, hz2⟩ := info_parts infoByte
  have hq := fun (W : World) (a : Option Addr) (n c : Nat) => Lib.run_eql_slice_nil (P := Tryd.prog) W 39 5 a n c 0 0 Tryd.underlying39
  cases a with
  | none =>
    have hl0 := slE_none h
    subst hl0
    go_enter Tryd.func43, Tryd.ntmps43
    go_wp2
    go_ret
    exact ⟨_, rfl, OwnE.nil _ _, Below.refl _ _⟩
  | some ad =>
    have hB := Go.Joins.below_alloc1 w (Obj.cells #[] 5)
    have hown : (w.alloc (Obj.cells #[] 5)).ownsRow w.heap.size 5 1 (.slice (some ⟨w.heap.size, 0, none⟩) 0 0) 0 [] :=
      ⟨rfl, Or.inr ⟨w.heap.size, 0, #[], rfl, Nat.le_refl _, blk_new rfl, Nat.le_refl _, by unfold maxLen; omega, rfl, rfl⟩⟩
    have HN : Hid (∀ j u, (l.flatMap btC)[j]? = some u → (w.alloc (Obj.cells #[] 5)).cell? (ad.add j) = some u) := slE_news (SlE.below h hB)
    clear h
    go_enter Tryd.func43, Tryd.ntmps43
    go_wp2_with (at_builtin; refine wpList_append_own _ rfl _ _ 39 rfl w.heap.size 5 i0 _ 1 1 Tryd.underlying39 hi hz0 hz1 hz2 rfl (by decide) _ _ _ rfl hown ad l.length c (l.flatMap btC) rfl (flatE_len btC_len l) ?c1 ?c2 ?c3 ?c4 ?c5 ?_)
    case c1 => exact HN.out
    case c2 => exact flat_oneE btC_one l
    case c3 => unfold maxLen; omega
    case c4 => omega
    case c5 => exact hB.size
    · intro v' w1 hown' hgrow _
      have hb1 := hB.trans (below_grown hown hB.size hgrow)
      have hO : OwnB w1 w.heap.size v' l := by simpa [OwnB, OwnE] using hown'
      clear hgrow hown hown'
      go_wp2
      go_ret
      exact ⟨_, rfl, hO, hb1⟩

/-- bytes.Cut at a line feed -/
theorem bcut_any (w : World) (a : Option Addr) (c g cg : Nat) (l : List UInt8) (hl : l.length ≤ 60000) (h : BsIs w a c l) (hg : w.cell? ⟨g, 0, none⟩ = some (.int .u8 10)) (hv : Vars w) :
    Calls Tryd.prog 82 #[.slice a l.length c, .slice (some ⟨g, 0, none⟩) 1 cg] w fun e w' =>
      ((lineOf l = none ∧ e = .returned (.tuple #[.slice a l.length c, .slice none 0 0, .bool false])) ∨
       ∃ t r a' c', lineOf l = some (t, r) ∧ e = .returned (.tuple #[.slice a t.length c, .slice a' r.length c', .bool true]) ∧ ∀ W, BsIs W a c l → SlB W a t ∧ BsIs W a' c' r) ∧ Below w.heap.size w w' := by
  obtain ⟨m, hm⟩ := hv.mx
  refine (Any.bytes_Cut_all Tryd.laysT4 a (some ⟨g, 0, none⟩) l.length c 1 cg (nums l) [10] m w (nums_len l) rfl (nums_range l) (by simp) h.reads.inB (fun _ => ⟨g, 0, rfl, fun i hi => by
    obtain rfl : i = 0 := by omega
    simpa using hg⟩) h.none h.room (by omega) (by omega) hm).mono ?_
  rintro e w' ⟨rfl, q, rfl⟩
  have hbw : Below w.heap.size w (w.drewN q) := ⟨rfl, rfl, rfl, Nat.le_refl _, fun _ _ => rfl⟩
  refine ⟨?_, hbw⟩
  rw [bytesOf_nums, show Lib.bytesOf [10] = [10] from rfl]
  have hlo := Orangery.lineOf_index l
  by_cases hi : Lib.index l [10] = -1
  · rw [if_pos hi] at hlo
    left
    refine ⟨hlo, ?_⟩
    rw [hi]
    rfl
  · right
    rw [if_neg hi] at hlo
    have hge := Lib.index_ge l [10]
    have hroom := Lib.index_room l [10] (by omega)
    simp at hroom
    generalize Lib.index l [10] = i at *
    obtain ⟨j, rfl⟩ : ∃ j : Nat, i = j := ⟨i.toNat, by omega⟩
    have hj : j + 1 ≤ l.length := by omega
    simp only [Int.toNat_natCast] at hlo
    refine ⟨l.take j, l.drop (j + 1), if c = j + 1 then a else a.map (fun x => x.add (j + 1)), c - (j + 1), hlo, ?_, fun W h => ⟨SlE.take h.reads j, ?_⟩⟩
    · unfold Lib.cutV Lib.fromV
      rw [if_pos (by omega)]
      simp only [Int.toNat_natCast, List.length_take, List.length_drop]
      rw [Nat.min_eq_left (by omega)]
    · have hroom2 := h.room
      have hcap := h.cap
      have hfew := h.few
      obtain ⟨b, off, e, hb, _⟩ := SlB.cell h.reads 0 (by omega)
      subst e
      refine ⟨?_, ?_, by simp; omega, by omega, by simp; omega⟩
      · by_cases hc : c = j + 1
        · have : l.drop (j + 1) = [] := List.drop_of_length_le (by omega)
          rw [this]
          exact SlE.nil
        · rw [if_neg hc]
          exact SlB.drop h.reads (j + 1)
      · intro e
        split at e
        · simp at e
        · simp at e
end Go.Proofs.YtmlodnamknielacDoor

/- note.Same, orangeryref.SameRec. -/
namespace Go.Proofs.YtmlodnamknielacDoor
open Go.ChangeShapes Go.WideShapes Go.ChangeAt Go.RowKit
open Orangery (Pl Mv Rc)

def sameR (r q : Rc) : Bool := decide (r.1 = q.1 ∧ r.2.1 = q.2.1 ∧ r.2.2.1 = q.2.2.1 ∧ r.2.2.2.1 = q.2.2.2.1 ∧ r.2.2.2.2 = q.2.2.2.2)
theorem sameR_iff (r q : Rc) : sameR r q = true ↔ r = q := by
  obtain ⟨k, u, f, R, o⟩ := r
  obtain ⟨k', u', f', R', p⟩ := q
  simp only [sameR, decide_eq_true_eq, Prod.mk.injEq]
theorem sameR_yes {r q : Rc} (h : r = q) : sameR r q = true := (sameR_iff r q).2 h
theorem sameR_no {r q : Rc} (h : r ≠ q) : sameR r q = false := by
  cases hq : sameR r q
  · rfl
  · exact absurd ((sameR_iff r q).1 hq) h
theorem eqIs_ne {l m : List Int} (h : eqIs l m = false) : l ≠ m := by simpa [eqIs] using h
theorem eqIs_eq {l m : List Int} (h : eqIs l m = true) : l = m := by simpa [eqIs] using h
theorem below_drewN' (B : Nat) (w : World) (n : Nat) : Below B w (w.drewN n) := ⟨rfl, rfl, rfl, Nat.le_refl _, fun _ _ => rfl⟩


set_option maxHeartbeats 2000000 in
theorem nsame_any (w : World) (k u f k' u' f' : Int) (a a' : Option Addr) (c c' : Nat) (R R' : List Int) (o p : Mv) (hl : R.length ≤ maxLen) (h : SlI w a R) (h' : SlI w a' R') :
    Calls Tryd.prog 11 #[rcV k u f (.slice a R.length c) o, rcV k' u' f' (.slice a' R'.length c') p] w fun e w' => e = .returned (.bool (sameR (k, u, f, R, o) (k', u', f', R', p))) ∧ Below w.heap.size w w' := by
  by_cases ek : k = k'
  case neg =>
    have HE : Hid (sameR (k, u, f, R, o) (k', u', f', R', p) = false) := sameR_no (by intro e; apply ek; simp at e; simp [e])
    have dk : (k == k') = false := by simpa using ek
    clear ek
    go_enter Tryd.func11, Tryd.ntmps11
    go_wp2
    go_ret
    exact ⟨ret_bool HE.out.symm, Go.Joins.below_alloc2 w _ _⟩
  subst ek
  by_cases eu : u = u'
  case neg =>
    have HE : Hid (sameR (k, u, f, R, o) (k, u', f', R', p) = false) := sameR_no (by intro e; apply eu; simp at e; simp [e])
    have du : (u == u') = false := by simpa using eu
    clear eu
    go_enter Tryd.func11, Tryd.ntmps11
    go_wp2
    go_ret
    exact ⟨ret_bool HE.out.symm, Go.Joins.below_alloc2 w _ _⟩
  subst eu
  by_cases ef : f = f'
  case neg =>
    have HE : Hid (sameR (k, u, f, R, o) (k, u, f', R', p) = false) := sameR_no (by intro e; apply ef; simp at e; simp [e])
    have df : (f == f') = false := by simpa using ef
    clear ef
    go_enter Tryd.func11, Tryd.ntmps11
    go_wp2
    go_ret
    exact ⟨ret_bool HE.out.symm, Go.Joins.below_alloc2 w _ _⟩
  subst ef
  have hq := run_eql_opg o p
  have hgd := guard_op
  go_enter Tryd.func11, Tryd.ntmps11
  go_wp2_with fail
  obtain ⟨W0, hW, hA, hC, hB, -⟩ := laid2 w [.int .i64 k, .int .i64 u, .int .i64 f, .slice a R.length c, .int .i64 o.1, .int .i64 o.2.1, .int .i64 o.2.2.1.1, .int .i64 o.2.2.1.2.1, .int .i64 o.2.2.1.2.2, .int .i64 o.2.2.2.1, .int .i64 o.2.2.2.2] 28 [.int .i64 k, .int .i64 u, .int .i64 f, .slice a' R'.length c', .int .i64 p.1, .int .i64 p.2.1, .int .i64 p.2.2.1.1, .int .i64 p.2.2.1.2.1, .int .i64 p.2.2.1.2.2, .int .i64 p.2.2.2.1, .int .i64 p.2.2.2.2] 28
  rw [hW]
  clear hW
  refine (equal_is W0 a a' c c' R R' hl (h.below hB) (h'.below hB)).mono ?_
  rintro e w1 ⟨rfl, n, rfl⟩
  have hb1 : Below W0.heap.size W0 (W0.drewN n) := below_drewN' _ _ _
  have hA1 := hA.keep hb1
  have hC1 := hC.keep hb1
  have HB1 : Hid (Below w.heap.size w (W0.drewN n)) := hB.trans (hb1.mono hB.size)
  clear hA hC hB hb1 h h'
  generalize W0.drewN n = W1 at *
  have x4 := hA1.at 4 rfl
  have y4 := hC1.at 4 rfl
  have x5 := hA1.at 5 rfl
  have y5 := hC1.at 5 rfl
  have x6 := hA1.at 6 rfl
  have y6 := hC1.at 6 rfl
  have x7 := hA1.at 7 rfl
  have y7 := hC1.at 7 rfl
  have x8 := hA1.at 8 rfl
  have y8 := hC1.at 8 rfl
  have x9 := hA1.at 9 rfl
  have y9 := hC1.at 9 rfl
  have x10 := hA1.at 10 rfl
  have y10 := hC1.at 10 rfl
  clear hA1 hC1
  cases he : eqIs R R'
  · have HE : Hid (sameR (k, u, f, R, o) (k, u, f, R', p) = false) := sameR_no (by intro e; simp at e; exact eqIs_ne he e.1)
    go_wp2
    go_ret
    exact ⟨ret_bool HE.out.symm, HB1.out⟩
  · have HE : Hid (sameR (k, u, f, R, o) (k, u, f, R', p) = decide (o = p)) := by
      have := eqIs_eq he
      subst this
      show sameR _ _ = _
      simp [sameR]
    clear he
    go_wp2
    go_ret
    exact ⟨ret_bool HE.out.symm, HB1.out⟩

set_option maxHeartbeats 2000000 in
theorem rsameRec_any (w : World) (k u f k' u' f' : Int) (a a' : Option Addr) (c c' : Nat) (R R' : List Int) (o p : Mv) (hl : R.length ≤ maxLen) (h : SlI w a R) (h' : SlI w a' R') :
    Calls Tryd.prog 12 #[rcV k u f (.slice a R.length c) o, rcV k' u' f' (.slice a' R'.length c') p] w fun e w' => e = .returned (.bool (sameR (k, u, f, R, o) (k', u', f', R', p))) ∧ Below w.heap.size w w' := by
  by_cases ek : k = k'
  case neg =>
    have HE : Hid (sameR (k, u, f, R, o) (k', u', f', R', p) = false) := sameR_no (by intro e; apply ek; simp at e; simp [e])
    have dk : (k == k') = false := by simpa using ek
    clear ek
    go_enter Tryd.func12, Tryd.ntmps12
    go_wp2
    go_ret
    exact ⟨ret_bool HE.out.symm, Go.Joins.below_alloc2 w _ _⟩
  subst ek
  by_cases eu : u = u'
  case neg =>
    have HE : Hid (sameR (k, u, f, R, o) (k, u', f', R', p) = false) := sameR_no (by intro e; apply eu; simp at e; simp [e])
    have du : (u == u') = false := by simpa using eu
    clear eu
    go_enter Tryd.func12, Tryd.ntmps12
    go_wp2
    go_ret
    exact ⟨ret_bool HE.out.symm, Go.Joins.below_alloc2 w _ _⟩
  subst eu
  by_cases ef : f = f'
  case neg =>
    have HE : Hid (sameR (k, u, f, R, o) (k, u, f', R', p) = false) := sameR_no (by intro e; apply ef; simp at e; simp [e])
    have df : (f == f') = false := by simpa using ef
    clear ef
    go_enter Tryd.func12, Tryd.ntmps12
    go_wp2
    go_ret
    exact ⟨ret_bool HE.out.symm, Go.Joins.below_alloc2 w _ _⟩
  subst ef
  have hq := run_eql_opg o p
  have hgd := guard_op
  go_enter Tryd.func12, Tryd.ntmps12
  go_wp2_with fail
  obtain ⟨W0, hW, hA, hC, hB, -⟩ := laid2 w [.int .i64 k, .int .i64 u, .int .i64 f, .slice a R.length c, .int .i64 o.1, .int .i64 o.2.1, .int .i64 o.2.2.1.1, .int .i64 o.2.2.1.2.1, .int .i64 o.2.2.1.2.2, .int .i64 o.2.2.2.1, .int .i64 o.2.2.2.2] 28 [.int .i64 k, .int .i64 u, .int .i64 f, .slice a' R'.length c', .int .i64 p.1, .int .i64 p.2.1, .int .i64 p.2.2.1.1, .int .i64 p.2.2.1.2.1, .int .i64 p.2.2.1.2.2, .int .i64 p.2.2.2.1, .int .i64 p.2.2.2.2] 28
  rw [hW]
  clear hW
  refine (equal_is W0 a a' c c' R R' hl (h.below hB) (h'.below hB)).mono ?_
  rintro e w1 ⟨rfl, n, rfl⟩
  have hb1 : Below W0.heap.size W0 (W0.drewN n) := below_drewN' _ _ _
  have hA1 := hA.keep hb1
  have hC1 := hC.keep hb1
  have HB1 : Hid (Below w.heap.size w (W0.drewN n)) := hB.trans (hb1.mono hB.size)
  clear hA hC hB hb1 h h'
  generalize W0.drewN n = W1 at *
  have x4 := hA1.at 4 rfl
  have y4 := hC1.at 4 rfl
  have x5 := hA1.at 5 rfl
  have y5 := hC1.at 5 rfl
  have x6 := hA1.at 6 rfl
  have y6 := hC1.at 6 rfl
  have x7 := hA1.at 7 rfl
  have y7 := hC1.at 7 rfl
  have x8 := hA1.at 8 rfl
  have y8 := hC1.at 8 rfl
  have x9 := hA1.at 9 rfl
  have y9 := hC1.at 9 rfl
  have x10 := hA1.at 10 rfl
  have y10 := hC1.at 10 rfl
  clear hA1 hC1
  cases he : eqIs R R'
  · have HE : Hid (sameR (k, u, f, R, o) (k, u, f, R', p) = false) := sameR_no (by intro e; simp at e; exact eqIs_ne he e.1)
    go_wp2
    go_ret
    exact ⟨ret_bool HE.out.symm, HB1.out⟩
  · have HE : Hid (sameR (k, u, f, R, o) (k, u, f, R', p) = decide (o = p)) := by
      have := eqIs_eq he
      subst this
      show sameR _ _ = _
      simp [sameR]
    clear he
    go_wp2
    go_ret
    exact ⟨ret_bool HE.out.symm, HB1.out⟩
end Go.Proofs.YtmlodnamknielacDoor

