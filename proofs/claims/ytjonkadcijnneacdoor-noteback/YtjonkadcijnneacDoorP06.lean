/- 6 texts of the proof: note.join. note.Check, orangeryref.CheckRec: what they answer of whatever record. note.Parse. note.split. note.Print. orangerylaw.op; an own slice is read. -/
import Derived.Deep.RegionHeld3
import Derived.Laws.AppendOwnNone
import Derived.Test.YtjonkadcijnneacDoorP05
import Derived.Test.YtjonkadcijnneacDoorP03
import Derived.Test.YtjonkadcijnneacDoorP04
/- note.join. -/
namespace Go.Proofs.YtjonkadcijnneacDoor
open Go.ChangeShapes Go.WideShapes Go.ChangeAt Go.RowKit
open Orangery (Mv Rc noRec noOp recOf wOp wLife wRoots)

/-- an address from block B on -/
def From (B : Nat) (a : Option Addr) : Prop := ∀ b off, a = some ⟨b, off, none⟩ → B ≤ b
theorem from_none {B : Nat} : From B none := fun _ _ e => by simp at e
theorem from_mono {B B' : Nat} {a : Option Addr} (h : From B a) (hb : B' ≤ B) : From B' a := fun b off e => Nat.le_trans hb (h b off e)
theorem from_own {W : World} {base : Nat} {a : Option Addr} {n c : Nat} {l : List Int} (h : OwnI W base (.slice a n c) l) : From base a := by
  rcases h.2 with ⟨e2, _⟩ | ⟨g, cap', cur, e2, hg, _⟩
  · intro b off e
    subst e
    simp at e2
  · intro b off e
    subst e
    simp at e2
    omega
theorem OwnI.caps {w : World} {base : Nat} {v : Value} {l : List Int} (h : OwnI w base v l) : ∃ a cap, v = .slice a l.length cap ∧ SlI w a l ∧ l.length ≤ cap ∧ cap ≤ maxLen := by
  obtain ⟨a, cap, e, hs⟩ := h.val
  refine ⟨a, cap, e, hs, ?_⟩
  rcases h.2 with ⟨e2, hn⟩ | ⟨g, cap', cur, e2, _, _, hn, hm, _⟩
  · rw [e] at e2
    obtain ⟨_, h2, h3⟩ : a = none ∧ l.length = 0 ∧ cap = 0 := by simpa using e2
    omega
  · rw [e] at e2
    obtain ⟨_, rfl⟩ : a = _ ∧ cap = cap' := by simpa using e2
    exact ⟨hn, hm⟩

theorem SlI.sets {w : World} {a : Option Addr} {l : List Int} {B g : Nat} (h : SlI w a l) (hf : From B a) (hg : g < B) : ∀ (us : List Value) (o : Nat), SlI (w.setCells g o us) a l := by
  intro us
  induction us generalizing w with
  | nil => intro o; exact h
  | cons u us ih =>
    intro o
    refine ih (w := w.setCell ⟨g, o, none⟩ u) ?_ (o + 1)
    rcases h with h | ⟨b, off, e, hlt, hp⟩
    · exact Or.inl h
    · refine Or.inr ⟨b, off, e, by simpa using hlt, fun i hi => ?_⟩
      have := hf b off e
      rw [World.cell?_setCell_other _ _ _ _ (by simp <;> omega)]
      exact hp i hi

/-- the value of a record whose roots lie in memory, from block B on -/
def RecIs (B : Nat) (w : World) (v : Value) (r : Rc) : Prop := ∃ a c, v = rcV r.1 r.2.1 r.2.2.1 (.slice a r.2.2.2.1.length c) r.2.2.2.2 ∧ SlI w a r.2.2.2.1 ∧ From B a ∧ (a = none → c = 0)
theorem RecIs.keep {B : Nat} {w w' : World} {v : Value} {r : Rc} (h : RecIs B w v r) (hb : Below w.heap.size w w') : RecIs B w' v r := by
  obtain ⟨a, c, e, hs, hf, hn⟩ := h
  exact ⟨a, c, e, hs.below hb, hf, hn⟩
theorem recIs_none (B : Nat) (w : World) : RecIs B w (rcV 0 0 0 (.slice none 0 0) noOp) noRec := ⟨none, 0, rfl, SlI.nil, from_none, fun _ => rfl⟩
theorem sizeRec : (Tryd.prog.info? 28).map (·.size) = some 11 := by kernel_rfl

theorem recOf_op {t : List UInt8} {N : List Int} (h1 : t = wOp) (h2 : N.length = 7) : recOf t N = some (1, 0, 0, [], (N.getD 0 0, N.getD 1 0, (N.getD 2 0, N.getD 3 0, N.getD 4 0), N.getD 5 0, N.getD 6 0)) := by
  unfold recOf; rw [if_pos ⟨h1, h2⟩]
theorem recOf_life {t : List UInt8} {N : List Int} (h1 : t = wLife) (h2 : N.length = 2) : recOf t N = some (2, N.getD 0 0, N.getD 1 0, [], noOp) := by
  unfold recOf; rw [if_neg (by rw [h2]; omega), if_pos ⟨h1, h2⟩]
theorem recOf_roots {t : List UInt8} {N : List Int} (h1 : t = wRoots) (h2 : 1 ≤ N.length) : recOf t N = some (3, N.getD 0 0, 0, N.tail, noOp) := by
  unfold recOf; rw [if_neg (by intro h; rw [h1] at h; exact absurd h.1 (by decide)), if_neg (by intro h; rw [h1] at h; exact absurd h.1 (by decide)), if_pos ⟨h1, h2⟩]
theorem recOf_none {t : List UInt8} {N : List Int} (h1 : ¬ (t = wOp ∧ N.length = 7)) (h2 : ¬ (t = wLife ∧ N.length = 2)) (h3 : ¬ (t = wRoots ∧ 1 ≤ N.length)) : recOf t N = none := by
  unfold recOf; rw [if_neg h1, if_neg h2, if_neg h3]

set_option maxHeartbeats 2000000 in
set_option maxRecDepth 100000 in
theorem njoin_op (w : World) (a : Option Addr) (c : Nat) (n0 n1 n2 n3 n4 n5 n6 : Int) (h : SlI w a [n0, n1, n2, n3, n4, n5, n6]) :
    Calls Tryd.prog 19 #[txV wOp, .slice a 7 c] w
      fun e w' => e = .returned (.tuple #[rcV 1 0 0 (.slice none 0 0) (n0, n1, (n2, n3, n4), n5, n6), .bool true]) ∧ Below w.heap.size w w' := by
  rcases h with h | ⟨b, off, rfl, hlt, hp⟩
  · simp at h
  have x0 : w.cell? ⟨b, off, none⟩ = some (.int .i64 n0) := hp 0 (by simp)
  have x1 : w.cell? ⟨b, off + 1, none⟩ = some (.int .i64 n1) := hp 1 (by simp)
  have x2 : w.cell? ⟨b, off + 2, none⟩ = some (.int .i64 n2) := hp 2 (by simp)
  have x3 : w.cell? ⟨b, off + 3, none⟩ = some (.int .i64 n3) := hp 3 (by simp)
  have x4 : w.cell? ⟨b, off + 4, none⟩ = some (.int .i64 n4) := hp 4 (by simp)
  have x5 : w.cell? ⟨b, off + 5, none⟩ = some (.int .i64 n5) := hp 5 (by simp)
  have x6 : w.cell? ⟨b, off + 6, none⟩ = some (.int .i64 n6) := hp 6 (by simp)
  have hne : ¬ w.heap.size = b := by omega
  clear hp
  go_enter Tryd.func19, Tryd.ntmps19
  go_wp2_with fail
  go_region_held3 (fun w' => w'.cell? ⟨b, off, none⟩ = some (.int .i64 n0) ∧ w'.cell? ⟨b, off + 1, none⟩ = some (.int .i64 n1) ∧ w'.cell? ⟨b, off + 2, none⟩ = some (.int .i64 n2) ∧ w'.cell? ⟨b, off + 3, none⟩ = some (.int .i64 n3) ∧ w'.cell? ⟨b, off + 4, none⟩ = some (.int .i64 n4) ∧ w'.cell? ⟨b, off + 5, none⟩ = some (.int .i64 n5) ∧ w'.cell? ⟨b, off + 6, none⟩ = some (.int .i64 n6)) (go_keep) (fail)
  go_wp2
  refine ret_cell_tmp Tryd.results19 rfl rfl (((Blk.new w [.int .i64 1, .int .i64 0, .int .i64 0, .slice none 0 0, .int .i64 n0, .int .i64 n1, .int .i64 n2, .int .i64 n3, .int .i64 n4, .int .i64 n5, .int .i64 n6] 28).alloc _).drew.load Tryd.underlying28 rfl sizeRec) ?_
  exact ⟨rfl, (Go.Joins.below_alloc2 w _ _).drew⟩

set_option maxHeartbeats 2000000 in
set_option maxRecDepth 100000 in
theorem njoin_life (w : World) (a : Option Addr) (c : Nat) (n0 n1 : Int) (h : SlI w a [n0, n1]) :
    Calls Tryd.prog 19 #[txV wLife, .slice a 2 c] w
      fun e w' => e = .returned (.tuple #[rcV 2 n0 n1 (.slice none 0 0) noOp, .bool true]) ∧ Below w.heap.size w w' := by
  rcases h with h | ⟨b, off, rfl, hlt, hp⟩
  · simp at h
  have x0 : w.cell? ⟨b, off, none⟩ = some (.int .i64 n0) := hp 0 (by simp)
  have x1 : w.cell? ⟨b, off + 1, none⟩ = some (.int .i64 n1) := hp 1 (by simp)
  have hne : ¬ w.heap.size = b := by omega
  clear hp
  go_enter Tryd.func19, Tryd.ntmps19
  go_wp2_with fail
  go_region_held3 (fun w' => w'.cell? ⟨b, off, none⟩ = some (.int .i64 n0) ∧ w'.cell? ⟨b, off + 1, none⟩ = some (.int .i64 n1)) (go_keep) (fail)
  go_wp2
  refine ret_cell_tmp Tryd.results19 rfl rfl ((Blk.new w [.int .i64 2, .int .i64 n0, .int .i64 n1, .slice none 0 0, .int .i64 0, .int .i64 0, .int .i64 0, .int .i64 0, .int .i64 0, .int .i64 0, .int .i64 0] 28).drew.load Tryd.underlying28 rfl sizeRec) ?_
  exact ⟨rfl, (Go.Joins.below_alloc1 w _).drew⟩

set_option maxHeartbeats 2000000 in
set_option maxRecDepth 100000 in
theorem njoin_roots (w : World) (a : Option Addr) (c : Nat) (n0 : Int) (R : List Int) (hl : R.length ≤ 60000) (hc : R.length + 1 ≤ c) (hc2 : c ≤ maxLen) (h : SlI w a (n0 :: R)) :
    Calls Tryd.prog 19 #[txV wRoots, .slice a (R.length + 1) c] w
      fun e w' => (∃ a' c', e = .returned (.tuple #[rcV 3 n0 0 (.slice a' R.length c') noOp, .bool true]) ∧ SlI w' a' R ∧ (∀ B, From B a → From B a') ∧ (a' = none → c' = 0)) ∧ Below w.heap.size w w' := by
  rcases h with h | ⟨b, off, rfl, hlt, hp⟩
  · simp at h
  have x0 : w.cell? ⟨b, off, none⟩ = some (.int .i64 n0) := hp 0 (by simp)
  have hne : ¬ w.heap.size = b := by omega
  have hc3 : c ≤ 9223372036854775807 := hc2
  have HP : Hid (IntsAt w b off (n0 :: R)) := hp
  clear hp hc2
  have d1 : (1 : Int) ≤ (R.length : Int) + 1 := by omega
  have d2 : decide ((R.length : Int) + 1 ≥ 1) = true := by simp; omega
  by_cases h1 : c = 1
  · obtain rfl : R = [] := by cases R with
      | nil => rfl
      | cons x l => simp at hc; omega
    subst h1
    go_enter Tryd.func19, Tryd.ntmps19
    go_wp2_with fail
    go_region_held3 (fun w' => w'.cell? ⟨b, off, none⟩ = some (.int .i64 n0)) (go_keep) (fail)
    go_wp2
    refine ret_cell_tmp Tryd.results19 rfl rfl ((Blk.new w [.int .i64 3, .int .i64 n0, .int .i64 0, .slice (some ⟨b, off, none⟩) 0 0, .int .i64 0, .int .i64 0, .int .i64 0, .int .i64 0, .int .i64 0, .int .i64 0, .int .i64 0] 28).drew.load Tryd.underlying28 rfl sizeRec) ?_
    exact ⟨⟨_, _, rfl, SlI.nil, fun _ h => h, fun e => by simp at e⟩, (Go.Joins.below_alloc1 w _).drew⟩
  · have d3 : 2 ≤ c := by omega
    have d4 : ¬ c - 1 = 0 := by omega
    go_enter Tryd.func19, Tryd.ntmps19
    go_wp2_with fail
    go_region_held3 (fun w' => w'.cell? ⟨b, off, none⟩ = some (.int .i64 n0)) (go_keep) (fail)
    go_wp2
    have hS : SlI ((w.alloc (Obj.cells [Value.int IntKind.i64 3, .int .i64 n0, .int .i64 0, .slice (some ⟨b, off + 1, none⟩) R.length (c - 1), .int .i64 0, .int .i64 0, .int .i64 0, .int .i64 0, .int .i64 0, .int .i64 0, .int .i64 0].toArray 28)).drew) (some ⟨b, off + 1, none⟩) R := by
      refine SlI.below (w := w) (Or.inr ⟨b, off + 1, rfl, hlt, ?_⟩) (Go.Joins.below_alloc1 w _).drew
      intro i hi
      have := HP.out (i + 1) (by simp; omega)
      rw [show off + 1 + i = off + (i + 1) by omega]
      simpa using this
    refine ret_cell_tmp Tryd.results19 rfl rfl ((Blk.new w [.int .i64 3, .int .i64 n0, .int .i64 0, .slice (some ⟨b, off + 1, none⟩) R.length (c - 1), .int .i64 0, .int .i64 0, .int .i64 0, .int .i64 0, .int .i64 0, .int .i64 0, .int .i64 0] 28).drew.load Tryd.underlying28 rfl sizeRec) ?_
    exact ⟨⟨_, _, rfl, hS, fun B hB b' off' e => hB b' off (by simp at e; rw [e.1]), fun e => by simp at e⟩, (Go.Joins.below_alloc1 w _).drew⟩

set_option maxHeartbeats 2000000 in
theorem njoin_none (w : World) (t : List UInt8) (a : Option Addr) (c : Nat) (N : List Int) (hl : N.length ≤ 60001) (h1 : ¬ (t = wOp ∧ N.length = 7)) (h2 : ¬ (t = wLife ∧ N.length = 2)) (h3 : ¬ (t = wRoots ∧ 1 ≤ N.length)) :
    Calls Tryd.prog 19 #[txV t, .slice a N.length c] w
      fun e w' => e = .returned (.tuple #[rcV 0 0 0 (.slice none 0 0) noOp, .bool false]) ∧ Below w.heap.size w w' := by
  have fin : ∀ W, W = w.alloc (Obj.cells [Value.int IntKind.i64 0, .int .i64 0, .int .i64 0, .slice none 0 0, .int .i64 0, .int .i64 0, .int .i64 0, .int .i64 0, .int .i64 0, .int .i64 0, .int .i64 0].toArray 28) → Below w.heap.size w W ∧ Blk W w.heap.size [Value.int IntKind.i64 0, .int .i64 0, .int .i64 0, .slice none 0 0, .int .i64 0, .int .i64 0, .int .i64 0, .int .i64 0, .int .i64 0, .int .i64 0, .int .i64 0] :=
    fun W e => by subst e; exact ⟨Go.Joins.below_alloc1 w _, Blk.new w _ 28⟩
  have HF := Lib.hid fin
  clear fin
  by_cases e1 : t = wOp
  · have d1 : ((N.length : Int) == 7) = false := by
      have : N.length ≠ 7 := fun e => h1 ⟨e1, e⟩
      simp; omega
    subst e1
    clear h1 h2 h3
    go_enter Tryd.func19, Tryd.ntmps19
    go_wp2
    obtain ⟨f1, f2⟩ := HF.out _ rfl
    refine ret_cell_tmp Tryd.results19 rfl rfl (f2.load Tryd.underlying28 rfl sizeRec) ⟨rfl, f1⟩
  by_cases e2 : t = wLife
  · have d1 : ((N.length : Int) == 2) = false := by
      have : N.length ≠ 2 := fun e => h2 ⟨e2, e⟩
      simp; omega
    subst e2
    clear h1 h2 h3
    go_enter Tryd.func19, Tryd.ntmps19
    go_wp2
    obtain ⟨f1, f2⟩ := HF.out _ rfl
    refine ret_cell_tmp Tryd.results19 rfl rfl (f2.load Tryd.underlying28 rfl sizeRec) ⟨rfl, f1⟩
  by_cases e3 : t = wRoots
  · have d0 : N.length = 0 := by
      have : ¬ 1 ≤ N.length := fun e => h3 ⟨e3, e⟩
      omega
    obtain rfl := List.length_eq_zero_iff.1 d0
    subst e3
    clear h1 h2 h3 d0
    go_enter Tryd.func19, Tryd.ntmps19
    go_wp2
    obtain ⟨f1, f2⟩ := HF.out _ rfl
    refine ret_cell_tmp Tryd.results19 rfl rfl (f2.load Tryd.underlying28 rfl sizeRec) ⟨rfl, f1⟩
  have d1 : (t == [111, 112]) = false := by simpa [wOp] using e1
  have d2 : (t == [108, 105, 102, 101]) = false := by simpa [wLife] using e2
  have d3 : (t == [114, 111, 111, 116, 115]) = false := by simpa [wRoots] using e3
  clear h1 h2 h3 e1 e2 e3
  go_enter Tryd.func19, Tryd.ntmps19
  go_wp2
  obtain ⟨f1, f2⟩ := HF.out _ rfl
  refine ret_cell_tmp Tryd.results19 rfl rfl (f2.load Tryd.underlying28 rfl sizeRec) ⟨rfl, f1⟩

theorem njoin_any (w : World) (B : Nat) (t : List UInt8) (a : Option Addr) (c : Nat) (N : List Int) (hf : From B a) (hl : N.length ≤ 60001) (hc : N.length ≤ c) (hc2 : c ≤ maxLen) (h : SlI w a N) :
    Calls Tryd.prog 19 #[txV t, .slice a N.length c] w
      fun e w' => (∃ v, e = .returned (.tuple #[v, .bool (recOf t N).isSome]) ∧ RecIs B w' v ((recOf t N).getD noRec)) ∧ Below w.heap.size w w' := by
  by_cases h1 : t = wOp ∧ N.length = 7
  · rw [recOf_op h1.1 h1.2]
    obtain ⟨rfl, h2⟩ := h1
    match N, h2 with
    | [n0, n1, n2, n3, n4, n5, n6], _ =>
      refine (njoin_op w a c n0 n1 n2 n3 n4 n5 n6 h).mono ?_
      rintro e w' ⟨rfl, hb⟩
      exact ⟨⟨_, rfl, none, 0, rfl, SlI.nil, from_none, fun _ => rfl⟩, hb⟩
  by_cases h2 : t = wLife ∧ N.length = 2
  · rw [recOf_life h2.1 h2.2]
    obtain ⟨rfl, h3⟩ := h2
    match N, h3 with
    | [n0, n1], _ =>
      refine (njoin_life w a c n0 n1 h).mono ?_
      rintro e w' ⟨rfl, hb⟩
      exact ⟨⟨_, rfl, none, 0, rfl, SlI.nil, from_none, fun _ => rfl⟩, hb⟩
  by_cases h3 : t = wRoots ∧ 1 ≤ N.length
  · rw [recOf_roots h3.1 h3.2]
    obtain ⟨rfl, h4⟩ := h3
    match N, h4 with
    | n0 :: R, _ =>
      refine (njoin_roots w a c n0 R (by simp at hl; omega) (by simpa using hc) hc2 h).mono ?_
      rintro e w' ⟨⟨a', c', rfl, hs, hg, hn⟩, hb⟩
      exact ⟨⟨_, rfl, a', c', rfl, hs, hg B hf, hn⟩, hb⟩
  rw [recOf_none h1 h2 h3]
  refine (njoin_none w t a c N hl h1 h2 h3).mono ?_
  rintro e w' ⟨rfl, hb⟩
  exact ⟨⟨_, rfl, recIs_none B w'⟩, hb⟩
end Go.Proofs.YtjonkadcijnneacDoor

/- note.Check, orangeryref.CheckRec: what they answer of whatever record. -/
namespace Go.Proofs.YtjonkadcijnneacDoor
open Go.ChangeShapes Go.WideShapes Go.ChangeAt Go.RowKit
open Orangery (Pl Mv Rc noOp checkRec checkOp rootsOk)

theorem checkRec_1 (u f : Int) (R : List Int) (o : Mv) : checkRec (1, u, f, R, o) = opRecE u f R o := rfl
theorem checkRec_2 (u f : Int) (R : List Int) (o : Mv) : checkRec (2, u, f, R, o) = cliE 2 u f R o := by
  unfold checkRec cliE
  simp only [if_neg (show ¬ (2 : Int) = 1 by decide), if_true]
  by_cases h1 : o = noOp
  · by_cases h2 : R = []
    · subst h1 h2
      simp
      split
      · rfl
      · rfl
    · simp [h1, h2]
  · simp [h1]
theorem checkRec_3 (u f : Int) (R : List Int) (o : Mv) : checkRec (3, u, f, R, o) = cliE 3 u f R o := by
  unfold checkRec cliE
  simp only [if_neg (show ¬ (3 : Int) = 1 by decide), if_neg (show ¬ (3 : Int) = 2 by decide), if_true]
  simp
theorem checkRec_0 {k : Int} (h1 : k ≠ 1) (h2 : k ≠ 2) (h3 : k ≠ 3) (u f : Int) (R : List Int) (o : Mv) : checkRec (k, u, f, R, o) = 4 := by
  unfold checkRec
  simp only
  rw [if_neg h1, if_neg h2, if_neg h3]

set_option maxHeartbeats 1000000 in
theorem ncheck_any (w : World) (k u f : Int) (a : Option Addr) (c : Nat) (R : List Int) (o : Mv) (hl : R.length ≤ maxLen) (h : SlI w a R) :
    Calls Tryd.prog 9 #[rcV k u f (.slice a R.length c) o] w fun e w' => e = .returned (.int .i64 (checkRec (k, u, f, R, o))) ∧ Below w.heap.size w w' := by
  by_cases h1 : k = 1
  · subst h1
    rw [checkRec_1]
    go_enter Tryd.func9, Tryd.ntmps9
    go_wp2_with fail
    refine (ncheckOp_any _ 1 u f a c R o).mono ?_
    rintro e w1 ⟨rfl, hb⟩
    have hb1 : Below w.heap.size w w1 := (Go.Joins.below_alloc1 w _).trans (hb.mono (by simp))
    clear hb
    go_wp2
    go_ret
    exact ⟨rfl, hb1⟩
  by_cases h2 : k = 2
  · subst h2
    rw [checkRec_2]
    clear h1
    go_enter Tryd.func9, Tryd.ntmps9
    go_wp2_with fail
    refine (ncheckOfClient_any _ 2 u f a c R o hl (h.below (Go.Joins.below_alloc1 w _))).mono ?_
    rintro e w1 ⟨rfl, hb⟩
    have hb1 : Below w.heap.size w w1 := (Go.Joins.below_alloc1 w _).trans (hb.mono (by simp))
    clear hb
    go_wp2
    go_ret
    exact ⟨rfl, hb1⟩
  by_cases h3 : k = 3
  · subst h3
    rw [checkRec_3]
    clear h1 h2
    go_enter Tryd.func9, Tryd.ntmps9
    go_wp2_with fail
    refine (ncheckOfClient_any _ 3 u f a c R o hl (h.below (Go.Joins.below_alloc1 w _))).mono ?_
    rintro e w1 ⟨rfl, hb⟩
    have hb1 : Below w.heap.size w w1 := (Go.Joins.below_alloc1 w _).trans (hb.mono (by simp))
    clear hb
    go_wp2
    go_ret
    exact ⟨rfl, hb1⟩
  have HE : Hid (checkRec (k, u, f, R, o) = 4) := checkRec_0 h1 h2 h3 u f R o
  have e1 : (k == 1) = false := by simpa using h1
  have e2 : (k == 2) = false := by simpa using h2
  have e3 : (k == 3) = false := by simpa using h3
  clear h1 h2 h3
  go_enter Tryd.func9, Tryd.ntmps9
  go_wp2
  go_ret
  exact ⟨ret_int HE.out.symm, Go.Joins.below_alloc1 w _⟩

theorem cli2_range {u f : Int} {o : Mv} (ho : o = noOp) (h2 : ¬ (0 ≤ u ∧ u ≤ 2) ∨ ¬ (1 ≤ f ∧ f ≤ 50)) : cliE 2 u f [] o = 3 := by
  refine cliE_range (by simp [ho]) ?_
  rcases h2 with h2 | h2
  · exact Or.inl h2
  · exact Or.inr ⟨rfl, h2⟩
theorem cli2_ok {u f : Int} {o : Mv} (ho : o = noOp) (h1 : 0 ≤ u ∧ u ≤ 2) (h2 : 1 ≤ f ∧ f ≤ 50) : cliE 2 u f [] o = rootsOk [] := cliE_ok (by simp [ho]) (by omega)

theorem in02 (u : Int) : (inB u 0 2 = false → ¬ (0 ≤ u ∧ u ≤ 2)) ∧ (inB u 0 2 = true → 0 ≤ u ∧ u ≤ 2) := by
  constructor <;> intro h <;> simpa [inB] using h
theorem in150 (u : Int) : (inB u 1 50 = false → ¬ (1 ≤ u ∧ u ≤ 50)) ∧ (inB u 1 50 = true → 1 ≤ u ∧ u ≤ 50) := by
  constructor <;> intro h <;> simpa [inB] using h

set_option maxHeartbeats 2000000 in
theorem rcheckRec_any (w : World) (k u f : Int) (a : Option Addr) (c : Nat) (R : List Int) (o : Mv) (hl : R.length ≤ maxLen) (h : SlI w a R) :
    Calls Tryd.prog 20 #[rcV k u f (.slice a R.length c) o] w fun e w' => e = .returned (.int .i64 (checkRec (k, u, f, R, o))) ∧ Below w.heap.size w w' := by
  have hne : ∀ w, (binOp .neq 26 (opV o) (.agg #[.int .i64 0, .int .i64 0, .int .i64 0, .int .i64 0, .int .i64 0, .int .i64 0, .int .i64 0])).run Tryd.prog w = .ok (.bool (!decide (o = noOp))) w := run_neq_opg o noOp
  have hgd := guard_op
  by_cases h1 : k = 1
  · subst h1
    rw [checkRec_1]
    clear hne hgd
    by_cases hu : u = 0
    case neg =>
      have HE : Hid (opRecE u f R o = 4) := opRecE_bad (Or.inl hu)
      have d1 : (u != 0) = true := by simpa using hu
      go_enter Tryd.func20, Tryd.ntmps20
      go_wp2
      go_ret
      exact ⟨ret_int HE.out.symm, Go.Joins.below_alloc1 w _⟩
    by_cases hf : f = 0
    case neg =>
      have HE : Hid (opRecE u f R o = 4) := opRecE_bad (Or.inr (Or.inl hf))
      have d1 : (u != 0) = false := by simpa using hu
      have d2 : (f != 0) = true := by simpa using hf
      clear hu
      go_enter Tryd.func20, Tryd.ntmps20
      go_wp2
      go_ret
      exact ⟨ret_int HE.out.symm, Go.Joins.below_alloc1 w _⟩
    by_cases hr : R = []
    case neg =>
      have HE : Hid (opRecE u f R o = 4) := opRecE_bad (Or.inr (Or.inr hr))
      have d1 : (u != 0) = false := by simpa using hu
      have d2 : (f != 0) = false := by simpa using hf
      have d3 : 0 < R.length := List.length_pos_iff.2 hr
      have d4 : ((R.length : Int) != 0) = true := by simp; exact hr
      clear hu hf hr
      go_enter Tryd.func20, Tryd.ntmps20
      go_wp2
      go_ret
      exact ⟨ret_int HE.out.symm, Go.Joins.below_alloc1 w _⟩
    subst hu hf hr
    obtain ⟨o1, o2, ⟨o3, o4, o5⟩, o6, o7⟩ := o
    go_enter Tryd.func20, Tryd.ntmps20
    go_wp2_with fail
    refine (refCheckOp_any _ (o1, o2, (o3, o4, o5), o6, o7)).mono ?_
    rintro e w1 ⟨rfl, hb⟩
    have hb1 : Below w.heap.size w w1 := (Go.Joins.below_alloc1 w _).trans (hb.mono (by simp))
    clear hb
    go_wp2
    go_ret
    exact ⟨rfl, hb1⟩
  by_cases h2 : k = 2
  · subst h2
    rw [checkRec_2]
    clear h1
    by_cases ho : o = noOp
    case neg =>
      have HE : Hid (cliE 2 u f R o = 4) := cliE_form (Or.inl ho)
      have d0 : decide (o = noOp) = false := by simpa using ho
      clear ho
      go_enter Tryd.func20, Tryd.ntmps20
      go_wp2
      go_ret
      exact ⟨ret_int HE.out.symm, Go.Joins.below_alloc1 w _⟩
    have d0 : decide (o = noOp) = true := by simpa using ho
    have HO : Hid (o = noOp) := ho
    clear ho
    by_cases hr : R = []
    case neg =>
      have HE : Hid (cliE 2 u f R o = 4) := cliE_form (Or.inr (Or.inr ⟨rfl, hr⟩))
      have d3 : 0 < R.length := List.length_pos_iff.2 hr
      have d4 : ((R.length : Int) != 0) = true := by simp; exact hr
      clear hr
      go_enter Tryd.func20, Tryd.ntmps20
      go_wp2
      go_ret
      exact ⟨ret_int HE.out.symm, Go.Joins.below_alloc1 w _⟩
    subst hr
    go_enter Tryd.func20, Tryd.ntmps20
    go_wp2_with fail
    refine (rin_any _ u _ _).mono ?_
    rintro e w1 ⟨rfl, rfl⟩
    have HU : Hid ((inB u 0 2 = false → ¬ (0 ≤ u ∧ u ≤ 2)) ∧ (inB u 0 2 = true → 0 ≤ u ∧ u ≤ 2)) := in02 u
    cases q1 : inB u 0 2
    · have HE : Hid (cliE 2 u f [] o = 3) := cli2_range HO.out (Or.inl (HU.out.1 q1))
      go_wp2
      go_ret
      exact ⟨ret_int HE.out.symm, Go.Joins.below_alloc1 w _⟩
    go_wp2_with fail
    refine (rin_any _ f _ _).mono ?_
    rintro e w1 ⟨rfl, rfl⟩
    have HV : Hid ((inB f 1 50 = false → ¬ (1 ≤ f ∧ f ≤ 50)) ∧ (inB f 1 50 = true → 1 ≤ f ∧ f ≤ 50)) := in150 f
    cases q2 : inB f 1 50
    · have HE : Hid (cliE 2 u f [] o = 3) := cli2_range HO.out (Or.inr (HV.out.1 q2))
      go_wp2
      go_ret
      exact ⟨ret_int HE.out.symm, Go.Joins.below_alloc1 w _⟩
    have HE : Hid (cliE 2 u f [] o = rootsOk []) := cli2_ok HO.out (HU.out.2 q1) (HV.out.2 q2)
    go_wp2
    go_ret
    exact ⟨ret_int HE.out.symm, Go.Joins.below_alloc1 w _⟩
  by_cases h3 : k = 3
  · subst h3
    rw [checkRec_3]
    clear h1 h2
    by_cases ho : o = noOp
    case neg =>
      have HE : Hid (cliE 3 u f R o = 4) := cliE_form (Or.inl ho)
      have d0 : decide (o = noOp) = false := by simpa using ho
      clear ho
      go_enter Tryd.func20, Tryd.ntmps20
      go_wp2
      go_ret
      exact ⟨ret_int HE.out.symm, Go.Joins.below_alloc1 w _⟩
    have d0 : decide (o = noOp) = true := by simpa using ho
    have HO : Hid (o = noOp) := ho
    clear ho
    by_cases hf : f = 0
    case neg =>
      have HE : Hid (cliE 3 u f R o = 4) := cliE_form (Or.inr (Or.inl ⟨by decide, hf⟩))
      have d3 : (f != 0) = true := by simpa using hf
      go_enter Tryd.func20, Tryd.ntmps20
      go_wp2
      go_ret
      exact ⟨ret_int HE.out.symm, Go.Joins.below_alloc1 w _⟩
    have HF : Hid (¬ (o ≠ noOp ∨ ((3 : Int) ≠ 2 ∧ f ≠ 0) ∨ ((3 : Int) = 2 ∧ R ≠ []))) := by
      show ¬ _
      have h1 := HO.out
      simp [h1, hf]
    subst hf
    go_enter Tryd.func20, Tryd.ntmps20
    go_wp2_with fail
    refine (rin_any _ u _ _).mono ?_
    rintro e w1 ⟨rfl, rfl⟩
    have HU : Hid ((inB u 0 2 = false → ¬ (0 ≤ u ∧ u ≤ 2)) ∧ (inB u 0 2 = true → 0 ≤ u ∧ u ≤ 2)) := in02 u
    cases q1 : inB u 0 2
    · have HE : Hid (cliE 3 u 0 R o = 3) := cliE_range HF.out (Or.inl (HU.out.1 q1))
      go_wp2
      go_ret
      exact ⟨ret_int HE.out.symm, Go.Joins.below_alloc1 w _⟩
    have HE : Hid (cliE 3 u 0 R o = rootsOk R) := cliE_ok HF.out (by have := HU.out.2 q1; omega)
    go_wp2_with fail
    refine (rroots_any _ a c R hl (h.below (Go.Joins.below_alloc1 w _))).mono ?_
    rintro e w1 ⟨rfl, rfl⟩
    go_wp2
    go_ret
    exact ⟨ret_int HE.out.symm, Go.Joins.below_alloc1 w _⟩
  have HE : Hid (checkRec (k, u, f, R, o) = 4) := checkRec_0 h1 h2 h3 u f R o
  have e1 : (k == 1) = false := by simpa using h1
  have e2 : (k == 2) = false := by simpa using h2
  have e3 : (k == 3) = false := by simpa using h3
  clear h1 h2 h3
  go_enter Tryd.func20, Tryd.ntmps20
  go_wp2
  go_ret
  exact ⟨ret_int HE.out.symm, Go.Joins.below_alloc1 w _⟩
end Go.Proofs.YtjonkadcijnneacDoor

/- note.Parse. -/
namespace Go.Proofs.YtjonkadcijnneacDoor
open Go.ChangeShapes Go.WideShapes Go.ChangeAt Go.RowKit
open Orangery (Mv Rc noRec noOp recOf numsOf wordsB readO readE readR parseE parseR checkRec)

abbrev zeroRec : List Value := [.int .i64 0, .int .i64 0, .int .i64 0, .slice none 0 0, .int .i64 0, .int .i64 0, .int .i64 0, .int .i64 0, .int .i64 0, .int .i64 0, .int .i64 0]

theorem parse_long {t : List UInt8} (h : 60000 < t.length) : parseE t = 2 ∧ parseR t = noRec := by
  unfold parseE parseR
  rw [if_pos h, if_pos h]
  exact ⟨rfl, rfl⟩
theorem parse_words {t : List UInt8} {x : List UInt8} {ws : List (List UInt8)} (h : ¬ 60000 < t.length) (hw : wordsB t = x :: ws) :
    (numsOf ws = none → parseE t = 1 ∧ parseR t = noRec) ∧
    (∀ N, numsOf ws = some N → recOf x N = none → parseE t = 1 ∧ parseR t = noRec) ∧
    (∀ N r, numsOf ws = some N → recOf x N = some r → parseE t = checkRec r ∧ (checkRec r ≠ 0 → parseR t = noRec) ∧ (checkRec r = 0 → parseR t = r)) := by
  have e : readO t = (numsOf ws).bind (recOf x) := by unfold readO; rw [hw]; rfl
  have e1 : parseE t = readE t := by unfold parseE; rw [if_neg h]
  have e2 : parseR t = readR t := by unfold parseR; rw [if_neg h]
  have bad : readO t = none → parseE t = 1 ∧ parseR t = noRec := by
    intro hn
    have e3 : readE t = 1 := by unfold readE; rw [hn]
    refine ⟨e1.trans e3, e2.trans ?_⟩
    unfold readR
    rw [if_pos (by rw [e3]; decide)]
  refine ⟨fun hn => bad (by rw [e, hn]; rfl), fun N hN hr => bad (by rw [e, hN]; exact hr), fun N r hN hr => ?_⟩
  have e3 : readO t = some r := by rw [e, hN]; exact hr
  have e4 : readE t = checkRec r := by unfold readE; rw [e3]
  refine ⟨e1.trans e4, fun hc => e2.trans ?_, fun hc => e2.trans ?_⟩
  · unfold readR; rw [if_pos (by rw [e4]; exact hc)]
  · unfold readR; rw [if_neg (by rw [e4]; simpa using hc), e3]; rfl

theorem recOf_len {x : List UInt8} {N : List Int} {r : Rc} (h : recOf x N = some r) : r.2.2.2.1.length ≤ N.length := by
  unfold recOf at h
  split at h
  · simp at h; subst h; simp
  · split at h
    · simp at h; subst h; simp
    · split at h
      · simp at h; subst h; simp
      · simp at h
theorem words_cells (w : World) (g : Nat) (x : List UInt8) (ws : List (List UInt8)) (hg : g = w.heap.size) :
    (w.alloc (.cells ((x :: ws).map txV).toArray 9)).cell? ⟨g, 0, none⟩ = some (txV x) ∧ SlE txC (w.alloc (.cells ((x :: ws).map txV).toArray 9)) (some ⟨g, 1, none⟩) ws := by
  subst hg
  have hb : (w.alloc (.cells ((x :: ws).map txV).toArray 9)).heap[w.heap.size]? = some (.cells ((x :: ws).map txV).toArray 9 (0, 0)) := blk_new rfl
  constructor
  · rw [Go.Joins.cell_of_block hb]; simp
  · cases ws with
    | nil => exact Or.inl rfl
    | cons y l =>
      refine Or.inr ⟨w.heap.size, 1, rfl, by simp, ?_⟩
      intro j v hj
      have e : (y :: l).flatMap txC = (y :: l).map txV := by
        rw [List.flatMap_def]
        generalize y :: l = m
        induction m with
        | nil => rfl
        | cons z m ih => rw [List.map_cons, List.flatten_cons, ih]; rfl
      rw [e] at hj
      rw [Go.Joins.cell_of_block hb, List.getElem?_toArray, List.map_cons, show 1 + j = j + 1 by omega, List.getElem?_cons_succ]
      exact hj

set_option maxHeartbeats 2000000 in
set_option maxRecDepth 100000 in
theorem nparse_any (w : World) (t : List UInt8) (hl : t.length ≤ maxLen) (hv : Vars w) :
    Calls Tryd.prog 6 #[txV t] w
      fun e w' => (∃ v, e = .returned (.tuple #[v, .int .i64 (parseE t)]) ∧ RecIs w.heap.size w' v (parseR t)) ∧ Below w.heap.size w w' := by
  have hl' : t.length ≤ 9223372036854775807 := hl
  by_cases h6 : 60000 < t.length
  · have d1 : decide ((t.length : Int) > 60000) = true := by simp; omega
    rw [(parse_long h6).1, (parse_long h6).2]
    clear h6
    go_enter Tryd.func6, Tryd.ntmps6
    go_wp2
    refine ret_cell_tmp Tryd.results6 rfl rfl ((Blk.new w zeroRec 28).load Tryd.underlying28 rfl sizeRec) ?_
    exact ⟨⟨_, rfl, recIs_none _ _⟩, Go.Joins.below_alloc1 w _⟩
  have d1 : decide ((t.length : Int) > 60000) = false := by simp; omega
  have hl6 : t.length ≤ 60000 := by omega
  obtain ⟨x, ws, hw⟩ : ∃ x ws, wordsB t = x :: ws := ⟨_, _, Orangery.wordsB_split t⟩
  have HP := Lib.hid (parse_words h6 hw)
  go_enter Tryd.func6, Tryd.ntmps6
  go_wp2_with fail
  obtain ⟨W0, hW, hR, hB, -⟩ := laid1 w zeroRec 28
  rw [hW]
  clear hW
  have hv0 := hv.on hB
  refine (split_any W0 t hl6 hv0).mono ?_
  rintro e w1 ⟨rfl, rfl⟩
  rw [hw]
  have hb1 := Go.Joins.below_alloc1 W0 (Obj.cells ((x :: ws).map txV).toArray 9)
  obtain ⟨x0, hS⟩ := words_cells W0 W0.heap.size x ws rfl
  have hgl : W0.heap.size < (W0.alloc (Obj.cells ((x :: ws).map txV).toArray 9)).heap.size := by simp
  have hv1 := hv0.on hb1
  have hR1 := hR.keep hb1
  have HB1 : Hid (Below w.heap.size w (W0.alloc (Obj.cells ((x :: ws).map txV).toArray 9))) := hB.trans (hb1.mono hB.size)
  have hlen : ws.length ≤ 60000 := by
    have := Orangery.words_count t
    rw [hw] at this
    simp at this
    omega
  have hsm : ∀ y ∈ ws, y.length ≤ 60000 := by
    intro y hy
    have := Orangery.words_small t y (by rw [hw]; simp [hy])
    omega
  have HSM := Lib.hid hsm
  have HV1 := Lib.hid hv1
  clear hb1 hR hv0 hv1 hB hv hsm hw h6
  generalize W0.alloc (Obj.cells ((x :: ws).map txV).toArray 9) = W1 at *
  have hW1 : w.heap.size + 1 ≤ W1.heap.size := hR1.lt
  generalize W0.heap.size = g at *
  simp only [List.length_cons]
  by_cases hz : ws = []
  · subst hz
    go_wp2_with fail
    refine (nread_any W1 (some ⟨g, 0, none⟩) 0 [] (by simp) HSM.out (Or.inl rfl) HV1.out).mono ?_
    rintro e w2 ⟨⟨v2, rfl, hO2⟩, hb2⟩
    have hR2 := hR1.keep hb2
    have x2 := (hb2.cell (p := ⟨g, 0, none⟩) hgl).trans x0
    have HB2 : Hid (Below w.heap.size w w2) := HB1.out.trans (hb2.mono HB1.out.size)
    clear hR1 hb2 HB1 HV1 x0
    cases hn : numsOf ([] : List (List UInt8)) with
    | none =>
      obtain ⟨p1, p2⟩ := HP.out.1 hn
      rw [hn] at hO2
      have HE : Hid (parseE t = 1 ∧ parseR t = noRec) := ⟨p1, p2⟩
      clear p1 p2
      simp only [Option.isSome_none]
      obtain ⟨a2, c2, rfl, _⟩ := hO2.caps
      have r0 := hR2.at 0 rfl
      have r1 := hR2.at 1 rfl
      have r2 := hR2.at 2 rfl
      have r3 := hR2.at 3 rfl
      have r4 := hR2.at 4 rfl
      have r5 := hR2.at 5 rfl
      have r6 := hR2.at 6 rfl
      have r7 := hR2.at 7 rfl
      have r8 := hR2.at 8 rfl
      have r9 := hR2.at 9 rfl
      have r10 := hR2.at 10 rfl
      have rf := hR2.frz
      go_wp2
      have hRf := hR2.sets zeroRec rfl
      refine ret_cell_tmp Tryd.results6 rfl rfl (hRf.load Tryd.underlying28 rfl sizeRec) ?_
      rw [HE.out.1, HE.out.2]
      exact ⟨⟨_, rfl, recIs_none _ _⟩, below_sets HB2.out w.heap.size (Nat.le_refl _) zeroRec 0⟩
    | some N =>
      rw [hn] at hO2
      simp only [Option.isSome_some, Option.getD_some] at hO2 ⊢
      obtain ⟨a2, c2, rfl, hI2, hc2, hm2⟩ := hO2.caps
      have hf2 := from_own hO2
      have hNl : N.length ≤ 60001 := by have h9 := Orangery.numsOf_len ([] : List (List UInt8)) N hn; have h8 : (([] : List (List UInt8))).length ≤ 60000 := hlen; omega
      have HN : Hid (numsOf ([] : List (List UInt8)) = some N) := hn
      clear hn hO2
      go_wp2_with fail
      refine (njoin_any w2 (w.heap.size + 1) x a2 c2 N (from_mono hf2 hW1) hNl hc2 hm2 hI2).mono ?_
      rintro e w3 ⟨⟨v3, rfl, hr3⟩, hb3⟩
      have hR3 := hR2.keep hb3
      have HB3 : Hid (Below w.heap.size w w3) := HB2.out.trans (hb3.mono HB2.out.size)
      have hl3 : w.heap.size < w3.heap.size := hR3.lt
      have hne3 : ¬ w3.heap.size = w.heap.size := by omega
      clear hR2 hb3 HB2 x2 hI2
      cases hrc : recOf x N with
      | none =>
        have HE : Hid (parseE t = 1 ∧ parseR t = noRec) := HP.out.2.1 N HN.out hrc
        rw [hrc] at hr3
        obtain ⟨a3, c3, e3, _, _, _⟩ := hr3
        have e3 : v3 = rcV 0 0 0 (.slice a3 0 c3) noOp := e3
        subst e3
        simp only [Option.isSome_none]
        have r0 := hR3.at 0 rfl
        have r1 := hR3.at 1 rfl
        have r2 := hR3.at 2 rfl
        have r3 := hR3.at 3 rfl
        have r4 := hR3.at 4 rfl
        have r5 := hR3.at 5 rfl
        have r6 := hR3.at 6 rfl
        have r7 := hR3.at 7 rfl
        have r8 := hR3.at 8 rfl
        have r9 := hR3.at 9 rfl
        have r10 := hR3.at 10 rfl
        have rf := hR3.frz
        go_wp2
        have hRf := (hR3.sets zeroRec rfl).alloc (Obj.cells [Value.int IntKind.i64 0, .int .i64 0, .int .i64 0, .slice a3 0 c3, .int .i64 0, .int .i64 0, .int .i64 0, .int .i64 0, .int .i64 0, .int .i64 0, .int .i64 0].toArray 28)
        refine ret_cell_tmp Tryd.results6 rfl rfl (hRf.load Tryd.underlying28 rfl sizeRec) ?_
        rw [HE.out.1, HE.out.2]
        exact ⟨⟨_, rfl, recIs_none _ _⟩, (below_sets HB3.out w.heap.size (Nat.le_refl _) zeroRec 0).alloc (by rw [Go.Sort.size_setCells]; omega) _⟩
      | some r =>
        have HE := Lib.hid (HP.out.2.2 N r HN.out hrc)
        have hRl := recOf_len hrc
        rw [hrc] at hr3
        obtain ⟨k, u, f, R, o⟩ := r
        obtain ⟨a3, c3, e3, hI3, hf3, hn3⟩ := hr3
        have e3 : v3 = rcV k u f (.slice a3 R.length c3) o := e3
        have HN3 := Lib.hid hn3
        clear hn3
        have hI3 : SlI w3 a3 R := hI3
        subst e3
        simp only at hRl
        simp only [Option.isSome_some]
        go_wp2_with fail
        refine (ncheck_any _ k u f a3 c3 R o (by unfold maxLen; omega) (hI3.below (Go.Joins.below_alloc1 w3 _))).mono ?_
        rintro e w4 ⟨rfl, hb4⟩
        have hb4' : Below w3.heap.size w3 w4 := (Go.Joins.below_alloc1 w3 _).trans (hb4.mono (by simp))
        have hR4 := hR3.keep hb4'
        have hX4 := (Blk.new w3 [Value.int IntKind.i64 k, .int .i64 u, .int .i64 f, .slice a3 R.length c3, .int .i64 o.1, .int .i64 o.2.1, .int .i64 o.2.2.1.1, .int .i64 o.2.2.1.2.1, .int .i64 o.2.2.1.2.2, .int .i64 o.2.2.2.1, .int .i64 o.2.2.2.2] 28).keep hb4
        have HB4 : Hid (Below w.heap.size w w4) := HB3.out.trans (hb4'.mono HB3.out.size)
        have HI4 := Lib.hid (hI3.below hb4')
        clear hR3 hb4 hb4' HB3 hI3
        generalize w3.heap.size = gx at *
        have r0 := hR4.at 0 rfl
        have r1 := hR4.at 1 rfl
        have r2 := hR4.at 2 rfl
        have r3 := hR4.at 3 rfl
        have r4 := hR4.at 4 rfl
        have r5 := hR4.at 5 rfl
        have r6 := hR4.at 6 rfl
        have r7 := hR4.at 7 rfl
        have r8 := hR4.at 8 rfl
        have r9 := hR4.at 9 rfl
        have r10 := hR4.at 10 rfl
        have rf := hR4.frz
        by_cases hc : checkRec (k, u, f, R, o) = 0
        · have HE2 : Hid (parseE t = 0 ∧ parseR t = (k, u, f, R, o)) := ⟨HE.out.1.trans hc, HE.out.2.2 hc⟩
          rw [hc]
          clear HE hc
          have y0 := hX4.at 0 rfl
          have y1 := hX4.at 1 rfl
          have y2 := hX4.at 2 rfl
          have y3 := hX4.at 3 rfl
          have y4 := hX4.at 4 rfl
          have y5 := hX4.at 5 rfl
          have y6 := hX4.at 6 rfl
          have y7 := hX4.at 7 rfl
          have y8 := hX4.at 8 rfl
          have y9 := hX4.at 9 rfl
          have y10 := hX4.at 10 rfl
          go_wp2
          have hRf := hR4.sets [Value.int IntKind.i64 k, .int .i64 u, .int .i64 f, .slice a3 R.length c3, .int .i64 o.1, .int .i64 o.2.1, .int .i64 o.2.2.1.1, .int .i64 o.2.2.1.2.1, .int .i64 o.2.2.1.2.2, .int .i64 o.2.2.2.1, .int .i64 o.2.2.2.2] rfl
          refine ret_cell_tmp Tryd.results6 rfl rfl (hRf.load Tryd.underlying28 rfl sizeRec) ?_
          rw [HE2.out.1, HE2.out.2]
          have hIf := HI4.out.sets (g := w.heap.size) hf3 (Nat.lt_succ_self _) [Value.int IntKind.i64 k, .int .i64 u, .int .i64 f, .slice a3 R.length c3, .int .i64 o.1, .int .i64 o.2.1, .int .i64 o.2.2.1.1, .int .i64 o.2.2.1.2.1, .int .i64 o.2.2.1.2.2, .int .i64 o.2.2.2.1, .int .i64 o.2.2.2.2] 0
          have hBf := below_sets HB4.out w.heap.size (Nat.le_refl _) [Value.int IntKind.i64 k, .int .i64 u, .int .i64 f, .slice a3 R.length c3, .int .i64 o.1, .int .i64 o.2.1, .int .i64 o.2.2.1.1, .int .i64 o.2.2.1.2.1, .int .i64 o.2.2.1.2.2, .int .i64 o.2.2.2.1, .int .i64 o.2.2.2.2] 0
          exact ⟨⟨_, rfl, a3, c3, rfl, hIf, from_mono hf3 (Nat.le_succ _), HN3.out⟩, hBf⟩
        · have HE2 : Hid (parseE t = checkRec (k, u, f, R, o) ∧ parseR t = noRec) := ⟨HE.out.1, HE.out.2.1 hc⟩
          have d9 : (checkRec (k, u, f, R, o) != 0) = true := by simpa using hc
          generalize checkRec (k, u, f, R, o) = E at *
          clear HE
          go_wp2
          have hRf := hR4.sets zeroRec rfl
          refine ret_cell_tmp Tryd.results6 rfl rfl (hRf.load Tryd.underlying28 rfl sizeRec) ?_
          rw [HE2.out.1, HE2.out.2]
          exact ⟨⟨_, rfl, recIs_none _ _⟩, below_sets HB4.out w.heap.size (Nat.le_refl _) zeroRec 0⟩
  · have hz1 : 0 < ws.length := List.length_pos_iff.2 hz
    have hz2 : ¬ ws.length = 0 := by omega
    go_wp2_with fail
    refine (nread_any W1 (some ⟨g, 1, none⟩) ws.length ws (by omega) HSM.out hS HV1.out).mono ?_
    rintro e w2 ⟨⟨v2, rfl, hO2⟩, hb2⟩
    have hR2 := hR1.keep hb2
    have x2 := (hb2.cell (p := ⟨g, 0, none⟩) hgl).trans x0
    have HB2 : Hid (Below w.heap.size w w2) := HB1.out.trans (hb2.mono HB1.out.size)
    clear hR1 hb2 HB1 HV1 x0
    cases hn : numsOf ws with
    | none =>
      obtain ⟨p1, p2⟩ := HP.out.1 hn
      rw [hn] at hO2
      have HE : Hid (parseE t = 1 ∧ parseR t = noRec) := ⟨p1, p2⟩
      clear p1 p2
      simp only [Option.isSome_none]
      obtain ⟨a2, c2, rfl, _⟩ := hO2.caps
      have r0 := hR2.at 0 rfl
      have r1 := hR2.at 1 rfl
      have r2 := hR2.at 2 rfl
      have r3 := hR2.at 3 rfl
      have r4 := hR2.at 4 rfl
      have r5 := hR2.at 5 rfl
      have r6 := hR2.at 6 rfl
      have r7 := hR2.at 7 rfl
      have r8 := hR2.at 8 rfl
      have r9 := hR2.at 9 rfl
      have r10 := hR2.at 10 rfl
      have rf := hR2.frz
      go_wp2
      have hRf := hR2.sets zeroRec rfl
      refine ret_cell_tmp Tryd.results6 rfl rfl (hRf.load Tryd.underlying28 rfl sizeRec) ?_
      rw [HE.out.1, HE.out.2]
      exact ⟨⟨_, rfl, recIs_none _ _⟩, below_sets HB2.out w.heap.size (Nat.le_refl _) zeroRec 0⟩
    | some N =>
      rw [hn] at hO2
      simp only [Option.isSome_some, Option.getD_some] at hO2 ⊢
      obtain ⟨a2, c2, rfl, hI2, hc2, hm2⟩ := hO2.caps
      have hf2 := from_own hO2
      have hNl : N.length ≤ 60001 := by have h9 := Orangery.numsOf_len ws N hn; have h8 : (ws).length ≤ 60000 := hlen; omega
      have HN : Hid (numsOf ws = some N) := hn
      clear hn hO2
      go_wp2_with fail
      refine (njoin_any w2 (w.heap.size + 1) x a2 c2 N (from_mono hf2 hW1) hNl hc2 hm2 hI2).mono ?_
      rintro e w3 ⟨⟨v3, rfl, hr3⟩, hb3⟩
      have hR3 := hR2.keep hb3
      have HB3 : Hid (Below w.heap.size w w3) := HB2.out.trans (hb3.mono HB2.out.size)
      have hl3 : w.heap.size < w3.heap.size := hR3.lt
      have hne3 : ¬ w3.heap.size = w.heap.size := by omega
      clear hR2 hb3 HB2 x2 hI2
      cases hrc : recOf x N with
      | none =>
        have HE : Hid (parseE t = 1 ∧ parseR t = noRec) := HP.out.2.1 N HN.out hrc
        rw [hrc] at hr3
        obtain ⟨a3, c3, e3, _, _, _⟩ := hr3
        have e3 : v3 = rcV 0 0 0 (.slice a3 0 c3) noOp := e3
        subst e3
        simp only [Option.isSome_none]
        have r0 := hR3.at 0 rfl
        have r1 := hR3.at 1 rfl
        have r2 := hR3.at 2 rfl
        have r3 := hR3.at 3 rfl
        have r4 := hR3.at 4 rfl
        have r5 := hR3.at 5 rfl
        have r6 := hR3.at 6 rfl
        have r7 := hR3.at 7 rfl
        have r8 := hR3.at 8 rfl
        have r9 := hR3.at 9 rfl
        have r10 := hR3.at 10 rfl
        have rf := hR3.frz
        go_wp2
        have hRf := (hR3.sets zeroRec rfl).alloc (Obj.cells [Value.int IntKind.i64 0, .int .i64 0, .int .i64 0, .slice a3 0 c3, .int .i64 0, .int .i64 0, .int .i64 0, .int .i64 0, .int .i64 0, .int .i64 0, .int .i64 0].toArray 28)
        refine ret_cell_tmp Tryd.results6 rfl rfl (hRf.load Tryd.underlying28 rfl sizeRec) ?_
        rw [HE.out.1, HE.out.2]
        exact ⟨⟨_, rfl, recIs_none _ _⟩, (below_sets HB3.out w.heap.size (Nat.le_refl _) zeroRec 0).alloc (by rw [Go.Sort.size_setCells]; omega) _⟩
      | some r =>
        have HE := Lib.hid (HP.out.2.2 N r HN.out hrc)
        have hRl := recOf_len hrc
        rw [hrc] at hr3
        obtain ⟨k, u, f, R, o⟩ := r
        obtain ⟨a3, c3, e3, hI3, hf3, hn3⟩ := hr3
        have e3 : v3 = rcV k u f (.slice a3 R.length c3) o := e3
        have HN3 := Lib.hid hn3
        clear hn3
        have hI3 : SlI w3 a3 R := hI3
        subst e3
        simp only at hRl
        simp only [Option.isSome_some]
        go_wp2_with fail
        refine (ncheck_any _ k u f a3 c3 R o (by unfold maxLen; omega) (hI3.below (Go.Joins.below_alloc1 w3 _))).mono ?_
        rintro e w4 ⟨rfl, hb4⟩
        have hb4' : Below w3.heap.size w3 w4 := (Go.Joins.below_alloc1 w3 _).trans (hb4.mono (by simp))
        have hR4 := hR3.keep hb4'
        have hX4 := (Blk.new w3 [Value.int IntKind.i64 k, .int .i64 u, .int .i64 f, .slice a3 R.length c3, .int .i64 o.1, .int .i64 o.2.1, .int .i64 o.2.2.1.1, .int .i64 o.2.2.1.2.1, .int .i64 o.2.2.1.2.2, .int .i64 o.2.2.2.1, .int .i64 o.2.2.2.2] 28).keep hb4
        have HB4 : Hid (Below w.heap.size w w4) := HB3.out.trans (hb4'.mono HB3.out.size)
        have HI4 := Lib.hid (hI3.below hb4')
        clear hR3 hb4 hb4' HB3 hI3
        generalize w3.heap.size = gx at *
        have r0 := hR4.at 0 rfl
        have r1 := hR4.at 1 rfl
        have r2 := hR4.at 2 rfl
        have r3 := hR4.at 3 rfl
        have r4 := hR4.at 4 rfl
        have r5 := hR4.at 5 rfl
        have r6 := hR4.at 6 rfl
        have r7 := hR4.at 7 rfl
        have r8 := hR4.at 8 rfl
        have r9 := hR4.at 9 rfl
        have r10 := hR4.at 10 rfl
        have rf := hR4.frz
        by_cases hc : checkRec (k, u, f, R, o) = 0
        · have HE2 : Hid (parseE t = 0 ∧ parseR t = (k, u, f, R, o)) := ⟨HE.out.1.trans hc, HE.out.2.2 hc⟩
          rw [hc]
          clear HE hc
          have y0 := hX4.at 0 rfl
          have y1 := hX4.at 1 rfl
          have y2 := hX4.at 2 rfl
          have y3 := hX4.at 3 rfl
          have y4 := hX4.at 4 rfl
          have y5 := hX4.at 5 rfl
          have y6 := hX4.at 6 rfl
          have y7 := hX4.at 7 rfl
          have y8 := hX4.at 8 rfl
          have y9 := hX4.at 9 rfl
          have y10 := hX4.at 10 rfl
          go_wp2
          have hRf := hR4.sets [Value.int IntKind.i64 k, .int .i64 u, .int .i64 f, .slice a3 R.length c3, .int .i64 o.1, .int .i64 o.2.1, .int .i64 o.2.2.1.1, .int .i64 o.2.2.1.2.1, .int .i64 o.2.2.1.2.2, .int .i64 o.2.2.2.1, .int .i64 o.2.2.2.2] rfl
          refine ret_cell_tmp Tryd.results6 rfl rfl (hRf.load Tryd.underlying28 rfl sizeRec) ?_
          rw [HE2.out.1, HE2.out.2]
          have hIf := HI4.out.sets (g := w.heap.size) hf3 (Nat.lt_succ_self _) [Value.int IntKind.i64 k, .int .i64 u, .int .i64 f, .slice a3 R.length c3, .int .i64 o.1, .int .i64 o.2.1, .int .i64 o.2.2.1.1, .int .i64 o.2.2.1.2.1, .int .i64 o.2.2.1.2.2, .int .i64 o.2.2.2.1, .int .i64 o.2.2.2.2] 0
          have hBf := below_sets HB4.out w.heap.size (Nat.le_refl _) [Value.int IntKind.i64 k, .int .i64 u, .int .i64 f, .slice a3 R.length c3, .int .i64 o.1, .int .i64 o.2.1, .int .i64 o.2.2.1.1, .int .i64 o.2.2.1.2.1, .int .i64 o.2.2.1.2.2, .int .i64 o.2.2.2.1, .int .i64 o.2.2.2.2] 0
          exact ⟨⟨_, rfl, a3, c3, rfl, hIf, from_mono hf3 (Nat.le_succ _), HN3.out⟩, hBf⟩
        · have HE2 : Hid (parseE t = checkRec (k, u, f, R, o) ∧ parseR t = noRec) := ⟨HE.out.1, HE.out.2.1 hc⟩
          have d9 : (checkRec (k, u, f, R, o) != 0) = true := by simpa using hc
          generalize checkRec (k, u, f, R, o) = E at *
          clear HE
          go_wp2
          have hRf := hR4.sets zeroRec rfl
          refine ret_cell_tmp Tryd.results6 rfl rfl (hRf.load Tryd.underlying28 rfl sizeRec) ?_
          rw [HE2.out.1, HE2.out.2]
          exact ⟨⟨_, rfl, recIs_none _ _⟩, below_sets HB4.out w.heap.size (Nat.le_refl _) zeroRec 0⟩
end Go.Proofs.YtjonkadcijnneacDoor

/- note.split. -/
namespace Go.Proofs.YtjonkadcijnneacDoor
open Go.ChangeShapes Go.WideShapes Go.ChangeAt Go.RowKit
open Orangery (Mv Rc recWord recNums wOp wLife wRoots opNums)

theorem ownI_new (w : World) (l : List Int) (hl : l.length ≤ 1000) : OwnI (w.alloc (.cells (l.map (Value.int .i64)).toArray 3)) w.heap.size (.slice (some ⟨w.heap.size, 0, none⟩) l.length l.length) l :=
  ⟨by simp, Or.inr ⟨w.heap.size, l.length, (l.map (Value.int .i64)).toArray, rfl, Nat.le_refl _, blk_new rfl, Nat.le_refl _, by unfold maxLen; omega, by simp, by simp only [Nat.mul_one]; exact List.take_of_length_le (by simp)⟩⟩
theorem OwnI.mono {w : World} {base base' : Nat} {v : Value} {l : List Int} (h : OwnI w base v l) (hb : base' ≤ base) : OwnI w base' v l := by
  obtain ⟨h1, h2⟩ := h
  refine ⟨h1, ?_⟩
  rcases h2 with h2 | ⟨g, cap, cur, e2, hg, r⟩
  · exact Or.inl h2
  · exact Or.inr ⟨g, cap, cur, e2, by omega, r⟩

set_option maxHeartbeats 2000000 in
set_option maxRecDepth 100000 in
theorem nsplit_op (w : World) (u f : Int) (r : Value) (o : Mv) (hr : ∃ a n c, r = .slice a n c) :
    Calls Tryd.prog 13 #[rcV 1 u f r o] w fun e w' => (∃ v, e = .returned (.tuple #[txV wOp, v]) ∧ OwnI w' w.heap.size v (opNums o)) ∧ Below w.heap.size w w' := by
  obtain ⟨a, n, c, rfl⟩ := hr
  obtain ⟨o1, o2, ⟨o3, o4, o5⟩, o6, o7⟩ := o
  go_enter Tryd.func13, Tryd.ntmps13
  go_wp2_with fail
  obtain ⟨W, hW, hA, hO, hB, -⟩ := laid2 w [Value.int IntKind.i64 1, .int .i64 u, .int .i64 f, .slice a n c, .int .i64 o1, .int .i64 o2, .int .i64 o3, .int .i64 o4, .int .i64 o5, .int .i64 o6, .int .i64 o7] 28 [.int .i64 o1, .int .i64 o2, .int .i64 o3, .int .i64 o4, .int .i64 o5, .int .i64 o6, .int .i64 o7] 26
  rw [hW]
  clear hW hA
  have m0 := hO.at 0 rfl
  have m1 := hO.at 1 rfl
  have m2 := hO.at 2 rfl
  have m3 := hO.at 3 rfl
  have m4 := hO.at 4 rfl
  have m5 := hO.at 5 rfl
  have m6 := hO.at 6 rfl
  clear hO
  generalize w.heap.size + 1 = g at *
  go_region_held3 (fun w' => w'.cell? ⟨g, 0, none⟩ = some (.int .i64 o1) ∧ w'.cell? ⟨g, 1, none⟩ = some (.int .i64 o2) ∧ w'.cell? ⟨g, 2, none⟩ = some (.int .i64 o3) ∧ w'.cell? ⟨g, 3, none⟩ = some (.int .i64 o4) ∧ w'.cell? ⟨g, 4, none⟩ = some (.int .i64 o5) ∧ w'.cell? ⟨g, 5, none⟩ = some (.int .i64 o6) ∧ w'.cell? ⟨g, 6, none⟩ = some (.int .i64 o7)) (go_keep) (fail)
  go_wp2
  go_ret2
  exact ⟨⟨_, rfl, (ownI_new W [o1, o2, o3, o4, o5, o6, o7] (by simp)).mono hB.size⟩, (hB.alloc hB.size _).drew⟩

set_option maxHeartbeats 2000000 in
set_option maxRecDepth 100000 in
theorem nsplit_life (w : World) (u f : Int) (r : Value) (o : Mv) (hr : ∃ a n c, r = .slice a n c) :
    Calls Tryd.prog 13 #[rcV 2 u f r o] w fun e w' => (∃ v, e = .returned (.tuple #[txV wLife, v]) ∧ OwnI w' w.heap.size v [u, f]) ∧ Below w.heap.size w w' := by
  obtain ⟨a, n, c, rfl⟩ := hr
  go_enter Tryd.func13, Tryd.ntmps13
  go_wp2_with fail
  obtain ⟨W, hW, hA, hB, -⟩ := laid1 w [Value.int IntKind.i64 2, .int .i64 u, .int .i64 f, .slice a n c, .int .i64 o.1, .int .i64 o.2.1, .int .i64 o.2.2.1.1, .int .i64 o.2.2.1.2.1, .int .i64 o.2.2.1.2.2, .int .i64 o.2.2.2.1, .int .i64 o.2.2.2.2] 28
  rw [hW]
  clear hW
  have m1 := hA.at 1 rfl
  have m2 := hA.at 2 rfl
  clear hA
  go_region_held3 (fun w' => w'.cell? ⟨w.heap.size, 1, none⟩ = some (.int .i64 u) ∧ w'.cell? ⟨w.heap.size, 2, none⟩ = some (.int .i64 f)) (go_keep) (fail)
  go_wp2
  go_ret2
  exact ⟨⟨_, rfl, (ownI_new W [u, f] (by simp)).mono hB.size⟩, (hB.alloc hB.size _).drew⟩

set_option maxHeartbeats 2000000 in
set_option maxRecDepth 100000 in
theorem nsplit_roots (w : World) (u f : Int) (a : Option Addr) (c : Nat) (R : List Int) (o : Mv) (hl : R.length ≤ 500) (hn : a = none → c = 0) (h : SlI w a R) :
    Calls Tryd.prog 13 #[rcV 3 u f (.slice a R.length c) o] w fun e w' => (∃ v, e = .returned (.tuple #[txV wRoots, v]) ∧ OwnI w' w.heap.size v (u :: R)) ∧ Below w.heap.size w w' := by
  obtain ⟨i0, hi, hz0, hz1, hz2⟩ := info_parts infoInt
  obtain ⟨W, hW, hA, hN, hB, -⟩ := laid2 w [Value.int IntKind.i64 3, .int .i64 u, .int .i64 f, .slice a R.length c, .int .i64 o.1, .int .i64 o.2.1, .int .i64 o.2.2.1.1, .int .i64 o.2.2.1.2.1, .int .i64 o.2.2.1.2.2, .int .i64 o.2.2.2.1, .int .i64 o.2.2.2.2] 28 [.int .i64 u] 3
  have hown : ((w.alloc (Obj.cells [Value.int IntKind.i64 3, .int .i64 u, .int .i64 f, .slice a R.length c, .int .i64 o.1, .int .i64 o.2.1, .int .i64 o.2.2.1.1, .int .i64 o.2.2.1.2.1, .int .i64 o.2.2.1.2.2, .int .i64 o.2.2.2.1, .int .i64 o.2.2.2.2].toArray 28)).alloc (Obj.cells [Value.int IntKind.i64 u].toArray 3)).ownsRow w.heap.size 3 1 (.slice (some ⟨w.heap.size + 1, 0, none⟩) 1 1) 1 [.int .i64 u] :=
    ⟨rfl, Or.inr ⟨w.heap.size + 1, 1, [Value.int IntKind.i64 u].toArray, rfl, by omega, blk_new (by simp), Nat.le_refl _, by unfold maxLen; omega, rfl, rfl⟩⟩
  cases a with
  | none =>
    have e1 := h.none_nil
    have e2 := hn rfl
    subst e1 e2
    clear hW hA hN hB
    go_enter Tryd.func13, Tryd.ntmps13
    go_wp2_with (at_builtin; refine wpList_append_own_none rfl _ _ 22 rfl w.heap.size 3 i0 1 Tryd.underlying22 hi _ 1 [.int .i64 u] rfl hown rfl ?_)
    go_wp2
    go_ret2
    exact ⟨⟨_, rfl, hown⟩, Go.Joins.below_alloc2 w _ _⟩
  | some ad =>
    have HN : Hid (∀ j v, (R.map (Value.int .i64))[j]? = some v → W.cell? (ad.add j) = some v) := (h.below hB).news
    rw [hW] at hown
    have x3 := hA.at 3 rfl
    clear hA hN h
    go_enter Tryd.func13, Tryd.ntmps13
    go_wp2_with (at_builtin; refine wpList_append_own _ rfl _ _ 22 rfl w.heap.size 3 i0 _ 1 8 Tryd.underlying22 hi hz0 hz1 hz2 rfl (by decide) _ _ _ rfl hown ad R.length c (R.map (Value.int .i64)) rfl (by simp) ?c1 ?c2 ?c3 ?c4 ?c5 ?_)
    case c1 => exact HN.out
    case c2 => exact map_one R
    case c3 => unfold maxLen; omega
    case c4 => omega
    case c5 => exact hB.size
    · intro v' w1 hown' hgrow _
      have hb1 := hB.trans (below_grown hown hB.size hgrow)
      have hO : OwnI w1 w.heap.size v' (u :: R) := by
        show w1.ownsRow _ _ _ _ _ _
        rw [show (u :: R).length = 1 + R.length by simp; omega]
        exact hown'
      clear hgrow hown hown'
      go_wp2
      go_ret2
      exact ⟨⟨_, rfl, hO⟩, hb1⟩

theorem nsplit_any (w : World) (k u f : Int) (a : Option Addr) (c : Nat) (R : List Int) (o : Mv) (hk : k = 1 ∨ k = 2 ∨ k = 3) (hl : R.length ≤ 500) (hn : a = none → c = 0) (h : SlI w a R) :
    Calls Tryd.prog 13 #[rcV k u f (.slice a R.length c) o] w
      fun e w' => (∃ v, e = .returned (.tuple #[txV (recWord (k, u, f, R, o)), v]) ∧ OwnI w' w.heap.size v (recNums (k, u, f, R, o))) ∧ Below w.heap.size w w' := by
  rcases hk with rfl | rfl | rfl
  · exact nsplit_op w u f _ o ⟨_, _, _, rfl⟩
  · exact nsplit_life w u f _ o ⟨_, _, _, rfl⟩
  · exact nsplit_roots w u f a c R o hl hn h
end Go.Proofs.YtjonkadcijnneacDoor

/- note.Print. -/
namespace Go.Proofs.YtjonkadcijnneacDoor
open Go.ChangeShapes Go.WideShapes Go.ChangeAt Go.RowKit
open Orangery (Mv Rc recWord recNums recText recT checkRec partT)

theorem recText_bad {r : Rc} (h : checkRec r ≠ 0) : recText r = [] := by unfold recText; rw [if_pos h]
theorem recText_ok {r : Rc} (h : checkRec r = 0) : recText r = recT r := by unfold recText; rw [if_neg (by simpa using h)]
theorem roots_few {k u f : Int} {R : List Int} {o : Mv} (h : checkRec (k, u, f, R, o) = 0) : R.length ≤ 4 := by
  rcases Orangery.checkRec_kind h with h1 | h1 | h1
  · have := (Orangery.checkRec_op h h1).1
    simp at this
    rw [this.2.2.2]; simp
  · have := (Orangery.checkRec_life h h1).1
    simp at this
    rw [this.2.1]; simp
  · exact Orangery.rootsOk_len (Orangery.checkRec_roots h h1).2.2

set_option maxHeartbeats 2000000 in
set_option maxRecDepth 100000 in
theorem nprint_any (w : World) (k u f : Int) (a : Option Addr) (c : Nat) (R : List Int) (o : Mv) (hl : R.length ≤ maxLen) (hn : a = none → c = 0) (h : SlI w a R) (hv : Vars w) :
    Calls Tryd.prog 5 #[rcV k u f (.slice a R.length c) o] w fun e w' => e = .returned (.tuple #[txV (recText (k, u, f, R, o)), .int .i64 (checkRec (k, u, f, R, o))]) ∧ Below w.heap.size w w' := by
  go_enter Tryd.func5, Tryd.ntmps5
  go_wp2_with fail
  obtain ⟨W0, hW, hA, hB, -⟩ := laid1 w [Value.int IntKind.i64 k, .int .i64 u, .int .i64 f, .slice a R.length c, .int .i64 o.1, .int .i64 o.2.1, .int .i64 o.2.2.1.1, .int .i64 o.2.2.1.2.1, .int .i64 o.2.2.1.2.2, .int .i64 o.2.2.2.1, .int .i64 o.2.2.2.2] 28
  rw [hW]
  clear hW
  refine (ncheck_any W0 k u f a c R o hl (h.below hB)).mono ?_
  rintro e w1 ⟨rfl, hb1⟩
  have hA1 := hA.keep hb1
  have h1 := (h.below hB).below hb1
  have hB1 : Below w.heap.size w w1 := hB.trans (hb1.mono hB.size)
  have hv1 := hv.on hB1
  clear hA hB hb1 h hv
  by_cases hc : checkRec (k, u, f, R, o) = 0
  case neg =>
    have HT : Hid (recText (k, u, f, R, o) = []) := recText_bad hc
    have d1 : (checkRec (k, u, f, R, o) != 0) = true := by simpa using hc
    have HB := Lib.hid hB1
    clear hc hA1 h1 hv1 hB1
    go_wp2
    go_ret2
    rw [HT.out]
    exact ⟨rfl, HB.out⟩
  have HT : Hid (recText (k, u, f, R, o) = recT (k, u, f, R, o)) := recText_ok hc
  have HL : Hid ((recT (k, u, f, R, o)).length ≤ 176) := Orangery.recT_len hc
  have HS := Lib.hid (Orangery.recNums_small hc)
  have hk := Orangery.checkRec_kind hc
  have hr4 := roots_few hc
  have HC : Hid (checkRec (k, u, f, R, o) = 0) := hc
  rw [hc]
  clear hc
  have x0 := hA1.at 0 rfl
  have x1 := hA1.at 1 rfl
  have x2 := hA1.at 2 rfl
  have x3 := hA1.at 3 rfl
  have x4 := hA1.at 4 rfl
  have x5 := hA1.at 5 rfl
  have x6 := hA1.at 6 rfl
  have x7 := hA1.at 7 rfl
  have x8 := hA1.at 8 rfl
  have x9 := hA1.at 9 rfl
  have x10 := hA1.at 10 rfl
  go_wp2_with fail
  refine (nsplit_any w1 k u f a c R o hk (by omega) hn h1).mono ?_
  rintro e w2 ⟨⟨v2, rfl, hO2⟩, hb2⟩
  have HE : Hid (recT (k, u, f, R, o) = partT (recWord (k, u, f, R, o)) (recNums (k, u, f, R, o)) (recNums (k, u, f, R, o)).length) := by
    show _ = _
    rw [Orangery.partT_all]
    rfl
  have HP : Hid (∀ j, (partT (recWord (k, u, f, R, o)) (recNums (k, u, f, R, o)) j).length ≤ 176) := fun j => Nat.le_trans (Orangery.partT_len _ _ j) HL.out
  have hB2 : Below w.heap.size w w2 := hB1.trans (hb2.mono hB1.size)
  have hv2 := hv1.on hb2
  clear hA1 h1 hv1 hb2 hB1 x0 x1 x2 x3 x4 x5 x6 x7 x8 x9 x10 hk hr4 hl hn HL
  obtain ⟨a2, c2, rfl, hI2, hc2, hm2⟩ := hO2.caps
  clear hO2
  generalize recWord (k, u, f, R, o) = wd at *
  generalize recNums (k, u, f, R, o) = ns at *
  have hBn := Go.Joins.below_alloc1 w2 (Obj.cells #[.pointer none, .slice none 0 0] 43)
  have hbu := Built.new w2
  go_wp2_with fail
  refine (write_any _ w2.heap.size w2.heap.size [] wd hbu (by have := HP.out 0; rw [Orangery.partT_zero] at this; simp; omega) hBn.size).mono ?_
  rintro e w3 ⟨⟨n3, rfl⟩, hbu3, hb3⟩
  have HB3 : Hid (Below w2.heap.size w2 w3) := hBn.trans hb3
  have HU3 : Hid (Built w3 w2.heap.size w2.heap.size (partT wd ns 0)) := by
    show Built _ _ _ _
    rw [Orangery.partT_zero]
    exact hbu3
  clear hbu hbu3 hb3 hBn
  have HV := Lib.hid hv2
  have HI := Lib.hid hI2
  have HB2 := Lib.hid hB2
  clear hv2 hI2 hB2
  have hns : ns.length ≤ 7 := HS.out.1
  go_wp2
  go_loopw [24] (fun i W => ∃ j : Nat, j ≤ ns.length ∧ i = .int .i64 j ∧ Built W w2.heap.size w2.heap.size (partT wd ns j) ∧ Below w2.heap.size w2 W) (fun i _ => ns.length - (intOf i).toNat)
  case atStart => exact ⟨0, Nat.zero_le _, rfl, HU3.out, HB3.out⟩
  case round =>
    clear HU3 HB3
    obtain ⟨j, hj, rfl, hbu, hb⟩ := hrel
    by_cases hlt : j < ns.length
    · obtain ⟨b, off, rfl, hbl, g0⟩ := (HI.out.below hb).at j hlt
      have HX : Hid (partT wd ns (j + 1) = partT wd ns j ++ 32 :: Lib.itoa ns[j]) := Orangery.partT_next wd ns j hlt
      have hsm := HS.out.2 _ (List.getElem_mem hlt)
      have HPJ := HP.out (j + 1)
      rw [HX.out] at HPJ
      have HLJ := Lib.hid HPJ
      have HVr := Lib.hid (HV.out.on hb)
      have HU := Lib.hid hbu
      have HB := Lib.hid hb
      clear hbu hb HPJ
      generalize ns[j] = n at *
      go_wp2_with fail
      refine (itoa_any _ n (by omega) (by omega) HVr.out).mono ?_
      rintro e w4 ⟨rfl, hb4⟩
      have HU4 := Lib.hid (HU.out.keep hb4)
      have HB4 : Hid (Below w2.heap.size w2 w4) := HB.out.trans (hb4.mono HB.out.size)
      clear hb4 HU HB HVr
      have d9 : ¬ 9223372036854775807 < 1 + (Lib.itoa n).length := by
        have := HLJ.out
        simp at this
        omega
      go_wp2_with fail
      rw [show Value.string ((⟨#[32]⟩ : ByteArray) ++ ⟨(Lib.itoa n).toArray⟩) = txV (32 :: Lib.itoa n) from congrArg Value.string (Orangery.bytes_app [32] (Lib.itoa n))]
      refine (write_any w4 w2.heap.size w2.heap.size (partT wd ns j) (32 :: Lib.itoa n) HU4.out (by have := HLJ.out; simp at this ⊢; omega) HB4.out.size).mono ?_
      rintro e w5 ⟨⟨n5, rfl⟩, hbu5, hb5⟩
      have HU5 : Hid (Built w5 w2.heap.size w2.heap.size (partT wd ns (j + 1))) := by
        show Built _ _ _ _
        rw [HX.out]
        exact hbu5
      have HB5 : Hid (Below w2.heap.size w2 w5) := HB4.out.trans hb5
      clear hbu5 hb5 HU4 HB4 d9
      go_wp2
      go_roundw
      case rel => exact ⟨j + 1, hlt, by go_num, HU5.out, HB5.out⟩
      case measure => simp [intOf]; omega
    · have hj' : j = ns.length := by omega
      subst hj'
      have HU := Lib.hid hbu
      have HB := Lib.hid hb
      clear hbu hb
      go_wp2_with fail
      refine (built_any wr w2.heap.size w2.heap.size (partT wd ns ns.length) HU.out HB.out.size).mono ?_
      rintro e w5 ⟨rfl, hb5⟩
      have HB5 : Hid (Below w.heap.size w w5) := HB2.out.trans ((HB.out.trans hb5).mono HB2.out.size)
      clear hb5
      go_wp2
      go_ret2
      rw [HT.out, HE.out, HC.out]
      exact ⟨rfl, HB5.out⟩
end Go.Proofs.YtjonkadcijnneacDoor

/- orangerylaw.op; an own slice is read. -/
namespace Go.Proofs.YtjonkadcijnneacDoor
open Go.ChangeShapes Go.WideShapes Go.ChangeAt Go.RowKit
open Orangery (Pl Mv Stp)

/-- orangerylaw.op -/
def lopO (t u n p : Int) : Mv := (t, u, (n, p, 0), 1, t)

set_option maxHeartbeats 400000 in
theorem lop_any (w : World) (t u n p : Int) :
    Calls Tryd.prog 23 #[.int .i64 t, .int .i64 u, .int .i64 n, .int .i64 p] w fun e w' => e = .returned (opV (lopO t u n p)) ∧ Below w.heap.size w w' := by
  go_enter Tryd.func23, Tryd.ntmps23
  go_wp2
  refine bodyPost_ret (v := opV (lopO t u n p)) (by simp [results, Tryd.results23, go_sem, lopO]) rfl ⟨rfl, Go.Joins.below_alloc1 w _⟩

end Go.Proofs.YtjonkadcijnneacDoor

