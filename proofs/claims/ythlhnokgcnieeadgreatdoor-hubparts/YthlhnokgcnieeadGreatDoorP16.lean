/- 5 texts of the proof: bytes.Equal, bytes.Clone, bytes.Cut at a line feed; slices.Equal at bytes. Records in memory, each with its roots: rows of them. note.Parse. disk.size, disk.readLine. disk.read. -/
import Derived.Shelf.Bytes.SlCut
import Derived.Test.YthlhnokgcnieeadGreatDoorP15
import Derived.Test.YthlhnokgcnieeadGreatDoorP04
import Derived.Test.YthlhnokgcnieeadGreatDoorP13
import Derived.Test.YthlhnokgcnieeadGreatDoorP06
import Derived.Test.YthlhnokgcnieeadGreatDoorP12
/- bytes.Equal, bytes.Clone, bytes.Cut at a line feed; slices.Equal at bytes. -/
namespace Go.Proofs.YthlhnokgcnieeadGreatDoor
open Go.ChangeShapes Go.WideShapes Go.ChangeAt Go.RowKit
open Orangery (lineOf)

def eqB (l m : List UInt8) : Bool := decide (l = m)
theorem eqB_no {l m : List UInt8} (h : l ≠ m) : eqB l m = false := by simpa [eqB] using h
theorem eqB_yes {l m : List UInt8} (h : l = m) : eqB l m = true := by simpa [eqB] using h
theorem eqB_beq (l m : List UInt8) : (l == m) = eqB l m := by
  by_cases h : l = m
  · rw [eqB_yes h]; simpa using h
  · rw [eqB_no h]; simpa using h

set_option maxHeartbeats 1000000 in
theorem bequal_any (w : World) (a a' : Option Addr) (c c' : Nat) (l m : List UInt8) (h1 : SlB w a l) (h2 : SlB w a' m) :
    Calls Tryz.prog 105 #[.slice a l.length c, .slice a' m.length c'] w fun e w' => e = .returned (.bool (eqB l m)) ∧ w' = w := by
  have k1 := h1.text c
  have k2 := h2.text c'
  have HE : Hid ((l == m) = eqB l m) := eqB_beq l m
  go_enter Tryz.func105, Tryz.ntmps105
  go_wp2
  go_ret
  exact ⟨ret_bool HE.out, rfl⟩

set_option maxHeartbeats 1000000 in
theorem bclone_any (w : World) (a : Option Addr) (c : Nat) (l : List UInt8) (hl : l.length ≤ 60000) (h : SlB w a l) :
    Calls Tryz.prog 27 #[.slice a l.length c] w
      fun e w' => ∃ v, e = .returned v ∧ OwnB w' w.heap.size v l ∧ Below w.heap.size w w' := by
  obtain ⟨i0, hi, hz0, hz1, hz2⟩ := info_parts infoByte
  have hq := fun (W : World) (a : Option Addr) (n c : Nat) => Lib.run_eql_slice_nil (P := Tryz.prog) W 45 5 a n c 0 0 Tryz.underlying45
  cases a with
  | none =>
    have hl0 := slE_none h
    subst hl0
    go_enter Tryz.func27, Tryz.ntmps27
    go_wp2
    go_ret
    exact ⟨_, rfl, OwnE.nil _ _, Below.refl _ _⟩
  | some ad =>
    have hB := Go.Joins.below_alloc1 w (Obj.cells #[] 5)
    have hown : (w.alloc (Obj.cells #[] 5)).ownsRow w.heap.size 5 1 (.slice (some ⟨w.heap.size, 0, none⟩) 0 0) 0 [] :=
      ⟨rfl, Or.inr ⟨w.heap.size, 0, #[], rfl, Nat.le_refl _, blk_new rfl, Nat.le_refl _, by unfold maxLen; omega, rfl, rfl⟩⟩
    have HN : Hid (∀ j u, (l.flatMap btC)[j]? = some u → (w.alloc (Obj.cells #[] 5)).cell? (ad.add j) = some u) := slE_news (SlE.below h hB)
    clear h
    go_enter Tryz.func27, Tryz.ntmps27
    go_wp2_with (at_builtin; refine wpList_append_own _ rfl _ _ 45 rfl w.heap.size 5 i0 _ 1 1 Tryz.underlying45 hi hz0 hz1 hz2 rfl (by decide) _ _ _ rfl hown ad l.length c (l.flatMap btC) rfl (flatE_len btC_len l) ?c1 ?c2 ?c3 ?c4 ?c5 ?_)
    case c1 => exact HN.out
    case c2 => exact flat_oneE btC_one l
    case c3 => unfold maxLen; omega
    case c4 => omega
    case c5 => exact hB.size
    · intro v' w1 hown' hgrow _
      have hb1 := hB.trans (below_grown hown hB.size hgrow)
      have hO : OwnB w1 w.heap.size v' l := by simpa [OwnB, OwnE] using hown'
      clear hgrow hown hown'
      go_wp2
      go_ret
      exact ⟨_, rfl, hO, hb1⟩

/-- bytes.Cut at a line feed -/
theorem bcut_any (w : World) (a : Option Addr) (c g cg : Nat) (l : List UInt8) (hl : l.length ≤ 60000) (h : BsIs w a c l) (hg : w.cell? ⟨g, 0, none⟩ = some (.int .u8 10)) (hv : Vars w) :
    Calls Tryz.prog 66 #[.slice a l.length c, .slice (some ⟨g, 0, none⟩) 1 cg] w fun e w' =>
      ((lineOf l = none ∧ e = .returned (.tuple #[.slice a l.length c, .slice none 0 0, .bool false])) ∨
       ∃ t r a' c', lineOf l = some (t, r) ∧ e = .returned (.tuple #[.slice a t.length c, .slice a' r.length c', .bool true]) ∧ ∀ W, BsIs W a c l → SlB W a t ∧ BsIs W a' c' r) ∧ Below w.heap.size w w' := by
  obtain ⟨m, hm⟩ := hv.mx
  refine (Any.bytes_Cut_all Tryz.laysT4 a (some ⟨g, 0, none⟩) l.length c 1 cg (nums l) [10] m w (nums_len l) rfl (nums_range l) (by simp) h.reads.inB (fun _ => ⟨g, 0, rfl, fun i hi => by
    obtain rfl : i = 0 := by omega
    simpa using hg⟩) h.none h.room (by omega) (by omega) hm).mono ?_
  rintro e w' ⟨rfl, q, rfl⟩
  have hbw : Below w.heap.size w (w.drewN q) := ⟨rfl, rfl, rfl, Nat.le_refl _, fun _ _ => rfl⟩
  refine ⟨?_, hbw⟩
  rw [bytesOf_nums, show Lib.bytesOf [10] = [10] from rfl]
  have hlo := Orangery.lineOf_index l
  by_cases hi : Lib.index l [10] = -1
  · rw [if_pos hi] at hlo
    left
    refine ⟨hlo, ?_⟩
    rw [hi]
    rfl
  · right
    rw [if_neg hi] at hlo
    have hge := Lib.index_ge l [10]
    have hroom := Lib.index_room l [10] (by omega)
    simp at hroom
    generalize Lib.index l [10] = i at *
    obtain ⟨j, rfl⟩ : ∃ j : Nat, i = j := ⟨i.toNat, by omega⟩
    have hj : j + 1 ≤ l.length := by omega
    simp only [Int.toNat_natCast] at hlo
    refine ⟨l.take j, l.drop (j + 1), if c = j + 1 then a else a.map (fun x => x.add (j + 1)), c - (j + 1), hlo, ?_, fun W h => ⟨SlE.take h.reads j, ?_⟩⟩
    · unfold Lib.cutV Lib.fromV
      rw [if_pos (by omega)]
      simp only [Int.toNat_natCast, List.length_take, List.length_drop]
      rw [Nat.min_eq_left (by omega)]
    · have hroom2 := h.room
      have hcap := h.cap
      have hfew := h.few
      obtain ⟨b, off, e, hb, _⟩ := SlB.cell h.reads 0 (by omega)
      subst e
      refine ⟨?_, ?_, by simp; omega, by omega, by simp; omega⟩
      · by_cases hc : c = j + 1
        · have : l.drop (j + 1) = [] := List.drop_of_length_le (by omega)
          rw [this]
          exact SlE.nil
        · rw [if_neg hc]
          exact SlB.drop h.reads (j + 1)
      · intro e
        split at e
        · simp at e
        · simp at e
end Go.Proofs.YthlhnokgcnieeadGreatDoor

/- Records in memory, each with its roots: rows of them. -/
namespace Go.Proofs.YthlhnokgcnieeadGreatDoor
open Go.ChangeShapes Go.WideShapes Go.ChangeAt Go.RowKit
open Orangery (Mv Rc noRec noOp)

/-- a record in memory: it, its roots' address, the room there -/
abbrev Rm := Rc × Option Addr × Nat
abbrev Rm.val (x : Rm) : Value := rcV x.1.1 x.1.2.1 x.1.2.2.1 (.slice x.2.1 x.1.2.2.2.1.length x.2.2) x.1.2.2.2.2
def rcC (x : Rm) : List Value := [.int .i64 x.1.1, .int .i64 x.1.2.1, .int .i64 x.1.2.2.1, .slice x.2.1 x.1.2.2.2.1.length x.2.2, .int .i64 x.1.2.2.2.2.1, .int .i64 x.1.2.2.2.2.2.1, .int .i64 x.1.2.2.2.2.2.2.1.1, .int .i64 x.1.2.2.2.2.2.2.1.2.1, .int .i64 x.1.2.2.2.2.2.2.1.2.2, .int .i64 x.1.2.2.2.2.2.2.2.1, .int .i64 x.1.2.2.2.2.2.2.2.2]
theorem rcC_val (x : Rm) : x.val = .agg (rcC x).toArray := rfl
theorem rcC_len (x : Rm) : (rcC x).length = 11 := rfl
theorem rcC_one (x : Rm) : ∀ v ∈ rcC x, v.oneCell' = true := by
  intro v hv
  simp [rcC] at hv
  rcases hv with rfl | rfl | rfl | rfl | rfl | rfl | rfl | rfl | rfl | rfl | rfl <;> rfl
theorem infoRec : (Tryz.prog.info? 43).map (fun i => (i.zero, i.size, i.bytes)) = some (some (.agg #[.int .i64 0, .int .i64 0, .int .i64 0, .slice none 0 0, .int .i64 0, .int .i64 0, .int .i64 0, .int .i64 0, .int .i64 0, .int .i64 0, .int .i64 0]), 11, 104) := by kernel_rfl

/-- its roots read; they are no part of a row of records from block B on -/
structure RootsIn (B : Nat) (w : World) (x : Rm) : Prop where
  lies : x.1.2.2.2.1 = [] ∨ ∃ b off, x.2.1 = some ⟨b, off, Option.none⟩ ∧ b < w.heap.size ∧ IntsAt w b off x.1.2.2.2.1 ∧ (b < B ∨ ∃ cs fr, w.heap[b]? = some (.cells cs 3 fr))
  none : x.2.1 = none → x.2.2 = 0
  few : x.1.2.2.2.1.length ≤ maxLen
theorem RootsIn.reads {B : Nat} {w : World} {x : Rm} (h : RootsIn B w x) : SlI w x.2.1 x.1.2.2.2.1 := by
  rcases h.lies with h | ⟨b, off, e, hb, hi, _⟩
  · exact Or.inl h
  · exact Or.inr ⟨b, off, e, hb, hi⟩
/-- a change that leaves the roots' block -/
theorem RootsIn.moved {B : Nat} {w w' : World} {x : Rm} (h : RootsIn B w x) (hs : w.heap.size ≤ w'.heap.size)
    (hk : ∀ b off, x.2.1 = some ⟨b, off, Option.none⟩ → b < w.heap.size → (b < B ∨ ∃ cs fr, w.heap[b]? = some (.cells cs 3 fr)) → w'.heap[b]? = w.heap[b]?) : RootsIn B w' x := by
  refine ⟨?_, h.none, h.few⟩
  rcases h.lies with h0 | ⟨b, off, e, hb, hi, h2⟩
  · exact Or.inl h0
  · have hbl := hk b off e hb h2
    refine Or.inr ⟨b, off, e, Nat.lt_of_lt_of_le hb hs, fun i hi' => ?_, ?_⟩
    · rw [World.cell?_of_block (w := w) (w' := w') (a := ⟨b, off + i, Option.none⟩) hbl]; exact hi i hi'
    · rw [hbl]; exact h2
theorem RootsIn.keep {B : Nat} {w w' : World} {x : Rm} (h : RootsIn B w x) (hb : Below w.heap.size w w') : RootsIn B w' x := h.moved hb.size (fun b _ _ hlt _ => hb.block b hlt)
theorem RootsIn.mono {B B' : Nat} {w : World} {x : Rm} (h : RootsIn B w x) (hb : B ≤ B') : RootsIn B' w x := by
  refine ⟨?_, h.none, h.few⟩
  rcases h.lies with h0 | ⟨b, off, e, hlt, hi, h2⟩
  · exact Or.inl h0
  · refine Or.inr ⟨b, off, e, hlt, hi, ?_⟩
    rcases h2 with h2 | h2
    · exact Or.inl (by omega)
    · exact Or.inr h2
/-- a row of records grows: the roots stay -/
theorem RootsIn.grown {B base : Nat} {w w' : World} {v : Value} {X : List Rm} {x : Rm} (h : RootsIn B w x) (ho : OwnE rcC 11 43 w base v X) (hB : B ≤ base) (hg : w.grownBy w' v.ownBlock) : RootsIn B w' x := by
  refine h.moved hg.size (fun b off e hlt h2 => hg.block b hlt (fun eb => ?_))
  rcases ho.2 with ⟨e2, _⟩ | ⟨g, cap, cur, e2, hgb, hh, _⟩
  · rw [e2] at eb; simp [Value.ownBlock] at eb
  · rw [e2] at eb
    have eb' : b = g := by simpa [Value.ownBlock] using eb
    subst eb'
    rcases h2 with h2 | ⟨cs, fr, h2⟩
    · omega
    · rw [hh] at h2
      simp at h2
/-- another block is written -/
theorem RootsIn.sets {B g : Nat} {x : Rm} : ∀ (us : List Value) (o : Nat) (w : World), RootsIn B w x → (∀ b off, x.2.1 = some ⟨b, off, Option.none⟩ → b ≠ g) → RootsIn B (w.setCells g o us) x := by
  intro us
  induction us with
  | nil => intro o w h _; exact h
  | cons u us ih =>
    intro o w h hf
    refine ih (o + 1) (w.setCell ⟨g, o, Option.none⟩ u) ?_ hf
    exact h.moved (by simp) (fun b off e _ _ => heap_setCell_other w ⟨g, o, Option.none⟩ b u (hf b off e))
theorem RecIs.mem {B : Nat} {w : World} {v : Value} {r : Rc} (h : RecIs B w v r) (hl : r.2.2.2.1.length ≤ maxLen) : ∃ x : Rm, v = x.val ∧ x.1 = r ∧ RootsIn 0 w x ∧ From B x.2.1 := by
  obtain ⟨a, c, e, hs, hf, hn, ht⟩ := h
  refine ⟨(r, a, c), e, rfl, ⟨?_, hn, hl⟩, hf⟩
  rcases hs with hs | ⟨b, off, e2, hb, hi⟩
  · exact Or.inl hs
  · obtain ⟨cs, fr, hc⟩ := ht b off e2
    exact Or.inr ⟨b, off, e2, hb, hi, Or.inr ⟨cs, fr, hc⟩⟩
theorem parse_few (t : List UInt8) : (Orangery.parseR t).2.2.2.1.length ≤ 4 := by
  by_cases h : Orangery.parseE t = 0
  · have h1 := (Orangery.text_parse h).1
    generalize Orangery.parseR t = r at *
    obtain ⟨k, u, f, R, o⟩ := r
    rcases Orangery.checkRec_kind h1 with h2 | h2 | h2
    · have := (Orangery.checkRec_op h1 h2).1
      simp at this
      simp [this.2.2.2]
    · have := (Orangery.checkRec_life h1 h2).1
      simp at this
      simp [this.2.1]
    · exact Orangery.rootsOk_len (Orangery.checkRec_roots h1 h2).2.2
  · have e : Orangery.parseR t = noRec := by
      unfold Orangery.parseR
      unfold Orangery.parseE at h
      split
      · rfl
      · rename_i h2
        rw [if_neg h2] at h
        unfold Orangery.readR
        rw [if_pos h]
    rw [e]
    simp [noRec]
theorem read_parse {t : List UInt8} (h : t.length ≤ 60000) : Orangery.parseE t = Orangery.readE t ∧ Orangery.parseR t = Orangery.readR t := by
  unfold Orangery.parseE Orangery.parseR
  rw [if_neg (by omega), if_neg (by omega)]
  exact ⟨rfl, rfl⟩

/-- a row of records of the call's own, their roots beside -/
structure OwnR (w : World) (base : Nat) (v : Value) (B : Nat) (X : List Rm) : Prop where
  own : OwnE rcC 11 43 w base v X
  roots : ∀ x ∈ X, RootsIn B w x
theorem OwnR.keep {w w' : World} {base B : Nat} {v : Value} {X : List Rm} (h : OwnR w base v B X) (hb : Below w.heap.size w w') : OwnR w' base v B X := ⟨h.own.keep hb, fun x hx => (h.roots x hx).keep hb⟩
theorem OwnR.nil (w : World) (base B : Nat) : OwnR w base (.slice none 0 0) B [] := ⟨OwnE.nil _ _, fun x hx => by simp at hx⟩
/-- a row of records that is read -/
structure SlR (w : World) (a : Option Addr) (B : Nat) (X : List Rm) : Prop where
  reads : SlE rcC w a X
  roots : ∀ x ∈ X, RootsIn B w x
theorem SlR.keep {w w' : World} {a : Option Addr} {B : Nat} {X : List Rm} (h : SlR w a B X) (hb : Below w.heap.size w w') : SlR w' a B X := ⟨h.reads.below hb, fun x hx => (h.roots x hx).keep hb⟩
theorem OwnR.val {w : World} {base B : Nat} {v : Value} {X : List Rm} (h : OwnR w base v B X) : ∃ a c, v = .slice a X.length c ∧ SlR w a B X ∧ X.length ≤ c ∧ (a = none → c = 0) := by
  obtain ⟨a, c, e, hs, hc⟩ := OwnE.val h.own
  refine ⟨a, c, e, ⟨hs, h.roots⟩, hc, ?_⟩
  intro ha
  subst ha
  rcases h.own.2 with ⟨e2, _⟩ | ⟨g, cap', cur, e2, _⟩
  · rw [e] at e2; simp at e2; exact e2.2
  · rw [e] at e2; simp at e2
end Go.Proofs.YthlhnokgcnieeadGreatDoor

/- note.Parse. -/
namespace Go.Proofs.YthlhnokgcnieeadGreatDoor
open Go.ChangeShapes Go.WideShapes Go.ChangeAt Go.RowKit
open Orangery (Mv Rc noRec noOp recOf numsOf wordsB readO readE readR parseE parseR checkRec)

abbrev zeroRec : List Value := [.int .i64 0, .int .i64 0, .int .i64 0, .slice none 0 0, .int .i64 0, .int .i64 0, .int .i64 0, .int .i64 0, .int .i64 0, .int .i64 0, .int .i64 0]

theorem parse_long {t : List UInt8} (h : 60000 < t.length) : parseE t = 2 ∧ parseR t = noRec := by
  unfold parseE parseR
  rw [if_pos h, if_pos h]
  exact ⟨rfl, rfl⟩
theorem parse_words {t : List UInt8} {x : List UInt8} {ws : List (List UInt8)} (h : ¬ 60000 < t.length) (hw : wordsB t = x :: ws) :
    (numsOf ws = none → parseE t = 1 ∧ parseR t = noRec) ∧
    (∀ N, numsOf ws = some N → recOf x N = none → parseE t = 1 ∧ parseR t = noRec) ∧
    (∀ N r, numsOf ws = some N → recOf x N = some r → parseE t = checkRec r ∧ (checkRec r ≠ 0 → parseR t = noRec) ∧ (checkRec r = 0 → parseR t = r)) := by
  have e : readO t = (numsOf ws).bind (recOf x) := by unfold readO; rw [hw]; rfl
  have e1 : parseE t = readE t := by unfold parseE; rw [if_neg h]
  have e2 : parseR t = readR t := by unfold parseR; rw [if_neg h]
  have bad : readO t = none → parseE t = 1 ∧ parseR t = noRec := by
    intro hn
    have e3 : readE t = 1 := by unfold readE; rw [hn]
    refine ⟨e1.trans e3, e2.trans ?_⟩
    unfold readR
    rw [if_pos (by rw [e3]; decide)]
  refine ⟨fun hn => bad (by rw [e, hn]; rfl), fun N hN hr => bad (by rw [e, hN]; exact hr), fun N r hN hr => ?_⟩
  have e3 : readO t = some r := by rw [e, hN]; exact hr
  have e4 : readE t = checkRec r := by unfold readE; rw [e3]
  refine ⟨e1.trans e4, fun hc => e2.trans ?_, fun hc => e2.trans ?_⟩
  · unfold readR; rw [if_pos (by rw [e4]; exact hc)]
  · unfold readR; rw [if_neg (by rw [e4]; simpa using hc), e3]; rfl

theorem recOf_len {x : List UInt8} {N : List Int} {r : Rc} (h : recOf x N = some r) : r.2.2.2.1.length ≤ N.length := by
  unfold recOf at h
  split at h
  · simp at h; subst h; simp
  · split at h
    · simp at h; subst h; simp
    · split at h
      · simp at h; subst h; simp
      · simp at h
theorem words_cells (w : World) (g : Nat) (x : List UInt8) (ws : List (List UInt8)) (hg : g = w.heap.size) :
    (w.alloc (.cells ((x :: ws).map txV).toArray 9)).cell? ⟨g, 0, none⟩ = some (txV x) ∧ SlE txC (w.alloc (.cells ((x :: ws).map txV).toArray 9)) (some ⟨g, 1, none⟩) ws := by
  subst hg
  have hb : (w.alloc (.cells ((x :: ws).map txV).toArray 9)).heap[w.heap.size]? = some (.cells ((x :: ws).map txV).toArray 9 (0, 0)) := blk_new rfl
  constructor
  · rw [Go.Joins.cell_of_block hb]; simp
  · cases ws with
    | nil => exact Or.inl rfl
    | cons y l =>
      refine Or.inr ⟨w.heap.size, 1, rfl, by simp, ?_⟩
      intro j v hj
      have e : (y :: l).flatMap txC = (y :: l).map txV := by
        rw [List.flatMap_def]
        generalize y :: l = m
        induction m with
        | nil => rfl
        | cons z m ih => rw [List.map_cons, List.flatten_cons, ih]; rfl
      rw [e] at hj
      rw [Go.Joins.cell_of_block hb, List.getElem?_toArray, List.map_cons, show 1 + j = j + 1 by omega, List.getElem?_cons_succ]
      exact hj

set_option maxHeartbeats 2000000 in
set_option maxRecDepth 100000 in
theorem nparse_any (w : World) (t : List UInt8) (hl : t.length ≤ maxLen) (hv : Vars w) :
    Calls Tryz.prog 67 #[txV t] w
      fun e w' => (∃ v, e = .returned (.tuple #[v, .int .i64 (parseE t)]) ∧ RecIs w.heap.size w' v (parseR t)) ∧ Below w.heap.size w w' := by
  have hl' : t.length ≤ 9223372036854775807 := hl
  by_cases h6 : 60000 < t.length
  · have d1 : decide ((t.length : Int) > 60000) = true := by simp; omega
    rw [(parse_long h6).1, (parse_long h6).2]
    clear h6
    go_enter Tryz.func67, Tryz.ntmps67
    go_wp2
    refine ret_cell_tmp Tryz.results67 rfl rfl ((Blk.new w zeroRec 43).load Tryz.underlying43 rfl sizeRec) ?_
    exact ⟨⟨_, rfl, recIs_none _ _⟩, Go.Joins.below_alloc1 w _⟩
  have d1 : decide ((t.length : Int) > 60000) = false := by simp; omega
  have hl6 : t.length ≤ 60000 := by omega
  obtain ⟨x, ws, hw⟩ : ∃ x ws, wordsB t = x :: ws := ⟨_, _, Orangery.wordsB_split t⟩
  have HP := Lib.hid (parse_words h6 hw)
  go_enter Tryz.func67, Tryz.ntmps67
  go_wp2_with fail
  obtain ⟨W0, hW, hR, hB, -⟩ := laid1 w zeroRec 43
  rw [hW]
  clear hW
  have hv0 := hv.on hB
  refine (ssplit_any W0 t hl6 hv0).mono ?_
  rintro e w1 ⟨rfl, rfl⟩
  rw [hw]
  have hb1 := Go.Joins.below_alloc1 W0 (Obj.cells ((x :: ws).map txV).toArray 9)
  obtain ⟨x0, hS⟩ := words_cells W0 W0.heap.size x ws rfl
  have hgl : W0.heap.size < (W0.alloc (Obj.cells ((x :: ws).map txV).toArray 9)).heap.size := by simp
  have hv1 := hv0.on hb1
  have hR1 := hR.keep hb1
  have HB1 : Hid (Below w.heap.size w (W0.alloc (Obj.cells ((x :: ws).map txV).toArray 9))) := hB.trans (hb1.mono hB.size)
  have hlen : ws.length ≤ 60000 := by
    have := Orangery.words_count t
    rw [hw] at this
    simp at this
    omega
  have hsm : ∀ y ∈ ws, y.length ≤ 60000 := by
    intro y hy
    have := Orangery.words_small t y (by rw [hw]; simp [hy])
    omega
  have HSM := Lib.hid hsm
  have HV1 := Lib.hid hv1
  clear hb1 hR hv0 hv1 hB hv hsm hw h6
  generalize W0.alloc (Obj.cells ((x :: ws).map txV).toArray 9) = W1 at *
  have hW1 : w.heap.size + 1 ≤ W1.heap.size := hR1.lt
  generalize W0.heap.size = g at *
  simp only [List.length_cons]
  by_cases hz : ws = []
  · subst hz
    go_wp2_with fail
    refine (nread_any W1 (some ⟨g, 0, none⟩) 0 [] (by simp) HSM.out (Or.inl rfl) HV1.out).mono ?_
    rintro e w2 ⟨⟨v2, rfl, hO2⟩, hb2⟩
    have hR2 := hR1.keep hb2
    have x2 := (hb2.cell (p := ⟨g, 0, none⟩) hgl).trans x0
    have HB2 : Hid (Below w.heap.size w w2) := HB1.out.trans (hb2.mono HB1.out.size)
    clear hR1 hb2 HB1 HV1 x0
    cases hn : numsOf ([] : List (List UInt8)) with
    | none =>
      obtain ⟨p1, p2⟩ := HP.out.1 hn
      rw [hn] at hO2
      have HE : Hid (parseE t = 1 ∧ parseR t = noRec) := ⟨p1, p2⟩
      clear p1 p2
      simp only [Option.isSome_none]
      obtain ⟨a2, c2, rfl, _⟩ := hO2.caps
      have r0 := hR2.at 0 rfl
      have r1 := hR2.at 1 rfl
      have r2 := hR2.at 2 rfl
      have r3 := hR2.at 3 rfl
      have r4 := hR2.at 4 rfl
      have r5 := hR2.at 5 rfl
      have r6 := hR2.at 6 rfl
      have r7 := hR2.at 7 rfl
      have r8 := hR2.at 8 rfl
      have r9 := hR2.at 9 rfl
      have r10 := hR2.at 10 rfl
      have rf := hR2.frz
      go_wp2
      have hRf := hR2.sets zeroRec rfl
      refine ret_cell_tmp Tryz.results67 rfl rfl (hRf.load Tryz.underlying43 rfl sizeRec) ?_
      rw [HE.out.1, HE.out.2]
      exact ⟨⟨_, rfl, recIs_none _ _⟩, below_sets HB2.out w.heap.size (Nat.le_refl _) zeroRec 0⟩
    | some N =>
      rw [hn] at hO2
      simp only [Option.isSome_some, Option.getD_some] at hO2 ⊢
      obtain ⟨a2, c2, rfl, hI2, hc2, hm2⟩ := hO2.caps
      have hf2 := from_own hO2
      have ht2 := tag_own hO2
      have hNl : N.length ≤ 60001 := by have h9 := Orangery.numsOf_len ([] : List (List UInt8)) N hn; have h8 : (([] : List (List UInt8))).length ≤ 60000 := hlen; omega
      have HN : Hid (numsOf ([] : List (List UInt8)) = some N) := hn
      clear hn hO2
      go_wp2_with fail
      refine (njoin_any w2 (w.heap.size + 1) x a2 c2 N (from_mono hf2 hW1) ht2 hNl hc2 hm2 hI2).mono ?_
      rintro e w3 ⟨⟨v3, rfl, hr3⟩, hb3⟩
      have hR3 := hR2.keep hb3
      have HB3 : Hid (Below w.heap.size w w3) := HB2.out.trans (hb3.mono HB2.out.size)
      have hl3 : w.heap.size < w3.heap.size := hR3.lt
      have hne3 : ¬ w3.heap.size = w.heap.size := by omega
      clear hR2 hb3 HB2 x2 hI2
      cases hrc : recOf x N with
      | none =>
        have HE : Hid (parseE t = 1 ∧ parseR t = noRec) := HP.out.2.1 N HN.out hrc
        rw [hrc] at hr3
        obtain ⟨a3, c3, e3, _, _, _, _⟩ := hr3
        have e3 : v3 = rcV 0 0 0 (.slice a3 0 c3) noOp := e3
        subst e3
        simp only [Option.isSome_none]
        have r0 := hR3.at 0 rfl
        have r1 := hR3.at 1 rfl
        have r2 := hR3.at 2 rfl
        have r3 := hR3.at 3 rfl
        have r4 := hR3.at 4 rfl
        have r5 := hR3.at 5 rfl
        have r6 := hR3.at 6 rfl
        have r7 := hR3.at 7 rfl
        have r8 := hR3.at 8 rfl
        have r9 := hR3.at 9 rfl
        have r10 := hR3.at 10 rfl
        have rf := hR3.frz
        go_wp2
        have hRf := (hR3.sets zeroRec rfl).alloc (Obj.cells [Value.int IntKind.i64 0, .int .i64 0, .int .i64 0, .slice a3 0 c3, .int .i64 0, .int .i64 0, .int .i64 0, .int .i64 0, .int .i64 0, .int .i64 0, .int .i64 0].toArray 43)
        refine ret_cell_tmp Tryz.results67 rfl rfl (hRf.load Tryz.underlying43 rfl sizeRec) ?_
        rw [HE.out.1, HE.out.2]
        exact ⟨⟨_, rfl, recIs_none _ _⟩, (below_sets HB3.out w.heap.size (Nat.le_refl _) zeroRec 0).alloc (by rw [Go.Sort.size_setCells]; omega) _⟩
      | some r =>
        have HE := Lib.hid (HP.out.2.2 N r HN.out hrc)
        have hRl := recOf_len hrc
        rw [hrc] at hr3
        obtain ⟨k, u, f, R, o⟩ := r
        obtain ⟨a3, c3, e3, hI3, hf3, hn3, ht3⟩ := hr3
        have e3 : v3 = rcV k u f (.slice a3 R.length c3) o := e3
        have HN3 := Lib.hid hn3
        clear hn3
        have hI3 : SlI w3 a3 R := hI3
        subst e3
        simp only at hRl
        simp only [Option.isSome_some]
        go_wp2_with fail
        refine (ncheck_any _ k u f a3 c3 R o (by unfold maxLen; omega) (hI3.below (Go.Joins.below_alloc1 w3 _))).mono ?_
        rintro e w4 ⟨rfl, hb4⟩
        have hb4' : Below w3.heap.size w3 w4 := (Go.Joins.below_alloc1 w3 _).trans (hb4.mono (by simp))
        have hR4 := hR3.keep hb4'
        have hX4 := (Blk.new w3 [Value.int IntKind.i64 k, .int .i64 u, .int .i64 f, .slice a3 R.length c3, .int .i64 o.1, .int .i64 o.2.1, .int .i64 o.2.2.1.1, .int .i64 o.2.2.1.2.1, .int .i64 o.2.2.1.2.2, .int .i64 o.2.2.2.1, .int .i64 o.2.2.2.2] 43).keep hb4
        have HB4 : Hid (Below w.heap.size w w4) := HB3.out.trans (hb4'.mono HB3.out.size)
        have HI4 := Lib.hid (hI3.below hb4')
        have HT4 := Lib.hid (ht3.keep hb4')
        clear hR3 hb4 hb4' HB3 hI3 ht3
        generalize w3.heap.size = gx at *
        have r0 := hR4.at 0 rfl
        have r1 := hR4.at 1 rfl
        have r2 := hR4.at 2 rfl
        have r3 := hR4.at 3 rfl
        have r4 := hR4.at 4 rfl
        have r5 := hR4.at 5 rfl
        have r6 := hR4.at 6 rfl
        have r7 := hR4.at 7 rfl
        have r8 := hR4.at 8 rfl
        have r9 := hR4.at 9 rfl
        have r10 := hR4.at 10 rfl
        have rf := hR4.frz
        by_cases hc : checkRec (k, u, f, R, o) = 0
        · have HE2 : Hid (parseE t = 0 ∧ parseR t = (k, u, f, R, o)) := ⟨HE.out.1.trans hc, HE.out.2.2 hc⟩
          rw [hc]
          clear HE hc
          have y0 := hX4.at 0 rfl
          have y1 := hX4.at 1 rfl
          have y2 := hX4.at 2 rfl
          have y3 := hX4.at 3 rfl
          have y4 := hX4.at 4 rfl
          have y5 := hX4.at 5 rfl
          have y6 := hX4.at 6 rfl
          have y7 := hX4.at 7 rfl
          have y8 := hX4.at 8 rfl
          have y9 := hX4.at 9 rfl
          have y10 := hX4.at 10 rfl
          go_wp2
          have hRf := hR4.sets [Value.int IntKind.i64 k, .int .i64 u, .int .i64 f, .slice a3 R.length c3, .int .i64 o.1, .int .i64 o.2.1, .int .i64 o.2.2.1.1, .int .i64 o.2.2.1.2.1, .int .i64 o.2.2.1.2.2, .int .i64 o.2.2.2.1, .int .i64 o.2.2.2.2] rfl
          refine ret_cell_tmp Tryz.results67 rfl rfl (hRf.load Tryz.underlying43 rfl sizeRec) ?_
          rw [HE2.out.1, HE2.out.2]
          have hIf := HI4.out.sets (g := w.heap.size) hf3 (Nat.lt_succ_self _) [Value.int IntKind.i64 k, .int .i64 u, .int .i64 f, .slice a3 R.length c3, .int .i64 o.1, .int .i64 o.2.1, .int .i64 o.2.2.1.1, .int .i64 o.2.2.1.2.1, .int .i64 o.2.2.1.2.2, .int .i64 o.2.2.2.1, .int .i64 o.2.2.2.2] 0
          have hTf := HT4.out.sets (g := w.heap.size) hf3 (Nat.lt_succ_self _) [Value.int IntKind.i64 k, .int .i64 u, .int .i64 f, .slice a3 R.length c3, .int .i64 o.1, .int .i64 o.2.1, .int .i64 o.2.2.1.1, .int .i64 o.2.2.1.2.1, .int .i64 o.2.2.1.2.2, .int .i64 o.2.2.2.1, .int .i64 o.2.2.2.2] 0
          have hBf := below_sets HB4.out w.heap.size (Nat.le_refl _) [Value.int IntKind.i64 k, .int .i64 u, .int .i64 f, .slice a3 R.length c3, .int .i64 o.1, .int .i64 o.2.1, .int .i64 o.2.2.1.1, .int .i64 o.2.2.1.2.1, .int .i64 o.2.2.1.2.2, .int .i64 o.2.2.2.1, .int .i64 o.2.2.2.2] 0
          exact ⟨⟨_, rfl, a3, c3, rfl, hIf, from_mono hf3 (Nat.le_succ _), HN3.out, hTf⟩, hBf⟩
        · have HE2 : Hid (parseE t = checkRec (k, u, f, R, o) ∧ parseR t = noRec) := ⟨HE.out.1, HE.out.2.1 hc⟩
          have d9 : (checkRec (k, u, f, R, o) != 0) = true := by simpa using hc
          generalize checkRec (k, u, f, R, o) = E at *
          clear HE
          go_wp2
          have hRf := hR4.sets zeroRec rfl
          refine ret_cell_tmp Tryz.results67 rfl rfl (hRf.load Tryz.underlying43 rfl sizeRec) ?_
          rw [HE2.out.1, HE2.out.2]
          exact ⟨⟨_, rfl, recIs_none _ _⟩, below_sets HB4.out w.heap.size (Nat.le_refl _) zeroRec 0⟩
  · have hz1 : 0 < ws.length := List.length_pos_iff.2 hz
    have hz2 : ¬ ws.length = 0 := by omega
    go_wp2_with fail
    refine (nread_any W1 (some ⟨g, 1, none⟩) ws.length ws (by omega) HSM.out hS HV1.out).mono ?_
    rintro e w2 ⟨⟨v2, rfl, hO2⟩, hb2⟩
    have hR2 := hR1.keep hb2
    have x2 := (hb2.cell (p := ⟨g, 0, none⟩) hgl).trans x0
    have HB2 : Hid (Below w.heap.size w w2) := HB1.out.trans (hb2.mono HB1.out.size)
    clear hR1 hb2 HB1 HV1 x0
    cases hn : numsOf ws with
    | none =>
      obtain ⟨p1, p2⟩ := HP.out.1 hn
      rw [hn] at hO2
      have HE : Hid (parseE t = 1 ∧ parseR t = noRec) := ⟨p1, p2⟩
      clear p1 p2
      simp only [Option.isSome_none]
      obtain ⟨a2, c2, rfl, _⟩ := hO2.caps
      have r0 := hR2.at 0 rfl
      have r1 := hR2.at 1 rfl
      have r2 := hR2.at 2 rfl
      have r3 := hR2.at 3 rfl
      have r4 := hR2.at 4 rfl
      have r5 := hR2.at 5 rfl
      have r6 := hR2.at 6 rfl
      have r7 := hR2.at 7 rfl
      have r8 := hR2.at 8 rfl
      have r9 := hR2.at 9 rfl
      have r10 := hR2.at 10 rfl
      have rf := hR2.frz
      go_wp2
      have hRf := hR2.sets zeroRec rfl
      refine ret_cell_tmp Tryz.results67 rfl rfl (hRf.load Tryz.underlying43 rfl sizeRec) ?_
      rw [HE.out.1, HE.out.2]
      exact ⟨⟨_, rfl, recIs_none _ _⟩, below_sets HB2.out w.heap.size (Nat.le_refl _) zeroRec 0⟩
    | some N =>
      rw [hn] at hO2
      simp only [Option.isSome_some, Option.getD_some] at hO2 ⊢
      obtain ⟨a2, c2, rfl, hI2, hc2, hm2⟩ := hO2.caps
      have hf2 := from_own hO2
      have ht2 := tag_own hO2
      have hNl : N.length ≤ 60001 := by have h9 := Orangery.numsOf_len ws N hn; have h8 : (ws).length ≤ 60000 := hlen; omega
      have HN : Hid (numsOf ws = some N) := hn
      clear hn hO2
      go_wp2_with fail
      refine (njoin_any w2 (w.heap.size + 1) x a2 c2 N (from_mono hf2 hW1) ht2 hNl hc2 hm2 hI2).mono ?_
      rintro e w3 ⟨⟨v3, rfl, hr3⟩, hb3⟩
      have hR3 := hR2.keep hb3
      have HB3 : Hid (Below w.heap.size w w3) := HB2.out.trans (hb3.mono HB2.out.size)
      have hl3 : w.heap.size < w3.heap.size := hR3.lt
      have hne3 : ¬ w3.heap.size = w.heap.size := by omega
      clear hR2 hb3 HB2 x2 hI2
      cases hrc : recOf x N with
      | none =>
        have HE : Hid (parseE t = 1 ∧ parseR t = noRec) := HP.out.2.1 N HN.out hrc
        rw [hrc] at hr3
        obtain ⟨a3, c3, e3, _, _, _, _⟩ := hr3
        have e3 : v3 = rcV 0 0 0 (.slice a3 0 c3) noOp := e3
        subst e3
        simp only [Option.isSome_none]
        have r0 := hR3.at 0 rfl
        have r1 := hR3.at 1 rfl
        have r2 := hR3.at 2 rfl
        have r3 := hR3.at 3 rfl
        have r4 := hR3.at 4 rfl
        have r5 := hR3.at 5 rfl
        have r6 := hR3.at 6 rfl
        have r7 := hR3.at 7 rfl
        have r8 := hR3.at 8 rfl
        have r9 := hR3.at 9 rfl
        have r10 := hR3.at 10 rfl
        have rf := hR3.frz
        go_wp2
        have hRf := (hR3.sets zeroRec rfl).alloc (Obj.cells [Value.int IntKind.i64 0, .int .i64 0, .int .i64 0, .slice a3 0 c3, .int .i64 0, .int .i64 0, .int .i64 0, .int .i64 0, .int .i64 0, .int .i64 0, .int .i64 0].toArray 43)
        refine ret_cell_tmp Tryz.results67 rfl rfl (hRf.load Tryz.underlying43 rfl sizeRec) ?_
        rw [HE.out.1, HE.out.2]
        exact ⟨⟨_, rfl, recIs_none _ _⟩, (below_sets HB3.out w.heap.size (Nat.le_refl _) zeroRec 0).alloc (by rw [Go.Sort.size_setCells]; omega) _⟩
      | some r =>
        have HE := Lib.hid (HP.out.2.2 N r HN.out hrc)
        have hRl := recOf_len hrc
        rw [hrc] at hr3
        obtain ⟨k, u, f, R, o⟩ := r
        obtain ⟨a3, c3, e3, hI3, hf3, hn3, ht3⟩ := hr3
        have e3 : v3 = rcV k u f (.slice a3 R.length c3) o := e3
        have HN3 := Lib.hid hn3
        clear hn3
        have hI3 : SlI w3 a3 R := hI3
        subst e3
        simp only at hRl
        simp only [Option.isSome_some]
        go_wp2_with fail
        refine (ncheck_any _ k u f a3 c3 R o (by unfold maxLen; omega) (hI3.below (Go.Joins.below_alloc1 w3 _))).mono ?_
        rintro e w4 ⟨rfl, hb4⟩
        have hb4' : Below w3.heap.size w3 w4 := (Go.Joins.below_alloc1 w3 _).trans (hb4.mono (by simp))
        have hR4 := hR3.keep hb4'
        have hX4 := (Blk.new w3 [Value.int IntKind.i64 k, .int .i64 u, .int .i64 f, .slice a3 R.length c3, .int .i64 o.1, .int .i64 o.2.1, .int .i64 o.2.2.1.1, .int .i64 o.2.2.1.2.1, .int .i64 o.2.2.1.2.2, .int .i64 o.2.2.2.1, .int .i64 o.2.2.2.2] 43).keep hb4
        have HB4 : Hid (Below w.heap.size w w4) := HB3.out.trans (hb4'.mono HB3.out.size)
        have HI4 := Lib.hid (hI3.below hb4')
        have HT4 := Lib.hid (ht3.keep hb4')
        clear hR3 hb4 hb4' HB3 hI3 ht3
        generalize w3.heap.size = gx at *
        have r0 := hR4.at 0 rfl
        have r1 := hR4.at 1 rfl
        have r2 := hR4.at 2 rfl
        have r3 := hR4.at 3 rfl
        have r4 := hR4.at 4 rfl
        have r5 := hR4.at 5 rfl
        have r6 := hR4.at 6 rfl
        have r7 := hR4.at 7 rfl
        have r8 := hR4.at 8 rfl
        have r9 := hR4.at 9 rfl
        have r10 := hR4.at 10 rfl
        have rf := hR4.frz
        by_cases hc : checkRec (k, u, f, R, o) = 0
        · have HE2 : Hid (parseE t = 0 ∧ parseR t = (k, u, f, R, o)) := ⟨HE.out.1.trans hc, HE.out.2.2 hc⟩
          rw [hc]
          clear HE hc
          have y0 := hX4.at 0 rfl
          have y1 := hX4.at 1 rfl
          have y2 := hX4.at 2 rfl
          have y3 := hX4.at 3 rfl
          have y4 := hX4.at 4 rfl
          have y5 := hX4.at 5 rfl
          have y6 := hX4.at 6 rfl
          have y7 := hX4.at 7 rfl
          have y8 := hX4.at 8 rfl
          have y9 := hX4.at 9 rfl
          have y10 := hX4.at 10 rfl
          go_wp2
          have hRf := hR4.sets [Value.int IntKind.i64 k, .int .i64 u, .int .i64 f, .slice a3 R.length c3, .int .i64 o.1, .int .i64 o.2.1, .int .i64 o.2.2.1.1, .int .i64 o.2.2.1.2.1, .int .i64 o.2.2.1.2.2, .int .i64 o.2.2.2.1, .int .i64 o.2.2.2.2] rfl
          refine ret_cell_tmp Tryz.results67 rfl rfl (hRf.load Tryz.underlying43 rfl sizeRec) ?_
          rw [HE2.out.1, HE2.out.2]
          have hIf := HI4.out.sets (g := w.heap.size) hf3 (Nat.lt_succ_self _) [Value.int IntKind.i64 k, .int .i64 u, .int .i64 f, .slice a3 R.length c3, .int .i64 o.1, .int .i64 o.2.1, .int .i64 o.2.2.1.1, .int .i64 o.2.2.1.2.1, .int .i64 o.2.2.1.2.2, .int .i64 o.2.2.2.1, .int .i64 o.2.2.2.2] 0
          have hTf := HT4.out.sets (g := w.heap.size) hf3 (Nat.lt_succ_self _) [Value.int IntKind.i64 k, .int .i64 u, .int .i64 f, .slice a3 R.length c3, .int .i64 o.1, .int .i64 o.2.1, .int .i64 o.2.2.1.1, .int .i64 o.2.2.1.2.1, .int .i64 o.2.2.1.2.2, .int .i64 o.2.2.2.1, .int .i64 o.2.2.2.2] 0
          have hBf := below_sets HB4.out w.heap.size (Nat.le_refl _) [Value.int IntKind.i64 k, .int .i64 u, .int .i64 f, .slice a3 R.length c3, .int .i64 o.1, .int .i64 o.2.1, .int .i64 o.2.2.1.1, .int .i64 o.2.2.1.2.1, .int .i64 o.2.2.1.2.2, .int .i64 o.2.2.2.1, .int .i64 o.2.2.2.2] 0
          exact ⟨⟨_, rfl, a3, c3, rfl, hIf, from_mono hf3 (Nat.le_succ _), HN3.out, hTf⟩, hBf⟩
        · have HE2 : Hid (parseE t = checkRec (k, u, f, R, o) ∧ parseR t = noRec) := ⟨HE.out.1, HE.out.2.1 hc⟩
          have d9 : (checkRec (k, u, f, R, o) != 0) = true := by simpa using hc
          generalize checkRec (k, u, f, R, o) = E at *
          clear HE
          go_wp2
          have hRf := hR4.sets zeroRec rfl
          refine ret_cell_tmp Tryz.results67 rfl rfl (hRf.load Tryz.underlying43 rfl sizeRec) ?_
          rw [HE2.out.1, HE2.out.2]
          exact ⟨⟨_, rfl, recIs_none _ _⟩, below_sets HB4.out w.heap.size (Nat.le_refl _) zeroRec 0⟩
end Go.Proofs.YthlhnokgcnieeadGreatDoor

/- disk.size, disk.readLine. -/
namespace Go.Proofs.YthlhnokgcnieeadGreatDoor
open Go.ChangeShapes Go.WideShapes Go.ChangeAt Go.RowKit
open Orangery (Mv Rc noRec noOp lineOf readE readR)

theorem ret_cell_tmp_tmp {fn : Func} {R : Ending → World → Prop} {tmps : Array Value} {W : World} {p u x : Tmp} {ty : TypeId} {b : Nat} {vs : List Value} {v y : Value}
    (h : fn.results = #[.cell p ty, .tmp u, .tmp x]) (hp : tmps.getD p undef = .pointer (some ⟨b, 0, none⟩)) (hv : tmps.getD u undef = v) (hy : tmps.getD x undef = y) (hl : (loadVar ty ⟨b, 0, none⟩).run Tryz.prog W = .ok (.agg vs.toArray) W)
    (hR : R (.returned (.tuple #[.agg vs.toArray, v, y])) W) : bodyPost Tryz.prog fn R .ret { tmps := tmps, defers := [] } W := by
  refine bodyPost_ret ?_ rfl hR
  have hp' : tmps[p]?.getD undef = .pointer (some ⟨b, 0, none⟩) := by simpa using hp
  have hv' : tmps[u]?.getD undef = v := by simpa using hv
  have hy' : tmps[x]?.getD undef = y := by simpa using hy
  simp [results, h, hp', hv', hy', asAddr, hl]
theorem sizeDisk : (Tryz.prog.info? 47).map (·.size) = some 2 := by kernel_rfl

set_option maxHeartbeats 1000000 in
theorem ksize_any (w : World) (v : Value) (s t : List UInt8) (h : DkIs w v s t) :
    Calls Tryz.prog 26 #[v] w fun e w' => e = .returned (.int .i64 ((s.length : Int) + (t.length : Int))) ∧ Below w.heap.size w w' := by
  obtain ⟨a, c, a', c', rfl, h1, h2⟩ := h
  have f1 := h1.few
  have f2 := h2.few
  clear h1 h2
  go_enter Tryz.func26, Tryz.ntmps26
  go_wp2
  go_ret
  exact ⟨rfl, Go.Joins.below_alloc1 w _⟩

theorem feedConst (w : World) (g : Nat) (hg : g = w.heap.size) : (convert 45 45 (.slice (some ⟨g, 0, none⟩) 1 1)).run Tryz.prog (w.alloc (.cells #[.int .u8 10] 5)) = .ok (.slice (some ⟨g, 0, none⟩) 1 1) (w.alloc (.cells #[.int .u8 10] 5 (1, 2))) := by
  subst hg
  exact Lib.run_convert_bytes_const (P := Tryz.prog) w 45 5 #[.int .u8 10] 1 1 Tryz.underlying45 Tryz.underlying5
/-- a row of one byte, as a constant text is laid -/
theorem laidFeed (w : World) (v0 : List Value) (t0 : TypeId) : ∃ W, ((w.alloc (Obj.cells v0.toArray t0)).alloc (Obj.cells #[.int .u8 10] 5 (1, 2))) = W ∧ Blk W w.heap.size v0 ∧ W.cell? ⟨w.heap.size + 1, 0, none⟩ = some (.int .u8 10) ∧ Below w.heap.size w W ∧ w.heap.size + 2 ≤ W.heap.size := by
  refine ⟨_, rfl, (Blk.new w v0 t0).alloc _, ?_, ?_, ?_⟩
  · have hh : ((w.alloc (Obj.cells v0.toArray t0)).alloc (Obj.cells #[.int .u8 10] 5 (1, 2))).heap[w.heap.size + 1]? = some (Obj.cells #[.int .u8 10] 5 (1, 2)) := blk_new (by simp)
    unfold World.cell?
    simp only [hh]
    rfl
  · exact Below.alloc (Go.Joins.below_alloc1 w (Obj.cells v0.toArray t0)) (by simp only [World.size_alloc]; omega) _
  · simp only [World.size_alloc]
    omega

set_option maxHeartbeats 2000000 in
set_option maxRecDepth 100000 in
theorem kreadLine_none (w : World) (a : Option Addr) (c : Nat) (l : List UInt8) (hl : l.length ≤ 60000) (h : BsIs w a c l) (hv : Vars w) (hn : lineOf l = none) :
    Calls Tryz.prog 53 #[.slice a l.length c] w fun e w' => e = .returned (.tuple #[rcV 0 0 0 (.slice none 0 0) noOp, .slice none 0 0, .int .i64 8]) ∧ Below w.heap.size w w' := by
  have kc := feedConst (w.alloc (Obj.cells [Value.int IntKind.i64 0, .int .i64 0, .int .i64 0, .slice none 0 0, .int .i64 0, .int .i64 0, .int .i64 0, .int .i64 0, .int .i64 0, .int .i64 0, .int .i64 0].toArray 43)) (w.heap.size + 1) (by simp)
  have HH := Lib.hid h
  have HV := Lib.hid hv
  have HN : Hid (lineOf l = none) := hn
  clear h hv hn
  go_enter Tryz.func53, Tryz.ntmps53
  go_wp2_with fail
  obtain ⟨W0, hW, hA, hC, hB, hZ⟩ := laidFeed w zeroRec 43
  rw [hW]
  clear hW kc
  refine (bcut_any W0 a c (w.heap.size + 1) 1 l hl (HH.out.keep hB) hC (HV.out.on hB)).mono ?_
  rintro e w1 ⟨⟨-, rfl⟩ | ⟨t, r, a', c', h1, _⟩, hb⟩
  case inr => rw [HN.out] at h1; simp at h1
  have hA1 := hA.keep hb
  have HB1 : Hid (Below w.heap.size w w1) := hB.trans (hb.mono hB.size)
  clear hA hB hb hC hZ HH HV HN
  have rf := hA1.frz
  have r0 := hA1.at 0 rfl
  have r1 := hA1.at 1 rfl
  have r2 := hA1.at 2 rfl
  have r3 := hA1.at 3 rfl
  have r4 := hA1.at 4 rfl
  have r5 := hA1.at 5 rfl
  have r6 := hA1.at 6 rfl
  have r7 := hA1.at 7 rfl
  have r8 := hA1.at 8 rfl
  have r9 := hA1.at 9 rfl
  have r10 := hA1.at 10 rfl
  go_wp2
  have hRf := hA1.sets zeroRec rfl
  refine ret_cell_tmp_tmp Tryz.results53 rfl rfl rfl (hRf.load Tryz.underlying43 rfl sizeRec) ?_
  exact ⟨rfl, below_sets HB1.out w.heap.size (Nat.le_refl _) zeroRec 0⟩

set_option maxHeartbeats 2000000 in
set_option maxRecDepth 100000 in
theorem kreadLine_some (w : World) (a : Option Addr) (c : Nat) (l t r : List UInt8) (hl : l.length ≤ 60000) (h : BsIs w a c l) (hv : Vars w) (hn : lineOf l = some (t, r)) :
    Calls Tryz.prog 53 #[.slice a l.length c] w fun e w' => (∃ (x : Rm) (a' : Option Addr) (c' : Nat), e = .returned (.tuple #[x.val, .slice a' r.length c', .int .i64 (readE t)]) ∧ x.1 = readR t ∧ RootsIn 0 w' x ∧ From w.heap.size x.2.1 ∧ ∀ W, BsIs W a c l → BsIs W a' c' r) ∧ Below w.heap.size w w' := by
  have kc := feedConst (w.alloc (Obj.cells [Value.int IntKind.i64 0, .int .i64 0, .int .i64 0, .slice none 0 0, .int .i64 0, .int .i64 0, .int .i64 0, .int .i64 0, .int .i64 0, .int .i64 0, .int .i64 0].toArray 43)) (w.heap.size + 1) (by simp)
  have ht : t.length ≤ 60000 := by have := Orangery.lineOf_len hn; omega
  have HP := Lib.hid (read_parse ht)
  have H4 := Lib.hid (parse_few t)
  have HH := Lib.hid h
  have HV := Lib.hid hv
  have HN : Hid (lineOf l = some (t, r)) := hn
  clear h hv hn
  go_enter Tryz.func53, Tryz.ntmps53
  go_wp2_with fail
  obtain ⟨W0, hW, hA, hC, hB, hZ⟩ := laidFeed w zeroRec 43
  rw [hW]
  clear hW kc
  refine (bcut_any W0 a c (w.heap.size + 1) 1 l hl (HH.out.keep hB) hC (HV.out.on hB)).mono ?_
  rintro e w1 ⟨⟨h1, _⟩ | ⟨t', r', a', c', h1, rfl, hTR⟩, hb⟩
  · rw [HN.out] at h1; simp at h1
  rw [HN.out] at h1
  obtain ⟨rfl, rfl⟩ : t = t' ∧ r = r' := by simpa using h1
  have hA1 := hA.keep hb
  have HB1 : Hid (Below w.heap.size w w1) := hB.trans (hb.mono hB.size)
  have HV1 := Lib.hid ((HV.out.on hB).on hb)
  have kT := ((hTR w1 ((HH.out.keep hB).keep hb)).1).text c
  have HR1 : Hid (∀ W, BsIs W a c l → BsIs W a' c' r) := fun W h => (hTR W h).2
  have hz1 : w.heap.size < w1.heap.size := hA1.lt
  clear hA hB hb hC hZ HH HV HN h1 hTR
  go_wp2_with fail
  refine (nparse_any w1 t (by unfold maxLen; omega) HV1.out).mono ?_
  rintro e w2 ⟨⟨v2, rfl, hr⟩, hb⟩
  rw [HP.out.1]
  have h4 := H4.out
  rw [HP.out.2] at hr h4
  have HM := Lib.hid (hr.mem (by unfold maxLen; omega))
  have hA2 := hA1.keep hb
  have HB2 : Hid (Below w.heap.size w w2) := HB1.out.trans (hb.mono HB1.out.size)
  have hz2 : w1.heap.size ≤ w2.heap.size := hb.size
  clear hA1 HB1 HV1 kT hr hb h4 H4
  obtain ⟨⟨⟨k, u, f, R, o⟩, a3, c3⟩, rfl, e3, hI, hF⟩ := HM.out
  have HE : Hid ((k, u, f, R, o) = readR t) := e3
  have HI := Lib.hid hI
  have HF := Lib.hid hF
  clear HM e3 hI hF
  obtain ⟨W3, hW3, hX3, hb3, -⟩ := laid1 w2 [Value.int IntKind.i64 k, .int .i64 u, .int .i64 f, .slice a3 R.length c3, .int .i64 o.1, .int .i64 o.2.1, .int .i64 o.2.2.1.1, .int .i64 o.2.2.1.2.1, .int .i64 o.2.2.1.2.2, .int .i64 o.2.2.2.1, .int .i64 o.2.2.2.2] 43
  have hA3 := hA2.keep hb3
  have HB3 := Lib.hid (HB2.out.trans (hb3.mono HB2.out.size))
  have HI3 := Lib.hid (HI.out.keep hb3)
  have rf := hA3.frz
  have r0 := hA3.at 0 rfl
  have r1 := hA3.at 1 rfl
  have r2 := hA3.at 2 rfl
  have r3 := hA3.at 3 rfl
  have r4 := hA3.at 4 rfl
  have r5 := hA3.at 5 rfl
  have r6 := hA3.at 6 rfl
  have r7 := hA3.at 7 rfl
  have r8 := hA3.at 8 rfl
  have r9 := hA3.at 9 rfl
  have r10 := hA3.at 10 rfl
  have y0 := hX3.at 0 rfl
  have y1 := hX3.at 1 rfl
  have y2 := hX3.at 2 rfl
  have y3 := hX3.at 3 rfl
  have y4 := hX3.at 4 rfl
  have y5 := hX3.at 5 rfl
  have y6 := hX3.at 6 rfl
  have y7 := hX3.at 7 rfl
  have y8 := hX3.at 8 rfl
  have y9 := hX3.at 9 rfl
  have y10 := hX3.at 10 rfl
  clear hA2 HB2 HI hb3 hX3
  go_wp2
  have hRf := hA3.sets [Value.int IntKind.i64 k, .int .i64 u, .int .i64 f, .slice a3 R.length c3, .int .i64 o.1, .int .i64 o.2.1, .int .i64 o.2.2.1.1, .int .i64 o.2.2.1.2.1, .int .i64 o.2.2.1.2.2, .int .i64 o.2.2.2.1, .int .i64 o.2.2.2.2] rfl
  refine ret_cell_tmp_tmp Tryz.results53 rfl rfl rfl (hRf.load Tryz.underlying43 rfl sizeRec) ?_
  refine ⟨⟨((k, u, f, R, o), a3, c3), a', c', rfl, HE.out, ?_, from_mono HF.out (by omega), HR1.out⟩, below_sets HB3.out w.heap.size (Nat.le_refl _) [Value.int IntKind.i64 k, .int .i64 u, .int .i64 f, .slice a3 R.length c3, .int .i64 o.1, .int .i64 o.2.1, .int .i64 o.2.2.1.1, .int .i64 o.2.2.1.2.1, .int .i64 o.2.2.1.2.2, .int .i64 o.2.2.2.1, .int .i64 o.2.2.2.2] 0⟩
  exact RootsIn.sets (g := w.heap.size) [Value.int IntKind.i64 k, .int .i64 u, .int .i64 f, .slice a3 R.length c3, .int .i64 o.1, .int .i64 o.2.1, .int .i64 o.2.2.1.1, .int .i64 o.2.2.1.2.1, .int .i64 o.2.2.1.2.2, .int .i64 o.2.2.2.1, .int .i64 o.2.2.2.2] 0 _ HI3.out (fun b off e => by have := HF.out b off e; omega)
end Go.Proofs.YthlhnokgcnieeadGreatDoor

/- disk.read. -/
namespace Go.Proofs.YthlhnokgcnieeadGreatDoor
open Go.ChangeShapes Go.WideShapes Go.ChangeAt Go.RowKit
open Orangery (Mv Rc noRec noOp lineOf readE readR lnL lnN lnE LnTo)

theorem ownR_grew {w w' : World} {base : Nat} {v v' : Value} {X : List Rm} {x : Rm} (h : OwnR w base v 0 X) (hx : RootsIn 0 w x) (ho : w'.ownsRow base 43 11 v' (X.length + 1) (X.flatMap rcC ++ rcC x)) (hg : w.grownBy w' v.ownBlock) : OwnR w' base v' 0 (X ++ [x]) := by
  refine ⟨?_, ?_⟩
  · show World.ownsRow _ _ _ _ _ _ _
    simpa using ho
  · intro y hy
    rcases List.mem_append.1 hy with hy | hy
    · exact (h.roots y hy).grown h.own (Nat.zero_le _) hg
    · simp at hy
      subst hy
      exact hx.grown h.own (Nat.zero_le _) hg

set_option maxHeartbeats 4000000 in
set_option maxRecDepth 100000 in
theorem kread_any (w : World) (a : Option Addr) (c : Nat) (s : List UInt8) (m : Nat) (hs : s.length ≤ 60000) (hm : m ≤ 60) (h : BsIs w a c s) (hv : Vars w) :
    Calls Tryz.prog 29 #[.slice a s.length c, .int .i64 m] w
      fun e w' => (∃ (v : Value) (X : List Rm) (a' : Option Addr) (c' : Nat), e = .returned (.tuple #[v, .slice a' (s.length - lnN m s) c', .int .i64 (lnE m s)]) ∧ OwnR w' w.heap.size v 0 X ∧ X.map (·.1) = lnL m s ∧ ∀ x ∈ X, From w.heap.size x.2.1) ∧ Below w.heap.size w w' := by
  obtain ⟨i0, hi, hz0, hz1, hz2⟩ := info_parts infoRec
  have HH := Lib.hid h
  have HV := Lib.hid hv
  clear h hv
  go_enter Tryz.func29, Tryz.ntmps29
  go_wp2
  go_loopw [0, 7] (fun tv rv W => ∃ (s' : List UInt8) (a' : Option Addr) (c' : Nat) (X : List Rm), tv = .slice a' s'.length c' ∧ BsIs w a' c' s' ∧ OwnR W w.heap.size rv 0 X ∧ LnTo m s (X.map (·.1)) s' ∧ (∀ x ∈ X, From w.heap.size x.2.1) ∧ Below w.heap.size w W) (fun tv _ _ => lenOf tv)
  case atStart => exact ⟨s, a, c, [], rfl, HH.out, OwnR.nil _ _ _, LnTo.start m s, fun x hx => by simp at hx, Below.refl _ _⟩
  case round =>
    clear HH
    obtain ⟨s', a', c', X, rfl, hbs, hO, hL, hF, hb⟩ := hrel
    obtain ⟨aX, cX, rfl, -, hcX, hnX⟩ := hO.val
    have hs' : s'.length ≤ 60000 := Nat.le_trans hL.left hs
    have hX : X.length ≤ m := by have := hL.few; simpa using this
    have HBS := Lib.hid hbs
    have HO := Lib.hid hO
    have HL := Lib.hid hL
    have HB := Lib.hid hb
    have HF := Lib.hid hF
    have HVr := Lib.hid (HV.out.on hb)
    clear hbs hO hL hF hb hcX hnX
    by_cases hn : s' = []
    · subst hn
      have HE := Lib.hid HL.out.fin
      go_wp2
      go_ret3
      exact ⟨⟨_, X, none, 0, by rw [HE.out.2.1, HE.out.2.2]; rfl, HO.out, HE.out.1.symm, HF.out⟩, HB.out⟩
    have d0 : 0 < s'.length := List.length_pos_iff.2 hn
    have d1 : decide ((s'.length : Int) > 0) = true := by simp; omega
    cases hlo : lineOf s' with
    | none =>
      have HE := Lib.hid (HL.out.torn hn hlo)
      have HC := Lib.hid (kreadLine_none wr a' c' s' hs' (HBS.out.keep HB.out) HVr.out hlo)
      clear hlo hn
      go_wp2_with fail
      refine HC.out.mono ?_
      rintro e w2 ⟨rfl, hb2⟩
      have HB2 := Lib.hid (HB.out.trans (hb2.mono HB.out.size))
      have HO2 := Lib.hid (HO.out.keep hb2)
      clear HC hb2 HB HO
      go_wp2
      go_ret3
      refine ⟨⟨_, X, a', c', by rw [HE.out.2.1, HE.out.2.2]; rfl, HO2.out.keep (Go.Joins.below_alloc1 w2 _), HE.out.1.symm, HF.out⟩, ?_⟩
      exact HB2.out.trans ((Go.Joins.below_alloc1 w2 _).mono HB2.out.size)
    | some tr =>
      obtain ⟨t, r⟩ := tr
      have HC := Lib.hid (kreadLine_some wr a' c' s' t r hs' (HBS.out.keep HB.out) HVr.out hlo)
      have HLEN := Lib.hid (Orangery.lineOf_len hlo)
      have HLO : Hid (lineOf s' = some (t, r)) := hlo
      clear hlo hn
      go_wp2_with fail
      refine HC.out.mono ?_
      rintro e w2 ⟨⟨⟨⟨k, u, f, R, o⟩, a3, c3⟩, a4, c4, rfl, ex, hx, hfx, hr⟩, hb2⟩
      have HX : Hid ((k, u, f, R, o) = readR t) := ex
      have HB2 := Lib.hid (HB.out.trans (hb2.mono HB.out.size))
      have HO2 := Lib.hid (HO.out.keep hb2)
      have HR2 := Lib.hid (hr w HBS.out)
      have HI2 := Lib.hid hx
      have HFX : Hid (From w.heap.size a3) := from_mono hfx HB.out.size
      clear HC hb2 HB HO hr hx ex hfx
      by_cases he : readE t = 0
      case neg =>
        have HE := Lib.hid (HL.out.bad HLO.out he)
        have d2 : (readE t != 0) = true := by simpa using he
        generalize readE t = E at *
        clear he
        go_wp2
        go_ret3
        refine ⟨⟨_, X, a', c', by rw [HE.out.2.1, HE.out.2.2]; rfl, HO2.out.keep (Go.Joins.below_alloc1 w2 _), HE.out.1.symm, HF.out⟩, ?_⟩
        exact HB2.out.trans ((Go.Joins.below_alloc1 w2 _).mono HB2.out.size)
      have HE0 : Hid (readE t = 0) := he
      rw [he]
      clear he
      by_cases hmany : m ≤ X.length
      · have HE := Lib.hid (HL.out.many HLO.out HE0.out (by simpa using hmany))
        have d2 : decide ((X.length : Int) ≥ (m : Int)) = true := by simp; omega
        have d3 : (m : Int) ≤ (X.length : Int) := by omega
        clear hmany
        go_wp2
        go_ret3
        refine ⟨⟨_, X, a', c', by rw [HE.out.2.1, HE.out.2.2]; rfl, HO2.out.keep (Go.Joins.below_alloc1 w2 _), HE.out.1.symm, HF.out⟩, ?_⟩
        exact HB2.out.trans ((Go.Joins.below_alloc1 w2 _).mono HB2.out.size)
      have HN := Lib.hid (HL.out.next HLO.out HE0.out (by simp; omega))
      have d2 : decide ((X.length : Int) ≥ (m : Int)) = false := by simp; omega
      have d3 : ¬ (m : Int) ≤ (X.length : Int) := by omega
      clear hmany
      obtain ⟨W3, hW, hN, hM, hBn, -⟩ := laid2 w2 [Value.int IntKind.i64 k, .int .i64 u, .int .i64 f, .slice a3 R.length c3, .int .i64 o.1, .int .i64 o.2.1, .int .i64 o.2.2.1.1, .int .i64 o.2.2.1.2.1, .int .i64 o.2.2.1.2.2, .int .i64 o.2.2.2.1, .int .i64 o.2.2.2.2] 43 [Value.int IntKind.i64 k, .int .i64 u, .int .i64 f, .slice a3 R.length c3, .int .i64 o.1, .int .i64 o.2.1, .int .i64 o.2.2.1.1, .int .i64 o.2.2.1.2.1, .int .i64 o.2.2.1.2.2, .int .i64 o.2.2.2.1, .int .i64 o.2.2.2.2] 43
      have hown : W3.ownsRow w.heap.size 43 11 (.slice aX X.length cX) X.length (X.flatMap rcC) := HO2.out.own.keep hBn
      have HO3 := Lib.hid (HO2.out.keep hBn)
      have HI3 := Lib.hid (HI2.out.keep hBn)
      have HB3 := Lib.hid (HB2.out.trans (hBn.mono HB2.out.size))
      have HM := Lib.hid hM
      have hsz : w.heap.size ≤ W3.heap.size := HB3.out.size
      clear hN hM hBn HO2 HI2 HB2
      go_wp2_with (at_builtin; refine wpList_append_own _ rfl _ _ 22 rfl w.heap.size 43 i0 _ 11 104 Tryz.underlying22 hi hz0 hz1 hz2 rfl (by decide) _ _ _ rfl hown ⟨w2.heap.size + 1, 0, none⟩ 1 1 [Value.int IntKind.i64 k, .int .i64 u, .int .i64 f, .slice a3 R.length c3, .int .i64 o.1, .int .i64 o.2.1, .int .i64 o.2.2.1.1, .int .i64 o.2.2.1.2.1, .int .i64 o.2.2.1.2.2, .int .i64 o.2.2.2.1, .int .i64 o.2.2.2.2] rfl rfl ?c1 ?c2 ?c3 ?c4 ?c5 ?_)
      case c1 => intro j u hj; first | exact HM.out.at j hj | (rw [Addr.add_mid, Nat.zero_add]; exact HM.out.at j hj)
      case c2 => first | exact rcC_one ((k, u, f, R, o), a3, c3) | exact ⟨rfl, rfl, rfl, rfl, rfl, rfl, rfl, rfl, rfl, rfl, rfl⟩
      case c3 => unfold maxLen; omega
      case c4 => omega
      case c5 => exact hsz
      intro v5 w5 hown5 hgrow _
      have HO5 := Lib.hid (ownR_grew (x := ((k, u, f, R, o), a3, c3)) HO3.out HI3.out hown5 hgrow)
      have hb5 := below_grown hown hsz hgrow
      have HB5 := Lib.hid (HB3.out.trans hb5)
      clear hgrow hown5
      go_wp2
      go_roundw
      case rel =>
        refine ⟨r, a4, c4, X ++ [((k, u, f, R, o), a3, c3)], rfl, HR2.out, HO5.out, ?_, ?_, HB5.out⟩
        case refine_2 =>
          intro x hx
          rcases List.mem_append.1 hx with hx | hx
          · exact HF.out x hx
          · simp at hx
            subst hx
            exact HFX.out
        have := HN.out
        rw [← HX.out] at this
        simpa using this
      case measure => have := HLEN.out; simp [lenOf]; omega
end Go.Proofs.YthlhnokgcnieeadGreatDoor

