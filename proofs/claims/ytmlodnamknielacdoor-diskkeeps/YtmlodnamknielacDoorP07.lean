/- 5 texts of the proof: Plain facts on disks: lines read one by one, by the program's loop and by the reference's; records put, one after another. Records in memory, each with its roots: rows of them. note.Check, orangeryref.CheckRec: what they answer of whatever record. note.Parse. disk.size, disk.readLine. -/
import Derived.Test.YtmlodnamknielacDoorP06
import Derived.Test.YtmlodnamknielacDoorP05
/- Plain facts on disks: lines read one by one, by the program's loop and by the reference's; records put, one after another. -/
namespace Orangery

theorem ln_nil (m : Nat) : lnL m [] = [] ∧ lnN m [] = 0 ∧ lnE m [] = 0 := by simp [lnL, lnN, lnE, linesR]
theorem ln_torn {m : Nat} {s : List UInt8} (hs : s ≠ []) (h : lineOf s = none) : lnL m s = [] ∧ lnN m s = 0 ∧ lnE m s = 8 := by
  unfold lnL lnN lnE linesR
  rw [if_neg hs, h]
  exact ⟨rfl, rfl, rfl⟩
theorem lineOf_nil : lineOf [] = none := rfl
theorem lineOf_ne {s t r : List UInt8} (h : lineOf s = some (t, r)) : s ≠ [] := by intro e; subst e; simp [lineOf] at h
theorem ln_bad {m : Nat} {s t r : List UInt8} (h : lineOf s = some (t, r)) (he : readE t ≠ 0) : lnL m s = [] ∧ lnN m s = 0 ∧ lnE m s = readE t := by
  unfold lnL lnN lnE linesR
  rw [if_neg (lineOf_ne h), h]
  simp only
  rw [if_pos he]
  exact ⟨rfl, rfl, rfl⟩
theorem ln_many {s t r : List UInt8} (h : lineOf s = some (t, r)) (he : readE t = 0) : lnL 0 s = [] ∧ lnN 0 s = 0 ∧ lnE 0 s = 2 := by
  unfold lnL lnN lnE linesR
  rw [if_neg (lineOf_ne h), h]
  simp only
  rw [if_neg (by simp [he])]
  simp
theorem ln_next {m : Nat} {s t r : List UInt8} (h : lineOf s = some (t, r)) (he : readE t = 0) (hm : m ≠ 0) : lnL m s = readR t :: lnL (m - 1) r ∧ lnN m s = t.length + 1 + lnN (m - 1) r ∧ lnE m s = lnE (m - 1) r := by
  have hlen := lineOf_len h
  have hf := lines_fuel s.length (m - 1) r (by omega)
  unfold lnL lnN lnE
  conv => lhs; lhs; unfold linesR
  rw [if_neg (lineOf_ne h), h]
  simp only
  rw [if_neg (by simp [he]), if_neg hm, hf]
  refine ⟨rfl, ?_, ?_⟩
  · conv => lhs; unfold linesR
    rw [if_neg (lineOf_ne h), h]
    simp only
    rw [if_neg (by simp [he]), if_neg hm, hf]
  · conv => lhs; unfold linesR
    rw [if_neg (lineOf_ne h), h]
    simp only
    rw [if_neg (by simp [he]), if_neg hm, hf]

theorem ln_len (k : Nat) : ∀ (m : Nat) (s : List UInt8), s.length ≤ k → (lnL m s).length ≤ m ∧ lnN m s ≤ s.length := by
  induction k with
  | zero =>
    intro m s h
    have : s = [] := List.length_eq_zero_iff.1 (by omega)
    subst this
    obtain ⟨h1, h2, _⟩ := ln_nil m
    rw [h1, h2]; simp
  | succ k ih =>
    intro m s h
    by_cases hs : s = []
    · subst hs
      obtain ⟨h1, h2, _⟩ := ln_nil m
      rw [h1, h2]; simp
    cases hl : lineOf s with
    | none => obtain ⟨h1, h2, _⟩ := ln_torn (m := m) hs hl; rw [h1, h2]; simp
    | some x =>
      obtain ⟨t, r⟩ := x
      have hlen := lineOf_len hl
      by_cases he : readE t = 0
      · by_cases hm : m = 0
        · subst hm
          obtain ⟨h1, h2, _⟩ := ln_many hl he; rw [h1, h2]; simp
        · obtain ⟨h1, h2, _⟩ := ln_next hl he hm
          obtain ⟨i1, i2⟩ := ih (m - 1) r (by omega)
          rw [h1, h2]
          simp only [List.length_cons]
          omega
      · obtain ⟨h1, h2, _⟩ := ln_bad (m := m) hl he; rw [h1, h2]; simp
theorem lnL_len (m : Nat) (s : List UInt8) : (lnL m s).length ≤ m := (ln_len _ m s (Nat.le_refl _)).1
theorem lnN_len (m : Nat) (s : List UInt8) : lnN m s ≤ s.length := (ln_len _ m s (Nat.le_refl _)).2

/-- lines read so far: L of them; s' is left -/
structure LnTo (m : Nat) (s : List UInt8) (L : List Rc) (s' : List UInt8) : Prop where
  recs : lnL m s = L ++ lnL (m - L.length) s'
  size : lnN m s + s'.length = s.length + lnN (m - L.length) s'
  err : lnE m s = lnE (m - L.length) s'
  few : L.length ≤ m
  left : s'.length ≤ s.length
theorem LnTo.start (m : Nat) (s : List UInt8) : LnTo m s [] s := ⟨by simp, by simp; omega, by simp, by simp, Nat.le_refl _⟩
theorem LnTo.next {m : Nat} {s s' t r : List UInt8} {L : List Rc} (h : LnTo m s L s') (hl : lineOf s' = some (t, r)) (he : readE t = 0) (hm : L.length < m) : LnTo m s (L ++ [readR t]) r := by
  have hlen := lineOf_len hl
  obtain ⟨h1, h2, h3⟩ := ln_next (m := m - L.length) hl he (by omega)
  have hk : m - (L ++ [readR t]).length = m - L.length - 1 := by simp; omega
  refine ⟨?_, ?_, ?_, by simp; omega, by have := h.left; omega⟩
  · rw [hk, h.recs, h1]; simp
  · have := h.size
    rw [hk]
    omega
  · rw [hk, h.err, h3]
theorem LnTo.fin {m : Nat} {s : List UInt8} {L : List Rc} (h : LnTo m s L []) : lnL m s = L ∧ s.length - lnN m s = 0 ∧ lnE m s = 0 := by
  obtain ⟨h1, h2, h3⟩ := ln_nil (m - L.length)
  have e1 := h.recs; have e2 := h.size; have e3 := h.err
  rw [h1] at e1; rw [h2] at e2; rw [h3] at e3
  refine ⟨by simpa using e1, ?_, e3⟩
  simp at e2
  omega
theorem LnTo.torn {m : Nat} {s s' : List UInt8} {L : List Rc} (h : LnTo m s L s') (hs : s' ≠ []) (hl : lineOf s' = none) : lnL m s = L ∧ s.length - lnN m s = s'.length ∧ lnE m s = 8 := by
  obtain ⟨h1, h2, h3⟩ := ln_torn (m := m - L.length) hs hl
  have e1 := h.recs; have e2 := h.size; have e3 := h.err
  rw [h1] at e1; rw [h2] at e2; rw [h3] at e3
  refine ⟨by simpa using e1, ?_, e3⟩
  have := h.left
  omega
theorem LnTo.bad {m : Nat} {s s' t r : List UInt8} {L : List Rc} (h : LnTo m s L s') (hl : lineOf s' = some (t, r)) (he : readE t ≠ 0) : lnL m s = L ∧ s.length - lnN m s = s'.length ∧ lnE m s = readE t := by
  obtain ⟨h1, h2, h3⟩ := ln_bad (m := m - L.length) hl he
  have e1 := h.recs; have e2 := h.size; have e3 := h.err
  rw [h1] at e1; rw [h2] at e2; rw [h3] at e3
  refine ⟨by simpa using e1, ?_, e3⟩
  have := h.left
  omega
theorem LnTo.many {m : Nat} {s s' t r : List UInt8} {L : List Rc} (h : LnTo m s L s') (hl : lineOf s' = some (t, r)) (he : readE t = 0) (hm : m ≤ L.length) : lnL m s = L ∧ s.length - lnN m s = s'.length ∧ lnE m s = 2 := by
  have hz : m - L.length = 0 := by omega
  obtain ⟨h1, h2, h3⟩ := ln_many hl he
  have e1 := h.recs; have e2 := h.size; have e3 := h.err
  rw [hz] at e1 e2 e3
  rw [h1] at e1; rw [h2] at e2; rw [h3] at e3
  refine ⟨by simpa using e1, ?_, e3⟩
  have := h.left
  omega

/-- pieces read so far: k of them, L records, n bytes -/
structure RunTo (m : Nat) (ps : List (List UInt8)) (L : List Rc) (n k : Nat) : Prop where
  recs : (runP m ps).1 = L ++ (runP (m - L.length) (ps.drop k)).1
  size : (runP m ps).2.1 = n + (runP (m - L.length) (ps.drop k)).2.1
  err : (runP m ps).2.2 = (runP (m - L.length) (ps.drop k)).2.2
  few : L.length ≤ m
  upto : L.length ≤ k
theorem RunTo.start (m : Nat) (ps : List (List UInt8)) : RunTo m ps [] 0 0 := ⟨by simp, by simp, by simp, by simp, by simp⟩
theorem RunTo.fin {m n k : Nat} {ps : List (List UInt8)} {L : List Rc} (h : RunTo m ps L n k) (hk : ps.length ≤ k) : (runP m ps).1 = L ∧ (runP m ps).2.1 = n ∧ (runP m ps).2.2 = 0 := by
  have e1 := h.recs; have e2 := h.size; have e3 := h.err
  rw [List.drop_of_length_le hk] at e1 e2 e3
  simp [runP] at e1 e2 e3
  exact ⟨e1, e2, e3⟩
theorem drop_at {α : Type} (l : List α) (k : Nat) (h : k < l.length) : l.drop k = l[k] :: l.drop (k + 1) := List.drop_eq_getElem_cons h
theorem run_none (m : Nat) (ps : List (List UInt8)) : runP m ([] :: ps) = ([], 0, 0) := by unfold runP; rw [if_pos rfl]
theorem run_torn {m : Nat} {t : List UInt8} (ps : List (List UInt8)) (h0 : t ≠ []) (h1 : t.getLast? ≠ some 10) : runP m (t :: ps) = ([], 0, 8) := by unfold runP; rw [if_neg h0, if_pos h1]
theorem run_bad {m : Nat} {t : List UInt8} (ps : List (List UInt8)) (h0 : t ≠ []) (h1 : t.getLast? = some 10) (h2 : readE t.dropLast ≠ 0) : runP m (t :: ps) = ([], 0, readE t.dropLast) := by
  unfold runP; rw [if_neg h0, if_neg (by simp [h1]), if_pos h2]
theorem run_many {t : List UInt8} (ps : List (List UInt8)) (h0 : t ≠ []) (h1 : t.getLast? = some 10) (h2 : readE t.dropLast = 0) : runP 0 (t :: ps) = ([], 0, 2) := by
  unfold runP; rw [if_neg h0, if_neg (by simp [h1]), if_neg (by simp [h2])]; simp
theorem run_next {m : Nat} {t : List UInt8} (ps : List (List UInt8)) (h0 : t ≠ []) (h1 : t.getLast? = some 10) (h2 : readE t.dropLast = 0) (hm : m ≠ 0) :
    runP m (t :: ps) = (readR t.dropLast :: (runP (m - 1) ps).1, t.length + (runP (m - 1) ps).2.1, (runP (m - 1) ps).2.2) := by
  conv => lhs; unfold runP
  rw [if_neg h0, if_neg (by simp [h1]), if_neg (by simp [h2]), if_neg hm]
/-- it ends at piece k -/
theorem RunTo.ends {m n k : Nat} {ps : List (List UInt8)} {L : List Rc} {E : Int} (h : RunTo m ps L n k) (hk : k < ps.length) (ht : runP (m - L.length) (ps[k] :: ps.drop (k + 1)) = ([], 0, E)) : (runP m ps).1 = L ∧ (runP m ps).2.1 = n ∧ (runP m ps).2.2 = E := by
  have e1 := h.recs; have e2 := h.size; have e3 := h.err
  rw [drop_at ps k hk, ht] at e1 e2 e3
  exact ⟨by simpa using e1, by simpa using e2, e3⟩
theorem RunTo.next {m n k : Nat} {ps : List (List UInt8)} {L : List Rc} {t : List UInt8} (h : RunTo m ps L n k) (hk : k < ps.length) (ht : ps[k] = t) (h0 : t ≠ []) (h1 : t.getLast? = some 10) (h2 : readE t.dropLast = 0) (hm : L.length < m) :
    RunTo m ps (L ++ [readR t.dropLast]) (n + t.length) (k + 1) := by
  have hr := run_next (m := m - L.length) (ps.drop (k + 1)) h0 h1 h2 (by omega)
  have e1 := h.recs; have e2 := h.size; have e3 := h.err
  rw [drop_at ps k hk, ht, hr] at e1 e2 e3
  have hz : m - (L ++ [readR t.dropLast]).length = m - L.length - 1 := by simp; omega
  refine ⟨?_, ?_, ?_, by simp; omega, by have := h.upto; simp; omega⟩
  · rw [hz, e1]; simp
  · rw [hz, e2]; simp; omega
  · rw [hz, e3]
theorem run_ln (m : Nat) (s : List UInt8) : (runP m (pcs (s.count 10) s)).1 = lnL m s ∧ (runP m (pcs (s.count 10) s)).2.1 = lnN m s ∧ (runP m (pcs (s.count 10) s)).2.2 = lnE m s := by
  rw [run_pcs _ m s (Nat.le_refl _)]
  exact ⟨rfl, rfl, rfl⟩
theorem suffix_last (t : List UInt8) : Go.Lib.hasSuffix t [10] = true ↔ t.getLast? = some 10 := by
  unfold Go.Lib.hasSuffix
  rw [List.isSuffixOf_iff_suffix]
  constructor
  · rintro ⟨p, rfl⟩; simp
  · intro h
    obtain ⟨p, rfl⟩ := List.getLast?_eq_some_iff.1 h
    exact ⟨p, rfl⟩
theorem take_dropLast (t : List UInt8) : t.take (t.length - 1) = t.dropLast := by rw [List.dropLast_eq_take]

/-- the right records of a list -/
def okL (l : List Rc) : List Rc := l.filter fun r => checkRec r == 0
theorem okL_all (l : List Rc) : ∀ r ∈ okL l, checkRec r = 0 := by
  intro r hr
  have := (List.mem_filter.1 hr).2
  simpa using this
theorem okL_len (l : List Rc) : (okL l).length ≤ l.length := List.length_filter_le _ _
theorem okL_yes (l : List Rc) (k : Nat) (hk : k < l.length) (h : checkRec l[k] = 0) : okL (l.take (k + 1)) = okL (l.take k) ++ [l[k]] := by
  unfold okL
  rw [List.take_succ_eq_append_getElem hk, List.filter_append]
  simp [h]
theorem okL_no (l : List Rc) (k : Nat) (hk : k < l.length) (h : checkRec l[k] ≠ 0) : okL (l.take (k + 1)) = okL (l.take k) := by
  unfold okL
  rw [List.take_succ_eq_append_getElem hk, List.filter_append]
  simp [h]

theorem disk_right (A : List Rc) (hA : ∀ r ∈ A, checkRec r = 0) (ha : A.length ≤ 60) (w : List UInt8) (hw : w.length ≤ 40000) : diskE (encR A) w = 0 := by
  have h1 := encR_len A hA
  have h2 := ln_enc A hA 60 [] ha (Or.inl rfl)
  rw [List.append_nil] at h2
  unfold diskE
  rw [if_neg (by omega), h2.2.2 rfl]
theorem put_right (A B : List Rc) (hA : ∀ r ∈ A, checkRec r = 0) (hB : ∀ r ∈ B, checkRec r = 0) (ha : A.length ≤ 20) (hb : B.length ≤ 20) (r : Rc) : putE (encR A) (encR B) r = checkRec r := by
  have h1 := encR_len A hA
  have h2 := encR_len B hB
  unfold putE
  by_cases hr : checkRec r = 0
  · have h3 := recT_len hr
    rw [if_neg (by simp [hr]), if_neg (by omega), hr]
  · rw [if_pos hr]
theorem enc_put (B : List Rc) (r : Rc) : encR (B ++ [r]) = encR B ++ (recT r ++ [10]) := by rw [encR_app]; simp [encR, recLine]
end Orangery

/- Records in memory, each with its roots: rows of them. -/
namespace Go.Proofs.YtmlodnamknielacDoor
open Go.ChangeShapes Go.WideShapes Go.ChangeAt Go.RowKit
open Orangery (Mv Rc noRec noOp)

/-- a record in memory: it, its roots' address, the room there -/
abbrev Rm := Rc × Option Addr × Nat
abbrev Rm.val (x : Rm) : Value := rcV x.1.1 x.1.2.1 x.1.2.2.1 (.slice x.2.1 x.1.2.2.2.1.length x.2.2) x.1.2.2.2.2
def rcC (x : Rm) : List Value := [.int .i64 x.1.1, .int .i64 x.1.2.1, .int .i64 x.1.2.2.1, .slice x.2.1 x.1.2.2.2.1.length x.2.2, .int .i64 x.1.2.2.2.2.1, .int .i64 x.1.2.2.2.2.2.1, .int .i64 x.1.2.2.2.2.2.2.1.1, .int .i64 x.1.2.2.2.2.2.2.1.2.1, .int .i64 x.1.2.2.2.2.2.2.1.2.2, .int .i64 x.1.2.2.2.2.2.2.2.1, .int .i64 x.1.2.2.2.2.2.2.2.2]
theorem rcC_val (x : Rm) : x.val = .agg (rcC x).toArray := rfl
theorem rcC_len (x : Rm) : (rcC x).length = 11 := rfl
theorem rcC_one (x : Rm) : ∀ v ∈ rcC x, v.oneCell' = true := by
  intro v hv
  simp [rcC] at hv
  rcases hv with rfl | rfl | rfl | rfl | rfl | rfl | rfl | rfl | rfl | rfl | rfl <;> rfl
theorem infoRec : (Tryd.prog.info? 28).map (fun i => (i.zero, i.size, i.bytes)) = some (some (.agg #[.int .i64 0, .int .i64 0, .int .i64 0, .slice none 0 0, .int .i64 0, .int .i64 0, .int .i64 0, .int .i64 0, .int .i64 0, .int .i64 0, .int .i64 0]), 11, 104) := by kernel_rfl

/-- its roots read; they are no part of a row of records from block B on -/
structure RootsIn (B : Nat) (w : World) (x : Rm) : Prop where
  lies : x.1.2.2.2.1 = [] ∨ ∃ b off, x.2.1 = some ⟨b, off, Option.none⟩ ∧ b < w.heap.size ∧ IntsAt w b off x.1.2.2.2.1 ∧ (b < B ∨ ∃ cs fr, w.heap[b]? = some (.cells cs 3 fr))
  none : x.2.1 = none → x.2.2 = 0
  few : x.1.2.2.2.1.length ≤ maxLen
theorem RootsIn.reads {B : Nat} {w : World} {x : Rm} (h : RootsIn B w x) : SlI w x.2.1 x.1.2.2.2.1 := by
  rcases h.lies with h | ⟨b, off, e, hb, hi, _⟩
  · exact Or.inl h
  · exact Or.inr ⟨b, off, e, hb, hi⟩
/-- a change that leaves the roots' block -/
theorem RootsIn.moved {B : Nat} {w w' : World} {x : Rm} (h : RootsIn B w x) (hs : w.heap.size ≤ w'.heap.size)
    (hk : ∀ b off, x.2.1 = some ⟨b, off, Option.none⟩ → b < w.heap.size → (b < B ∨ ∃ cs fr, w.heap[b]? = some (.cells cs 3 fr)) → w'.heap[b]? = w.heap[b]?) : RootsIn B w' x := by
  refine ⟨?_, h.none, h.few⟩
  rcases h.lies with h0 | ⟨b, off, e, hb, hi, h2⟩
  · exact Or.inl h0
  · have hbl := hk b off e hb h2
    refine Or.inr ⟨b, off, e, Nat.lt_of_lt_of_le hb hs, fun i hi' => ?_, ?_⟩
    · rw [World.cell?_of_block (w := w) (w' := w') (a := ⟨b, off + i, Option.none⟩) hbl]; exact hi i hi'
    · rw [hbl]; exact h2
theorem RootsIn.keep {B : Nat} {w w' : World} {x : Rm} (h : RootsIn B w x) (hb : Below w.heap.size w w') : RootsIn B w' x := h.moved hb.size (fun b _ _ hlt _ => hb.block b hlt)
theorem RootsIn.mono {B B' : Nat} {w : World} {x : Rm} (h : RootsIn B w x) (hb : B ≤ B') : RootsIn B' w x := by
  refine ⟨?_, h.none, h.few⟩
  rcases h.lies with h0 | ⟨b, off, e, hlt, hi, h2⟩
  · exact Or.inl h0
  · refine Or.inr ⟨b, off, e, hlt, hi, ?_⟩
    rcases h2 with h2 | h2
    · exact Or.inl (by omega)
    · exact Or.inr h2
/-- a row of records grows: the roots stay -/
theorem RootsIn.grown {B base : Nat} {w w' : World} {v : Value} {X : List Rm} {x : Rm} (h : RootsIn B w x) (ho : OwnE rcC 11 28 w base v X) (hB : B ≤ base) (hg : w.grownBy w' v.ownBlock) : RootsIn B w' x := by
  refine h.moved hg.size (fun b off e hlt h2 => hg.block b hlt (fun eb => ?_))
  rcases ho.2 with ⟨e2, _⟩ | ⟨g, cap, cur, e2, hgb, hh, _⟩
  · rw [e2] at eb; simp [Value.ownBlock] at eb
  · rw [e2] at eb
    have eb' : b = g := by simpa [Value.ownBlock] using eb
    subst eb'
    rcases h2 with h2 | ⟨cs, fr, h2⟩
    · omega
    · rw [hh] at h2
      simp at h2
/-- another block is written -/
theorem RootsIn.sets {B g : Nat} {x : Rm} : ∀ (us : List Value) (o : Nat) (w : World), RootsIn B w x → (∀ b off, x.2.1 = some ⟨b, off, Option.none⟩ → b ≠ g) → RootsIn B (w.setCells g o us) x := by
  intro us
  induction us with
  | nil => intro o w h _; exact h
  | cons u us ih =>
    intro o w h hf
    refine ih (o + 1) (w.setCell ⟨g, o, Option.none⟩ u) ?_ hf
    exact h.moved (by simp) (fun b off e _ _ => heap_setCell_other w ⟨g, o, Option.none⟩ b u (hf b off e))
theorem RecIs.mem {B : Nat} {w : World} {v : Value} {r : Rc} (h : RecIs B w v r) (hl : r.2.2.2.1.length ≤ maxLen) : ∃ x : Rm, v = x.val ∧ x.1 = r ∧ RootsIn 0 w x ∧ From B x.2.1 := by
  obtain ⟨a, c, e, hs, hf, hn, ht⟩ := h
  refine ⟨(r, a, c), e, rfl, ⟨?_, hn, hl⟩, hf⟩
  rcases hs with hs | ⟨b, off, e2, hb, hi⟩
  · exact Or.inl hs
  · obtain ⟨cs, fr, hc⟩ := ht b off e2
    exact Or.inr ⟨b, off, e2, hb, hi, Or.inr ⟨cs, fr, hc⟩⟩
theorem parse_few (t : List UInt8) : (Orangery.parseR t).2.2.2.1.length ≤ 4 := by
  by_cases h : Orangery.parseE t = 0
  · have h1 := (Orangery.text_parse h).1
    generalize Orangery.parseR t = r at *
    obtain ⟨k, u, f, R, o⟩ := r
    rcases Orangery.checkRec_kind h1 with h2 | h2 | h2
    · have := (Orangery.checkRec_op h1 h2).1
      simp at this
      simp [this.2.2.2]
    · have := (Orangery.checkRec_life h1 h2).1
      simp at this
      simp [this.2.1]
    · exact Orangery.rootsOk_len (Orangery.checkRec_roots h1 h2).2.2
  · have e : Orangery.parseR t = noRec := by
      unfold Orangery.parseR
      unfold Orangery.parseE at h
      split
      · rfl
      · rename_i h2
        rw [if_neg h2] at h
        unfold Orangery.readR
        rw [if_pos h]
    rw [e]
    simp [noRec]
theorem read_parse {t : List UInt8} (h : t.length ≤ 60000) : Orangery.parseE t = Orangery.readE t ∧ Orangery.parseR t = Orangery.readR t := by
  unfold Orangery.parseE Orangery.parseR
  rw [if_neg (by omega), if_neg (by omega)]
  exact ⟨rfl, rfl⟩

/-- a row of records of the call's own, their roots beside -/
structure OwnR (w : World) (base : Nat) (v : Value) (B : Nat) (X : List Rm) : Prop where
  own : OwnE rcC 11 28 w base v X
  roots : ∀ x ∈ X, RootsIn B w x
theorem OwnR.keep {w w' : World} {base B : Nat} {v : Value} {X : List Rm} (h : OwnR w base v B X) (hb : Below w.heap.size w w') : OwnR w' base v B X := ⟨h.own.keep hb, fun x hx => (h.roots x hx).keep hb⟩
theorem OwnR.nil (w : World) (base B : Nat) : OwnR w base (.slice none 0 0) B [] := ⟨OwnE.nil _ _, fun x hx => by simp at hx⟩
/-- a row of records that is read -/
structure SlR (w : World) (a : Option Addr) (B : Nat) (X : List Rm) : Prop where
  reads : SlE rcC w a X
  roots : ∀ x ∈ X, RootsIn B w x
theorem SlR.keep {w w' : World} {a : Option Addr} {B : Nat} {X : List Rm} (h : SlR w a B X) (hb : Below w.heap.size w w') : SlR w' a B X := ⟨h.reads.below hb, fun x hx => (h.roots x hx).keep hb⟩
theorem OwnR.val {w : World} {base B : Nat} {v : Value} {X : List Rm} (h : OwnR w base v B X) : ∃ a c, v = .slice a X.length c ∧ SlR w a B X ∧ X.length ≤ c ∧ (a = none → c = 0) := by
  obtain ⟨a, c, e, hs, hc⟩ := OwnE.val h.own
  refine ⟨a, c, e, ⟨hs, h.roots⟩, hc, ?_⟩
  intro ha
  subst ha
  rcases h.own.2 with ⟨e2, _⟩ | ⟨g, cap', cur, e2, _⟩
  · rw [e] at e2; simp at e2; exact e2.2
  · rw [e] at e2; simp at e2
end Go.Proofs.YtmlodnamknielacDoor

/- note.Check, orangeryref.CheckRec: what they answer of whatever record. -/
namespace Go.Proofs.YtmlodnamknielacDoor
open Go.ChangeShapes Go.WideShapes Go.ChangeAt Go.RowKit
open Orangery (Pl Mv Rc noOp checkRec checkOp rootsOk)

theorem checkRec_1 (u f : Int) (R : List Int) (o : Mv) : checkRec (1, u, f, R, o) = opRecE u f R o := rfl
theorem checkRec_2 (u f : Int) (R : List Int) (o : Mv) : checkRec (2, u, f, R, o) = cliE 2 u f R o := by
  unfold checkRec cliE
  simp only [if_neg (show ¬ (2 : Int) = 1 by decide), if_true]
  by_cases h1 : o = noOp
  · by_cases h2 : R = []
    · subst h1 h2
      simp
      split
      · rfl
      · rfl
    · simp [h1, h2]
  · simp [h1]
theorem checkRec_3 (u f : Int) (R : List Int) (o : Mv) : checkRec (3, u, f, R, o) = cliE 3 u f R o := by
  unfold checkRec cliE
  simp only [if_neg (show ¬ (3 : Int) = 1 by decide), if_neg (show ¬ (3 : Int) = 2 by decide), if_true]
  simp
theorem checkRec_0 {k : Int} (h1 : k ≠ 1) (h2 : k ≠ 2) (h3 : k ≠ 3) (u f : Int) (R : List Int) (o : Mv) : checkRec (k, u, f, R, o) = 4 := by
  unfold checkRec
  simp only
  rw [if_neg h1, if_neg h2, if_neg h3]

set_option maxHeartbeats 1000000 in
theorem ncheck_any (w : World) (k u f : Int) (a : Option Addr) (c : Nat) (R : List Int) (o : Mv) (hl : R.length ≤ maxLen) (h : SlI w a R) :
    Calls Tryd.prog 10 #[rcV k u f (.slice a R.length c) o] w fun e w' => e = .returned (.int .i64 (checkRec (k, u, f, R, o))) ∧ Below w.heap.size w w' := by
  by_cases h1 : k = 1
  · subst h1
    rw [checkRec_1]
    go_enter Tryd.func10, Tryd.ntmps10
    go_wp2_with fail
    refine (ncheckOp_any _ 1 u f a c R o).mono ?_
    rintro e w1 ⟨rfl, hb⟩
    have hb1 : Below w.heap.size w w1 := (Go.Joins.below_alloc1 w _).trans (hb.mono (by simp))
    clear hb
    go_wp2
    go_ret
    exact ⟨rfl, hb1⟩
  by_cases h2 : k = 2
  · subst h2
    rw [checkRec_2]
    clear h1
    go_enter Tryd.func10, Tryd.ntmps10
    go_wp2_with fail
    refine (ncheckOfClient_any _ 2 u f a c R o hl (h.below (Go.Joins.below_alloc1 w _))).mono ?_
    rintro e w1 ⟨rfl, hb⟩
    have hb1 : Below w.heap.size w w1 := (Go.Joins.below_alloc1 w _).trans (hb.mono (by simp))
    clear hb
    go_wp2
    go_ret
    exact ⟨rfl, hb1⟩
  by_cases h3 : k = 3
  · subst h3
    rw [checkRec_3]
    clear h1 h2
    go_enter Tryd.func10, Tryd.ntmps10
    go_wp2_with fail
    refine (ncheckOfClient_any _ 3 u f a c R o hl (h.below (Go.Joins.below_alloc1 w _))).mono ?_
    rintro e w1 ⟨rfl, hb⟩
    have hb1 : Below w.heap.size w w1 := (Go.Joins.below_alloc1 w _).trans (hb.mono (by simp))
    clear hb
    go_wp2
    go_ret
    exact ⟨rfl, hb1⟩
  have HE : Hid (checkRec (k, u, f, R, o) = 4) := checkRec_0 h1 h2 h3 u f R o
  have e1 : (k == 1) = false := by simpa using h1
  have e2 : (k == 2) = false := by simpa using h2
  have e3 : (k == 3) = false := by simpa using h3
  clear h1 h2 h3
  go_enter Tryd.func10, Tryd.ntmps10
  go_wp2
  go_ret
  exact ⟨ret_int HE.out.symm, Go.Joins.below_alloc1 w _⟩

theorem cli2_range {u f : Int} {o : Mv} (ho : o = noOp) (h2 : ¬ (0 ≤ u ∧ u ≤ 2) ∨ ¬ (1 ≤ f ∧ f ≤ 50)) : cliE 2 u f [] o = 3 := by
  refine cliE_range (by simp [ho]) ?_
  rcases h2 with h2 | h2
  · exact Or.inl h2
  · exact Or.inr ⟨rfl, h2⟩
theorem cli2_ok {u f : Int} {o : Mv} (ho : o = noOp) (h1 : 0 ≤ u ∧ u ≤ 2) (h2 : 1 ≤ f ∧ f ≤ 50) : cliE 2 u f [] o = rootsOk [] := cliE_ok (by simp [ho]) (by omega)

theorem in02 (u : Int) : (inB u 0 2 = false → ¬ (0 ≤ u ∧ u ≤ 2)) ∧ (inB u 0 2 = true → 0 ≤ u ∧ u ≤ 2) := by
  constructor <;> intro h <;> simpa [inB] using h
theorem in150 (u : Int) : (inB u 1 50 = false → ¬ (1 ≤ u ∧ u ≤ 50)) ∧ (inB u 1 50 = true → 1 ≤ u ∧ u ≤ 50) := by
  constructor <;> intro h <;> simpa [inB] using h

set_option maxHeartbeats 2000000 in
theorem rcheckRec_any (w : World) (k u f : Int) (a : Option Addr) (c : Nat) (R : List Int) (o : Mv) (hl : R.length ≤ maxLen) (h : SlI w a R) :
    Calls Tryd.prog 31 #[rcV k u f (.slice a R.length c) o] w fun e w' => e = .returned (.int .i64 (checkRec (k, u, f, R, o))) ∧ Below w.heap.size w w' := by
  have hne : ∀ w, (binOp .neq 26 (opV o) (.agg #[.int .i64 0, .int .i64 0, .int .i64 0, .int .i64 0, .int .i64 0, .int .i64 0, .int .i64 0])).run Tryd.prog w = .ok (.bool (!decide (o = noOp))) w := run_neq_opg o noOp
  have hgd := guard_op
  by_cases h1 : k = 1
  · subst h1
    rw [checkRec_1]
    clear hne hgd
    by_cases hu : u = 0
    case neg =>
      have HE : Hid (opRecE u f R o = 4) := opRecE_bad (Or.inl hu)
      have d1 : (u != 0) = true := by simpa using hu
      go_enter Tryd.func31, Tryd.ntmps31
      go_wp2
      go_ret
      exact ⟨ret_int HE.out.symm, Go.Joins.below_alloc1 w _⟩
    by_cases hf : f = 0
    case neg =>
      have HE : Hid (opRecE u f R o = 4) := opRecE_bad (Or.inr (Or.inl hf))
      have d1 : (u != 0) = false := by simpa using hu
      have d2 : (f != 0) = true := by simpa using hf
      clear hu
      go_enter Tryd.func31, Tryd.ntmps31
      go_wp2
      go_ret
      exact ⟨ret_int HE.out.symm, Go.Joins.below_alloc1 w _⟩
    by_cases hr : R = []
    case neg =>
      have HE : Hid (opRecE u f R o = 4) := opRecE_bad (Or.inr (Or.inr hr))
      have d1 : (u != 0) = false := by simpa using hu
      have d2 : (f != 0) = false := by simpa using hf
      have d3 : 0 < R.length := List.length_pos_iff.2 hr
      have d4 : ((R.length : Int) != 0) = true := by simp; exact hr
      clear hu hf hr
      go_enter Tryd.func31, Tryd.ntmps31
      go_wp2
      go_ret
      exact ⟨ret_int HE.out.symm, Go.Joins.below_alloc1 w _⟩
    subst hu hf hr
    obtain ⟨o1, o2, ⟨o3, o4, o5⟩, o6, o7⟩ := o
    go_enter Tryd.func31, Tryd.ntmps31
    go_wp2_with fail
    refine (refCheckOp_any _ (o1, o2, (o3, o4, o5), o6, o7)).mono ?_
    rintro e w1 ⟨rfl, hb⟩
    have hb1 : Below w.heap.size w w1 := (Go.Joins.below_alloc1 w _).trans (hb.mono (by simp))
    clear hb
    go_wp2
    go_ret
    exact ⟨rfl, hb1⟩
  by_cases h2 : k = 2
  · subst h2
    rw [checkRec_2]
    clear h1
    by_cases ho : o = noOp
    case neg =>
      have HE : Hid (cliE 2 u f R o = 4) := cliE_form (Or.inl ho)
      have d0 : decide (o = noOp) = false := by simpa using ho
      clear ho
      go_enter Tryd.func31, Tryd.ntmps31
      go_wp2
      go_ret
      exact ⟨ret_int HE.out.symm, Go.Joins.below_alloc1 w _⟩
    have d0 : decide (o = noOp) = true := by simpa using ho
    have HO : Hid (o = noOp) := ho
    clear ho
    by_cases hr : R = []
    case neg =>
      have HE : Hid (cliE 2 u f R o = 4) := cliE_form (Or.inr (Or.inr ⟨rfl, hr⟩))
      have d3 : 0 < R.length := List.length_pos_iff.2 hr
      have d4 : ((R.length : Int) != 0) = true := by simp; exact hr
      clear hr
      go_enter Tryd.func31, Tryd.ntmps31
      go_wp2
      go_ret
      exact ⟨ret_int HE.out.symm, Go.Joins.below_alloc1 w _⟩
    subst hr
    go_enter Tryd.func31, Tryd.ntmps31
    go_wp2_with fail
    refine (rin_any _ u _ _).mono ?_
    rintro e w1 ⟨rfl, rfl⟩
    have HU : Hid ((inB u 0 2 = false → ¬ (0 ≤ u ∧ u ≤ 2)) ∧ (inB u 0 2 = true → 0 ≤ u ∧ u ≤ 2)) := in02 u
    cases q1 : inB u 0 2
    · have HE : Hid (cliE 2 u f [] o = 3) := cli2_range HO.out (Or.inl (HU.out.1 q1))
      go_wp2
      go_ret
      exact ⟨ret_int HE.out.symm, Go.Joins.below_alloc1 w _⟩
    go_wp2_with fail
    refine (rin_any _ f _ _).mono ?_
    rintro e w1 ⟨rfl, rfl⟩
    have HV : Hid ((inB f 1 50 = false → ¬ (1 ≤ f ∧ f ≤ 50)) ∧ (inB f 1 50 = true → 1 ≤ f ∧ f ≤ 50)) := in150 f
    cases q2 : inB f 1 50
    · have HE : Hid (cliE 2 u f [] o = 3) := cli2_range HO.out (Or.inr (HV.out.1 q2))
      go_wp2
      go_ret
      exact ⟨ret_int HE.out.symm, Go.Joins.below_alloc1 w _⟩
    have HE : Hid (cliE 2 u f [] o = rootsOk []) := cli2_ok HO.out (HU.out.2 q1) (HV.out.2 q2)
    go_wp2
    go_ret
    exact ⟨ret_int HE.out.symm, Go.Joins.below_alloc1 w _⟩
  by_cases h3 : k = 3
  · subst h3
    rw [checkRec_3]
    clear h1 h2
    by_cases ho : o = noOp
    case neg =>
      have HE : Hid (cliE 3 u f R o = 4) := cliE_form (Or.inl ho)
      have d0 : decide (o = noOp) = false := by simpa using ho
      clear ho
      go_enter Tryd.func31, Tryd.ntmps31
      go_wp2
      go_ret
      exact ⟨ret_int HE.out.symm, Go.Joins.below_alloc1 w _⟩
    have d0 : decide (o = noOp) = true := by simpa using ho
    have HO : Hid (o = noOp) := ho
    clear ho
    by_cases hf : f = 0
    case neg =>
      have HE : Hid (cliE 3 u f R o = 4) := cliE_form (Or.inr (Or.inl ⟨by decide, hf⟩))
      have d3 : (f != 0) = true := by simpa using hf
      go_enter Tryd.func31, Tryd.ntmps31
      go_wp2
      go_ret
      exact ⟨ret_int HE.out.symm, Go.Joins.below_alloc1 w _⟩
    have HF : Hid (¬ (o ≠ noOp ∨ ((3 : Int) ≠ 2 ∧ f ≠ 0) ∨ ((3 : Int) = 2 ∧ R ≠ []))) := by
      show ¬ _
      have h1 := HO.out
      simp [h1, hf]
    subst hf
    go_enter Tryd.func31, Tryd.ntmps31
    go_wp2_with fail
    refine (rin_any _ u _ _).mono ?_
    rintro e w1 ⟨rfl, rfl⟩
    have HU : Hid ((inB u 0 2 = false → ¬ (0 ≤ u ∧ u ≤ 2)) ∧ (inB u 0 2 = true → 0 ≤ u ∧ u ≤ 2)) := in02 u
    cases q1 : inB u 0 2
    · have HE : Hid (cliE 3 u 0 R o = 3) := cliE_range HF.out (Or.inl (HU.out.1 q1))
      go_wp2
      go_ret
      exact ⟨ret_int HE.out.symm, Go.Joins.below_alloc1 w _⟩
    have HE : Hid (cliE 3 u 0 R o = rootsOk R) := cliE_ok HF.out (by have := HU.out.2 q1; omega)
    go_wp2_with fail
    refine (rroots_any _ a c R hl (h.below (Go.Joins.below_alloc1 w _))).mono ?_
    rintro e w1 ⟨rfl, rfl⟩
    go_wp2
    go_ret
    exact ⟨ret_int HE.out.symm, Go.Joins.below_alloc1 w _⟩
  have HE : Hid (checkRec (k, u, f, R, o) = 4) := checkRec_0 h1 h2 h3 u f R o
  have e1 : (k == 1) = false := by simpa using h1
  have e2 : (k == 2) = false := by simpa using h2
  have e3 : (k == 3) = false := by simpa using h3
  clear h1 h2 h3
  go_enter Tryd.func31, Tryd.ntmps31
  go_wp2
  go_ret
  exact ⟨ret_int HE.out.symm, Go.Joins.below_alloc1 w _⟩
end Go.Proofs.YtmlodnamknielacDoor

/- note.Parse. -/
namespace Go.Proofs.YtmlodnamknielacDoor
open Go.ChangeShapes Go.WideShapes Go.ChangeAt Go.RowKit
open Orangery (Mv Rc noRec noOp recOf numsOf wordsB readO readE readR parseE parseR checkRec)

abbrev zeroRec : List Value := [.int .i64 0, .int .i64 0, .int .i64 0, .slice none 0 0, .int .i64 0, .int .i64 0, .int .i64 0, .int .i64 0, .int .i64 0, .int .i64 0, .int .i64 0]

theorem parse_long {t : List UInt8} (h : 60000 < t.length) : parseE t = 2 ∧ parseR t = noRec := by
  unfold parseE parseR
  rw [if_pos h, if_pos h]
  exact ⟨rfl, rfl⟩
theorem parse_words {t : List UInt8} {x : List UInt8} {ws : List (List UInt8)} (h : ¬ 60000 < t.length) (hw : wordsB t = x :: ws) :
    (numsOf ws = none → parseE t = 1 ∧ parseR t = noRec) ∧
    (∀ N, numsOf ws = some N → recOf x N = none → parseE t = 1 ∧ parseR t = noRec) ∧
    (∀ N r, numsOf ws = some N → recOf x N = some r → parseE t = checkRec r ∧ (checkRec r ≠ 0 → parseR t = noRec) ∧ (checkRec r = 0 → parseR t = r)) := by
  have e : readO t = (numsOf ws).bind (recOf x) := by unfold readO; rw [hw]; rfl
  have e1 : parseE t = readE t := by unfold parseE; rw [if_neg h]
  have e2 : parseR t = readR t := by unfold parseR; rw [if_neg h]
  have bad : readO t = none → parseE t = 1 ∧ parseR t = noRec := by
    intro hn
    have e3 : readE t = 1 := by unfold readE; rw [hn]
    refine ⟨e1.trans e3, e2.trans ?_⟩
    unfold readR
    rw [if_pos (by rw [e3]; decide)]
  refine ⟨fun hn => bad (by rw [e, hn]; rfl), fun N hN hr => bad (by rw [e, hN]; exact hr), fun N r hN hr => ?_⟩
  have e3 : readO t = some r := by rw [e, hN]; exact hr
  have e4 : readE t = checkRec r := by unfold readE; rw [e3]
  refine ⟨e1.trans e4, fun hc => e2.trans ?_, fun hc => e2.trans ?_⟩
  · unfold readR; rw [if_pos (by rw [e4]; exact hc)]
  · unfold readR; rw [if_neg (by rw [e4]; simpa using hc), e3]; rfl

theorem recOf_len {x : List UInt8} {N : List Int} {r : Rc} (h : recOf x N = some r) : r.2.2.2.1.length ≤ N.length := by
  unfold recOf at h
  split at h
  · simp at h; subst h; simp
  · split at h
    · simp at h; subst h; simp
    · split at h
      · simp at h; subst h; simp
      · simp at h
theorem words_cells (w : World) (g : Nat) (x : List UInt8) (ws : List (List UInt8)) (hg : g = w.heap.size) :
    (w.alloc (.cells ((x :: ws).map txV).toArray 9)).cell? ⟨g, 0, none⟩ = some (txV x) ∧ SlE txC (w.alloc (.cells ((x :: ws).map txV).toArray 9)) (some ⟨g, 1, none⟩) ws := by
  subst hg
  have hb : (w.alloc (.cells ((x :: ws).map txV).toArray 9)).heap[w.heap.size]? = some (.cells ((x :: ws).map txV).toArray 9 (0, 0)) := blk_new rfl
  constructor
  · rw [Go.Joins.cell_of_block hb]; simp
  · cases ws with
    | nil => exact Or.inl rfl
    | cons y l =>
      refine Or.inr ⟨w.heap.size, 1, rfl, by simp, ?_⟩
      intro j v hj
      have e : (y :: l).flatMap txC = (y :: l).map txV := by
        rw [List.flatMap_def]
        generalize y :: l = m
        induction m with
        | nil => rfl
        | cons z m ih => rw [List.map_cons, List.flatten_cons, ih]; rfl
      rw [e] at hj
      rw [Go.Joins.cell_of_block hb, List.getElem?_toArray, List.map_cons, show 1 + j = j + 1 by omega, List.getElem?_cons_succ]
      exact hj

set_option maxHeartbeats 2000000 in
set_option maxRecDepth 100000 in
theorem nparse_any (w : World) (t : List UInt8) (hl : t.length ≤ maxLen) (hv : Vars w) :
    Calls Tryd.prog 7 #[txV t] w
      fun e w' => (∃ v, e = .returned (.tuple #[v, .int .i64 (parseE t)]) ∧ RecIs w.heap.size w' v (parseR t)) ∧ Below w.heap.size w w' := by
  have hl' : t.length ≤ 9223372036854775807 := hl
  by_cases h6 : 60000 < t.length
  · have d1 : decide ((t.length : Int) > 60000) = true := by simp; omega
    rw [(parse_long h6).1, (parse_long h6).2]
    clear h6
    go_enter Tryd.func7, Tryd.ntmps7
    go_wp2
    refine ret_cell_tmp Tryd.results7 rfl rfl ((Blk.new w zeroRec 28).load Tryd.underlying28 rfl sizeRec) ?_
    exact ⟨⟨_, rfl, recIs_none _ _⟩, Go.Joins.below_alloc1 w _⟩
  have d1 : decide ((t.length : Int) > 60000) = false := by simp; omega
  have hl6 : t.length ≤ 60000 := by omega
  obtain ⟨x, ws, hw⟩ : ∃ x ws, wordsB t = x :: ws := ⟨_, _, Orangery.wordsB_split t⟩
  have HP := Lib.hid (parse_words h6 hw)
  go_enter Tryd.func7, Tryd.ntmps7
  go_wp2_with fail
  obtain ⟨W0, hW, hR, hB, -⟩ := laid1 w zeroRec 28
  rw [hW]
  clear hW
  have hv0 := hv.on hB
  refine (split_any W0 t hl6 hv0).mono ?_
  rintro e w1 ⟨rfl, rfl⟩
  rw [hw]
  have hb1 := Go.Joins.below_alloc1 W0 (Obj.cells ((x :: ws).map txV).toArray 9)
  obtain ⟨x0, hS⟩ := words_cells W0 W0.heap.size x ws rfl
  have hgl : W0.heap.size < (W0.alloc (Obj.cells ((x :: ws).map txV).toArray 9)).heap.size := by simp
  have hv1 := hv0.on hb1
  have hR1 := hR.keep hb1
  have HB1 : Hid (Below w.heap.size w (W0.alloc (Obj.cells ((x :: ws).map txV).toArray 9))) := hB.trans (hb1.mono hB.size)
  have hlen : ws.length ≤ 60000 := by
    have := Orangery.words_count t
    rw [hw] at this
    simp at this
    omega
  have hsm : ∀ y ∈ ws, y.length ≤ 60000 := by
    intro y hy
    have := Orangery.words_small t y (by rw [hw]; simp [hy])
    omega
  have HSM := Lib.hid hsm
  have HV1 := Lib.hid hv1
  clear hb1 hR hv0 hv1 hB hv hsm hw h6
  generalize W0.alloc (Obj.cells ((x :: ws).map txV).toArray 9) = W1 at *
  have hW1 : w.heap.size + 1 ≤ W1.heap.size := hR1.lt
  generalize W0.heap.size = g at *
  simp only [List.length_cons]
  by_cases hz : ws = []
  · subst hz
    go_wp2_with fail
    refine (nread_any W1 (some ⟨g, 0, none⟩) 0 [] (by simp) HSM.out (Or.inl rfl) HV1.out).mono ?_
    rintro e w2 ⟨⟨v2, rfl, hO2⟩, hb2⟩
    have hR2 := hR1.keep hb2
    have x2 := (hb2.cell (p := ⟨g, 0, none⟩) hgl).trans x0
    have HB2 : Hid (Below w.heap.size w w2) := HB1.out.trans (hb2.mono HB1.out.size)
    clear hR1 hb2 HB1 HV1 x0
    cases hn : numsOf ([] : List (List UInt8)) with
    | none =>
      obtain ⟨p1, p2⟩ := HP.out.1 hn
      rw [hn] at hO2
      have HE : Hid (parseE t = 1 ∧ parseR t = noRec) := ⟨p1, p2⟩
      clear p1 p2
      simp only [Option.isSome_none]
      obtain ⟨a2, c2, rfl, _⟩ := hO2.caps
      have r0 := hR2.at 0 rfl
      have r1 := hR2.at 1 rfl
      have r2 := hR2.at 2 rfl
      have r3 := hR2.at 3 rfl
      have r4 := hR2.at 4 rfl
      have r5 := hR2.at 5 rfl
      have r6 := hR2.at 6 rfl
      have r7 := hR2.at 7 rfl
      have r8 := hR2.at 8 rfl
      have r9 := hR2.at 9 rfl
      have r10 := hR2.at 10 rfl
      have rf := hR2.frz
      go_wp2
      have hRf := hR2.sets zeroRec rfl
      refine ret_cell_tmp Tryd.results7 rfl rfl (hRf.load Tryd.underlying28 rfl sizeRec) ?_
      rw [HE.out.1, HE.out.2]
      exact ⟨⟨_, rfl, recIs_none _ _⟩, below_sets HB2.out w.heap.size (Nat.le_refl _) zeroRec 0⟩
    | some N =>
      rw [hn] at hO2
      simp only [Option.isSome_some, Option.getD_some] at hO2 ⊢
      obtain ⟨a2, c2, rfl, hI2, hc2, hm2⟩ := hO2.caps
      have hf2 := from_own hO2
      have ht2 := tag_own hO2
      have hNl : N.length ≤ 60001 := by have h9 := Orangery.numsOf_len ([] : List (List UInt8)) N hn; have h8 : (([] : List (List UInt8))).length ≤ 60000 := hlen; omega
      have HN : Hid (numsOf ([] : List (List UInt8)) = some N) := hn
      clear hn hO2
      go_wp2_with fail
      refine (njoin_any w2 (w.heap.size + 1) x a2 c2 N (from_mono hf2 hW1) ht2 hNl hc2 hm2 hI2).mono ?_
      rintro e w3 ⟨⟨v3, rfl, hr3⟩, hb3⟩
      have hR3 := hR2.keep hb3
      have HB3 : Hid (Below w.heap.size w w3) := HB2.out.trans (hb3.mono HB2.out.size)
      have hl3 : w.heap.size < w3.heap.size := hR3.lt
      have hne3 : ¬ w3.heap.size = w.heap.size := by omega
      clear hR2 hb3 HB2 x2 hI2
      cases hrc : recOf x N with
      | none =>
        have HE : Hid (parseE t = 1 ∧ parseR t = noRec) := HP.out.2.1 N HN.out hrc
        rw [hrc] at hr3
        obtain ⟨a3, c3, e3, _, _, _, _⟩ := hr3
        have e3 : v3 = rcV 0 0 0 (.slice a3 0 c3) noOp := e3
        subst e3
        simp only [Option.isSome_none]
        have r0 := hR3.at 0 rfl
        have r1 := hR3.at 1 rfl
        have r2 := hR3.at 2 rfl
        have r3 := hR3.at 3 rfl
        have r4 := hR3.at 4 rfl
        have r5 := hR3.at 5 rfl
        have r6 := hR3.at 6 rfl
        have r7 := hR3.at 7 rfl
        have r8 := hR3.at 8 rfl
        have r9 := hR3.at 9 rfl
        have r10 := hR3.at 10 rfl
        have rf := hR3.frz
        go_wp2
        have hRf := (hR3.sets zeroRec rfl).alloc (Obj.cells [Value.int IntKind.i64 0, .int .i64 0, .int .i64 0, .slice a3 0 c3, .int .i64 0, .int .i64 0, .int .i64 0, .int .i64 0, .int .i64 0, .int .i64 0, .int .i64 0].toArray 28)
        refine ret_cell_tmp Tryd.results7 rfl rfl (hRf.load Tryd.underlying28 rfl sizeRec) ?_
        rw [HE.out.1, HE.out.2]
        exact ⟨⟨_, rfl, recIs_none _ _⟩, (below_sets HB3.out w.heap.size (Nat.le_refl _) zeroRec 0).alloc (by rw [Go.Sort.size_setCells]; omega) _⟩
      | some r =>
        have HE := Lib.hid (HP.out.2.2 N r HN.out hrc)
        have hRl := recOf_len hrc
        rw [hrc] at hr3
        obtain ⟨k, u, f, R, o⟩ := r
        obtain ⟨a3, c3, e3, hI3, hf3, hn3, ht3⟩ := hr3
        have e3 : v3 = rcV k u f (.slice a3 R.length c3) o := e3
        have HN3 := Lib.hid hn3
        clear hn3
        have hI3 : SlI w3 a3 R := hI3
        subst e3
        simp only at hRl
        simp only [Option.isSome_some]
        go_wp2_with fail
        refine (ncheck_any _ k u f a3 c3 R o (by unfold maxLen; omega) (hI3.below (Go.Joins.below_alloc1 w3 _))).mono ?_
        rintro e w4 ⟨rfl, hb4⟩
        have hb4' : Below w3.heap.size w3 w4 := (Go.Joins.below_alloc1 w3 _).trans (hb4.mono (by simp))
        have hR4 := hR3.keep hb4'
        have hX4 := (Blk.new w3 [Value.int IntKind.i64 k, .int .i64 u, .int .i64 f, .slice a3 R.length c3, .int .i64 o.1, .int .i64 o.2.1, .int .i64 o.2.2.1.1, .int .i64 o.2.2.1.2.1, .int .i64 o.2.2.1.2.2, .int .i64 o.2.2.2.1, .int .i64 o.2.2.2.2] 28).keep hb4
        have HB4 : Hid (Below w.heap.size w w4) := HB3.out.trans (hb4'.mono HB3.out.size)
        have HI4 := Lib.hid (hI3.below hb4')
        have HT4 := Lib.hid (ht3.keep hb4')
        clear hR3 hb4 hb4' HB3 hI3 ht3
        generalize w3.heap.size = gx at *
        have r0 := hR4.at 0 rfl
        have r1 := hR4.at 1 rfl
        have r2 := hR4.at 2 rfl
        have r3 := hR4.at 3 rfl
        have r4 := hR4.at 4 rfl
        have r5 := hR4.at 5 rfl
        have r6 := hR4.at 6 rfl
        have r7 := hR4.at 7 rfl
        have r8 := hR4.at 8 rfl
        have r9 := hR4.at 9 rfl
        have r10 := hR4.at 10 rfl
        have rf := hR4.frz
        by_cases hc : checkRec (k, u, f, R, o) = 0
        · have HE2 : Hid (parseE t = 0 ∧ parseR t = (k, u, f, R, o)) := ⟨HE.out.1.trans hc, HE.out.2.2 hc⟩
          rw [hc]
          clear HE hc
          have y0 := hX4.at 0 rfl
          have y1 := hX4.at 1 rfl
          have y2 := hX4.at 2 rfl
          have y3 := hX4.at 3 rfl
          have y4 := hX4.at 4 rfl
          have y5 := hX4.at 5 rfl
          have y6 := hX4.at 6 rfl
          have y7 := hX4.at 7 rfl
          have y8 := hX4.at 8 rfl
          have y9 := hX4.at 9 rfl
          have y10 := hX4.at 10 rfl
          go_wp2
          have hRf := hR4.sets [Value.int IntKind.i64 k, .int .i64 u, .int .i64 f, .slice a3 R.length c3, .int .i64 o.1, .int .i64 o.2.1, .int .i64 o.2.2.1.1, .int .i64 o.2.2.1.2.1, .int .i64 o.2.2.1.2.2, .int .i64 o.2.2.2.1, .int .i64 o.2.2.2.2] rfl
          refine ret_cell_tmp Tryd.results7 rfl rfl (hRf.load Tryd.underlying28 rfl sizeRec) ?_
          rw [HE2.out.1, HE2.out.2]
          have hIf := HI4.out.sets (g := w.heap.size) hf3 (Nat.lt_succ_self _) [Value.int IntKind.i64 k, .int .i64 u, .int .i64 f, .slice a3 R.length c3, .int .i64 o.1, .int .i64 o.2.1, .int .i64 o.2.2.1.1, .int .i64 o.2.2.1.2.1, .int .i64 o.2.2.1.2.2, .int .i64 o.2.2.2.1, .int .i64 o.2.2.2.2] 0
          have hTf := HT4.out.sets (g := w.heap.size) hf3 (Nat.lt_succ_self _) [Value.int IntKind.i64 k, .int .i64 u, .int .i64 f, .slice a3 R.length c3, .int .i64 o.1, .int .i64 o.2.1, .int .i64 o.2.2.1.1, .int .i64 o.2.2.1.2.1, .int .i64 o.2.2.1.2.2, .int .i64 o.2.2.2.1, .int .i64 o.2.2.2.2] 0
          have hBf := below_sets HB4.out w.heap.size (Nat.le_refl _) [Value.int IntKind.i64 k, .int .i64 u, .int .i64 f, .slice a3 R.length c3, .int .i64 o.1, .int .i64 o.2.1, .int .i64 o.2.2.1.1, .int .i64 o.2.2.1.2.1, .int .i64 o.2.2.1.2.2, .int .i64 o.2.2.2.1, .int .i64 o.2.2.2.2] 0
          exact ⟨⟨_, rfl, a3, c3, rfl, hIf, from_mono hf3 (Nat.le_succ _), HN3.out, hTf⟩, hBf⟩
        · have HE2 : Hid (parseE t = checkRec (k, u, f, R, o) ∧ parseR t = noRec) := ⟨HE.out.1, HE.out.2.1 hc⟩
          have d9 : (checkRec (k, u, f, R, o) != 0) = true := by simpa using hc
          generalize checkRec (k, u, f, R, o) = E at *
          clear HE
          go_wp2
          have hRf := hR4.sets zeroRec rfl
          refine ret_cell_tmp Tryd.results7 rfl rfl (hRf.load Tryd.underlying28 rfl sizeRec) ?_
          rw [HE2.out.1, HE2.out.2]
          exact ⟨⟨_, rfl, recIs_none _ _⟩, below_sets HB4.out w.heap.size (Nat.le_refl _) zeroRec 0⟩
  · have hz1 : 0 < ws.length := List.length_pos_iff.2 hz
    have hz2 : ¬ ws.length = 0 := by omega
    go_wp2_with fail
    refine (nread_any W1 (some ⟨g, 1, none⟩) ws.length ws (by omega) HSM.out hS HV1.out).mono ?_
    rintro e w2 ⟨⟨v2, rfl, hO2⟩, hb2⟩
    have hR2 := hR1.keep hb2
    have x2 := (hb2.cell (p := ⟨g, 0, none⟩) hgl).trans x0
    have HB2 : Hid (Below w.heap.size w w2) := HB1.out.trans (hb2.mono HB1.out.size)
    clear hR1 hb2 HB1 HV1 x0
    cases hn : numsOf ws with
    | none =>
      obtain ⟨p1, p2⟩ := HP.out.1 hn
      rw [hn] at hO2
      have HE : Hid (parseE t = 1 ∧ parseR t = noRec) := ⟨p1, p2⟩
      clear p1 p2
      simp only [Option.isSome_none]
      obtain ⟨a2, c2, rfl, _⟩ := hO2.caps
      have r0 := hR2.at 0 rfl
      have r1 := hR2.at 1 rfl
      have r2 := hR2.at 2 rfl
      have r3 := hR2.at 3 rfl
      have r4 := hR2.at 4 rfl
      have r5 := hR2.at 5 rfl
      have r6 := hR2.at 6 rfl
      have r7 := hR2.at 7 rfl
      have r8 := hR2.at 8 rfl
      have r9 := hR2.at 9 rfl
      have r10 := hR2.at 10 rfl
      have rf := hR2.frz
      go_wp2
      have hRf := hR2.sets zeroRec rfl
      refine ret_cell_tmp Tryd.results7 rfl rfl (hRf.load Tryd.underlying28 rfl sizeRec) ?_
      rw [HE.out.1, HE.out.2]
      exact ⟨⟨_, rfl, recIs_none _ _⟩, below_sets HB2.out w.heap.size (Nat.le_refl _) zeroRec 0⟩
    | some N =>
      rw [hn] at hO2
      simp only [Option.isSome_some, Option.getD_some] at hO2 ⊢
      obtain ⟨a2, c2, rfl, hI2, hc2, hm2⟩ := hO2.caps
      have hf2 := from_own hO2
      have ht2 := tag_own hO2
      have hNl : N.length ≤ 60001 := by have h9 := Orangery.numsOf_len ws N hn; have h8 : (ws).length ≤ 60000 := hlen; omega
      have HN : Hid (numsOf ws = some N) := hn
      clear hn hO2
      go_wp2_with fail
      refine (njoin_any w2 (w.heap.size + 1) x a2 c2 N (from_mono hf2 hW1) ht2 hNl hc2 hm2 hI2).mono ?_
      rintro e w3 ⟨⟨v3, rfl, hr3⟩, hb3⟩
      have hR3 := hR2.keep hb3
      have HB3 : Hid (Below w.heap.size w w3) := HB2.out.trans (hb3.mono HB2.out.size)
      have hl3 : w.heap.size < w3.heap.size := hR3.lt
      have hne3 : ¬ w3.heap.size = w.heap.size := by omega
      clear hR2 hb3 HB2 x2 hI2
      cases hrc : recOf x N with
      | none =>
        have HE : Hid (parseE t = 1 ∧ parseR t = noRec) := HP.out.2.1 N HN.out hrc
        rw [hrc] at hr3
        obtain ⟨a3, c3, e3, _, _, _, _⟩ := hr3
        have e3 : v3 = rcV 0 0 0 (.slice a3 0 c3) noOp := e3
        subst e3
        simp only [Option.isSome_none]
        have r0 := hR3.at 0 rfl
        have r1 := hR3.at 1 rfl
        have r2 := hR3.at 2 rfl
        have r3 := hR3.at 3 rfl
        have r4 := hR3.at 4 rfl
        have r5 := hR3.at 5 rfl
        have r6 := hR3.at 6 rfl
        have r7 := hR3.at 7 rfl
        have r8 := hR3.at 8 rfl
        have r9 := hR3.at 9 rfl
        have r10 := hR3.at 10 rfl
        have rf := hR3.frz
        go_wp2
        have hRf := (hR3.sets zeroRec rfl).alloc (Obj.cells [Value.int IntKind.i64 0, .int .i64 0, .int .i64 0, .slice a3 0 c3, .int .i64 0, .int .i64 0, .int .i64 0, .int .i64 0, .int .i64 0, .int .i64 0, .int .i64 0].toArray 28)
        refine ret_cell_tmp Tryd.results7 rfl rfl (hRf.load Tryd.underlying28 rfl sizeRec) ?_
        rw [HE.out.1, HE.out.2]
        exact ⟨⟨_, rfl, recIs_none _ _⟩, (below_sets HB3.out w.heap.size (Nat.le_refl _) zeroRec 0).alloc (by rw [Go.Sort.size_setCells]; omega) _⟩
      | some r =>
        have HE := Lib.hid (HP.out.2.2 N r HN.out hrc)
        have hRl := recOf_len hrc
        rw [hrc] at hr3
        obtain ⟨k, u, f, R, o⟩ := r
        obtain ⟨a3, c3, e3, hI3, hf3, hn3, ht3⟩ := hr3
        have e3 : v3 = rcV k u f (.slice a3 R.length c3) o := e3
        have HN3 := Lib.hid hn3
        clear hn3
        have hI3 : SlI w3 a3 R := hI3
        subst e3
        simp only at hRl
        simp only [Option.isSome_some]
        go_wp2_with fail
        refine (ncheck_any _ k u f a3 c3 R o (by unfold maxLen; omega) (hI3.below (Go.Joins.below_alloc1 w3 _))).mono ?_
        rintro e w4 ⟨rfl, hb4⟩
        have hb4' : Below w3.heap.size w3 w4 := (Go.Joins.below_alloc1 w3 _).trans (hb4.mono (by simp))
        have hR4 := hR3.keep hb4'
        have hX4 := (Blk.new w3 [Value.int IntKind.i64 k, .int .i64 u, .int .i64 f, .slice a3 R.length c3, .int .i64 o.1, .int .i64 o.2.1, .int .i64 o.2.2.1.1, .int .i64 o.2.2.1.2.1, .int .i64 o.2.2.1.2.2, .int .i64 o.2.2.2.1, .int .i64 o.2.2.2.2] 28).keep hb4
        have HB4 : Hid (Below w.heap.size w w4) := HB3.out.trans (hb4'.mono HB3.out.size)
        have HI4 := Lib.hid (hI3.below hb4')
        have HT4 := Lib.hid (ht3.keep hb4')
        clear hR3 hb4 hb4' HB3 hI3 ht3
        generalize w3.heap.size = gx at *
        have r0 := hR4.at 0 rfl
        have r1 := hR4.at 1 rfl
        have r2 := hR4.at 2 rfl
        have r3 := hR4.at 3 rfl
        have r4 := hR4.at 4 rfl
        have r5 := hR4.at 5 rfl
        have r6 := hR4.at 6 rfl
        have r7 := hR4.at 7 rfl
        have r8 := hR4.at 8 rfl
        have r9 := hR4.at 9 rfl
        have r10 := hR4.at 10 rfl
        have rf := hR4.frz
        by_cases hc : checkRec (k, u, f, R, o) = 0
        · have HE2 : Hid (parseE t = 0 ∧ parseR t = (k, u, f, R, o)) := ⟨HE.out.1.trans hc, HE.out.2.2 hc⟩
          rw [hc]
          clear HE hc
          have y0 := hX4.at 0 rfl
          have y1 := hX4.at 1 rfl
          have y2 := hX4.at 2 rfl
          have y3 := hX4.at 3 rfl
          have y4 := hX4.at 4 rfl
          have y5 := hX4.at 5 rfl
          have y6 := hX4.at 6 rfl
          have y7 := hX4.at 7 rfl
          have y8 := hX4.at 8 rfl
          have y9 := hX4.at 9 rfl
          have y10 := hX4.at 10 rfl
          go_wp2
          have hRf := hR4.sets [Value.int IntKind.i64 k, .int .i64 u, .int .i64 f, .slice a3 R.length c3, .int .i64 o.1, .int .i64 o.2.1, .int .i64 o.2.2.1.1, .int .i64 o.2.2.1.2.1, .int .i64 o.2.2.1.2.2, .int .i64 o.2.2.2.1, .int .i64 o.2.2.2.2] rfl
          refine ret_cell_tmp Tryd.results7 rfl rfl (hRf.load Tryd.underlying28 rfl sizeRec) ?_
          rw [HE2.out.1, HE2.out.2]
          have hIf := HI4.out.sets (g := w.heap.size) hf3 (Nat.lt_succ_self _) [Value.int IntKind.i64 k, .int .i64 u, .int .i64 f, .slice a3 R.length c3, .int .i64 o.1, .int .i64 o.2.1, .int .i64 o.2.2.1.1, .int .i64 o.2.2.1.2.1, .int .i64 o.2.2.1.2.2, .int .i64 o.2.2.2.1, .int .i64 o.2.2.2.2] 0
          have hTf := HT4.out.sets (g := w.heap.size) hf3 (Nat.lt_succ_self _) [Value.int IntKind.i64 k, .int .i64 u, .int .i64 f, .slice a3 R.length c3, .int .i64 o.1, .int .i64 o.2.1, .int .i64 o.2.2.1.1, .int .i64 o.2.2.1.2.1, .int .i64 o.2.2.1.2.2, .int .i64 o.2.2.2.1, .int .i64 o.2.2.2.2] 0
          have hBf := below_sets HB4.out w.heap.size (Nat.le_refl _) [Value.int IntKind.i64 k, .int .i64 u, .int .i64 f, .slice a3 R.length c3, .int .i64 o.1, .int .i64 o.2.1, .int .i64 o.2.2.1.1, .int .i64 o.2.2.1.2.1, .int .i64 o.2.2.1.2.2, .int .i64 o.2.2.2.1, .int .i64 o.2.2.2.2] 0
          exact ⟨⟨_, rfl, a3, c3, rfl, hIf, from_mono hf3 (Nat.le_succ _), HN3.out, hTf⟩, hBf⟩
        · have HE2 : Hid (parseE t = checkRec (k, u, f, R, o) ∧ parseR t = noRec) := ⟨HE.out.1, HE.out.2.1 hc⟩
          have d9 : (checkRec (k, u, f, R, o) != 0) = true := by simpa using hc
          generalize checkRec (k, u, f, R, o) = E at *
          clear HE
          go_wp2
          have hRf := hR4.sets zeroRec rfl
          refine ret_cell_tmp Tryd.results7 rfl rfl (hRf.load Tryd.underlying28 rfl sizeRec) ?_
          rw [HE2.out.1, HE2.out.2]
          exact ⟨⟨_, rfl, recIs_none _ _⟩, below_sets HB4.out w.heap.size (Nat.le_refl _) zeroRec 0⟩
end Go.Proofs.YtmlodnamknielacDoor

/- disk.size, disk.readLine. -/
namespace Go.Proofs.YtmlodnamknielacDoor
open Go.ChangeShapes Go.WideShapes Go.ChangeAt Go.RowKit
open Orangery (Mv Rc noRec noOp lineOf readE readR)

theorem ret_cell_tmp_tmp {fn : Func} {R : Ending → World → Prop} {tmps : Array Value} {W : World} {p u x : Tmp} {ty : TypeId} {b : Nat} {vs : List Value} {v y : Value}
    (h : fn.results = #[.cell p ty, .tmp u, .tmp x]) (hp : tmps.getD p undef = .pointer (some ⟨b, 0, none⟩)) (hv : tmps.getD u undef = v) (hy : tmps.getD x undef = y) (hl : (loadVar ty ⟨b, 0, none⟩).run Tryd.prog W = .ok (.agg vs.toArray) W)
    (hR : R (.returned (.tuple #[.agg vs.toArray, v, y])) W) : bodyPost Tryd.prog fn R .ret { tmps := tmps, defers := [] } W := by
  refine bodyPost_ret ?_ rfl hR
  have hp' : tmps[p]?.getD undef = .pointer (some ⟨b, 0, none⟩) := by simpa using hp
  have hv' : tmps[u]?.getD undef = v := by simpa using hv
  have hy' : tmps[x]?.getD undef = y := by simpa using hy
  simp [results, h, hp', hv', hy', asAddr, hl]
theorem sizeDisk : (Tryd.prog.info? 41).map (·.size) = some 2 := by kernel_rfl

set_option maxHeartbeats 1000000 in
theorem ksize_any (w : World) (v : Value) (s t : List UInt8) (h : DkIs w v s t) :
    Calls Tryd.prog 42 #[v] w fun e w' => e = .returned (.int .i64 ((s.length : Int) + (t.length : Int))) ∧ Below w.heap.size w w' := by
  obtain ⟨a, c, a', c', rfl, h1, h2⟩ := h
  have f1 := h1.few
  have f2 := h2.few
  clear h1 h2
  go_enter Tryd.func42, Tryd.ntmps42
  go_wp2
  go_ret
  exact ⟨rfl, Go.Joins.below_alloc1 w _⟩

theorem feedConst (w : World) (g : Nat) (hg : g = w.heap.size) : (convert 39 39 (.slice (some ⟨g, 0, none⟩) 1 1)).run Tryd.prog (w.alloc (.cells #[.int .u8 10] 5)) = .ok (.slice (some ⟨g, 0, none⟩) 1 1) (w.alloc (.cells #[.int .u8 10] 5 (1, 2))) := by
  subst hg
  exact Lib.run_convert_bytes_const (P := Tryd.prog) w 39 5 #[.int .u8 10] 1 1 Tryd.underlying39 Tryd.underlying5
/-- a row of one byte, as a constant text is laid -/
theorem laidFeed (w : World) (v0 : List Value) (t0 : TypeId) : ∃ W, ((w.alloc (Obj.cells v0.toArray t0)).alloc (Obj.cells #[.int .u8 10] 5 (1, 2))) = W ∧ Blk W w.heap.size v0 ∧ W.cell? ⟨w.heap.size + 1, 0, none⟩ = some (.int .u8 10) ∧ Below w.heap.size w W ∧ w.heap.size + 2 ≤ W.heap.size := by
  refine ⟨_, rfl, (Blk.new w v0 t0).alloc _, ?_, ?_, ?_⟩
  · have hh : ((w.alloc (Obj.cells v0.toArray t0)).alloc (Obj.cells #[.int .u8 10] 5 (1, 2))).heap[w.heap.size + 1]? = some (Obj.cells #[.int .u8 10] 5 (1, 2)) := blk_new (by simp)
    unfold World.cell?
    simp only [hh]
    rfl
  · exact Below.alloc (Go.Joins.below_alloc1 w (Obj.cells v0.toArray t0)) (by simp only [World.size_alloc]; omega) _
  · simp only [World.size_alloc]
    omega

set_option maxHeartbeats 2000000 in
set_option maxRecDepth 100000 in
theorem kreadLine_none (w : World) (a : Option Addr) (c : Nat) (l : List UInt8) (hl : l.length ≤ 60000) (h : BsIs w a c l) (hv : Vars w) (hn : lineOf l = none) :
    Calls Tryd.prog 63 #[.slice a l.length c] w fun e w' => e = .returned (.tuple #[rcV 0 0 0 (.slice none 0 0) noOp, .slice none 0 0, .int .i64 8]) ∧ Below w.heap.size w w' := by
  have kc := feedConst (w.alloc (Obj.cells [Value.int IntKind.i64 0, .int .i64 0, .int .i64 0, .slice none 0 0, .int .i64 0, .int .i64 0, .int .i64 0, .int .i64 0, .int .i64 0, .int .i64 0, .int .i64 0].toArray 28)) (w.heap.size + 1) (by simp)
  have HH := Lib.hid h
  have HV := Lib.hid hv
  have HN : Hid (lineOf l = none) := hn
  clear h hv hn
  go_enter Tryd.func63, Tryd.ntmps63
  go_wp2_with fail
  obtain ⟨W0, hW, hA, hC, hB, hZ⟩ := laidFeed w zeroRec 28
  rw [hW]
  clear hW kc
  refine (bcut_any W0 a c (w.heap.size + 1) 1 l hl (HH.out.keep hB) hC (HV.out.on hB)).mono ?_
  rintro e w1 ⟨⟨-, rfl⟩ | ⟨t, r, a', c', h1, _⟩, hb⟩
  case inr => rw [HN.out] at h1; simp at h1
  have hA1 := hA.keep hb
  have HB1 : Hid (Below w.heap.size w w1) := hB.trans (hb.mono hB.size)
  clear hA hB hb hC hZ HH HV HN
  have rf := hA1.frz
  have r0 := hA1.at 0 rfl
  have r1 := hA1.at 1 rfl
  have r2 := hA1.at 2 rfl
  have r3 := hA1.at 3 rfl
  have r4 := hA1.at 4 rfl
  have r5 := hA1.at 5 rfl
  have r6 := hA1.at 6 rfl
  have r7 := hA1.at 7 rfl
  have r8 := hA1.at 8 rfl
  have r9 := hA1.at 9 rfl
  have r10 := hA1.at 10 rfl
  go_wp2
  have hRf := hA1.sets zeroRec rfl
  refine ret_cell_tmp_tmp Tryd.results63 rfl rfl rfl (hRf.load Tryd.underlying28 rfl sizeRec) ?_
  exact ⟨rfl, below_sets HB1.out w.heap.size (Nat.le_refl _) zeroRec 0⟩

set_option maxHeartbeats 2000000 in
set_option maxRecDepth 100000 in
theorem kreadLine_some (w : World) (a : Option Addr) (c : Nat) (l t r : List UInt8) (hl : l.length ≤ 60000) (h : BsIs w a c l) (hv : Vars w) (hn : lineOf l = some (t, r)) :
    Calls Tryd.prog 63 #[.slice a l.length c] w fun e w' => (∃ (x : Rm) (a' : Option Addr) (c' : Nat), e = .returned (.tuple #[x.val, .slice a' r.length c', .int .i64 (readE t)]) ∧ x.1 = readR t ∧ RootsIn 0 w' x ∧ From w.heap.size x.2.1 ∧ ∀ W, BsIs W a c l → BsIs W a' c' r) ∧ Below w.heap.size w w' := by
  have kc := feedConst (w.alloc (Obj.cells [Value.int IntKind.i64 0, .int .i64 0, .int .i64 0, .slice none 0 0, .int .i64 0, .int .i64 0, .int .i64 0, .int .i64 0, .int .i64 0, .int .i64 0, .int .i64 0].toArray 28)) (w.heap.size + 1) (by simp)
  have ht : t.length ≤ 60000 := by have := Orangery.lineOf_len hn; omega
  have HP := Lib.hid (read_parse ht)
  have H4 := Lib.hid (parse_few t)
  have HH := Lib.hid h
  have HV := Lib.hid hv
  have HN : Hid (lineOf l = some (t, r)) := hn
  clear h hv hn
  go_enter Tryd.func63, Tryd.ntmps63
  go_wp2_with fail
  obtain ⟨W0, hW, hA, hC, hB, hZ⟩ := laidFeed w zeroRec 28
  rw [hW]
  clear hW kc
  refine (bcut_any W0 a c (w.heap.size + 1) 1 l hl (HH.out.keep hB) hC (HV.out.on hB)).mono ?_
  rintro e w1 ⟨⟨h1, _⟩ | ⟨t', r', a', c', h1, rfl, hTR⟩, hb⟩
  · rw [HN.out] at h1; simp at h1
  rw [HN.out] at h1
  obtain ⟨rfl, rfl⟩ : t = t' ∧ r = r' := by simpa using h1
  have hA1 := hA.keep hb
  have HB1 : Hid (Below w.heap.size w w1) := hB.trans (hb.mono hB.size)
  have HV1 := Lib.hid ((HV.out.on hB).on hb)
  have kT := ((hTR w1 ((HH.out.keep hB).keep hb)).1).text c
  have HR1 : Hid (∀ W, BsIs W a c l → BsIs W a' c' r) := fun W h => (hTR W h).2
  have hz1 : w.heap.size < w1.heap.size := hA1.lt
  clear hA hB hb hC hZ HH HV HN h1 hTR
  go_wp2_with fail
  refine (nparse_any w1 t (by unfold maxLen; omega) HV1.out).mono ?_
  rintro e w2 ⟨⟨v2, rfl, hr⟩, hb⟩
  rw [HP.out.1]
  have h4 := H4.out
  rw [HP.out.2] at hr h4
  have HM := Lib.hid (hr.mem (by unfold maxLen; omega))
  have hA2 := hA1.keep hb
  have HB2 : Hid (Below w.heap.size w w2) := HB1.out.trans (hb.mono HB1.out.size)
  have hz2 : w1.heap.size ≤ w2.heap.size := hb.size
  clear hA1 HB1 HV1 kT hr hb h4 H4
  obtain ⟨⟨⟨k, u, f, R, o⟩, a3, c3⟩, rfl, e3, hI, hF⟩ := HM.out
  have HE : Hid ((k, u, f, R, o) = readR t) := e3
  have HI := Lib.hid hI
  have HF := Lib.hid hF
  clear HM e3 hI hF
  obtain ⟨W3, hW3, hX3, hb3, -⟩ := laid1 w2 [Value.int IntKind.i64 k, .int .i64 u, .int .i64 f, .slice a3 R.length c3, .int .i64 o.1, .int .i64 o.2.1, .int .i64 o.2.2.1.1, .int .i64 o.2.2.1.2.1, .int .i64 o.2.2.1.2.2, .int .i64 o.2.2.2.1, .int .i64 o.2.2.2.2] 28
  have hA3 := hA2.keep hb3
  have HB3 := Lib.hid (HB2.out.trans (hb3.mono HB2.out.size))
  have HI3 := Lib.hid (HI.out.keep hb3)
  have rf := hA3.frz
  have r0 := hA3.at 0 rfl
  have r1 := hA3.at 1 rfl
  have r2 := hA3.at 2 rfl
  have r3 := hA3.at 3 rfl
  have r4 := hA3.at 4 rfl
  have r5 := hA3.at 5 rfl
  have r6 := hA3.at 6 rfl
  have r7 := hA3.at 7 rfl
  have r8 := hA3.at 8 rfl
  have r9 := hA3.at 9 rfl
  have r10 := hA3.at 10 rfl
  have y0 := hX3.at 0 rfl
  have y1 := hX3.at 1 rfl
  have y2 := hX3.at 2 rfl
  have y3 := hX3.at 3 rfl
  have y4 := hX3.at 4 rfl
  have y5 := hX3.at 5 rfl
  have y6 := hX3.at 6 rfl
  have y7 := hX3.at 7 rfl
  have y8 := hX3.at 8 rfl
  have y9 := hX3.at 9 rfl
  have y10 := hX3.at 10 rfl
  clear hA2 HB2 HI hb3 hX3
  go_wp2
  have hRf := hA3.sets [Value.int IntKind.i64 k, .int .i64 u, .int .i64 f, .slice a3 R.length c3, .int .i64 o.1, .int .i64 o.2.1, .int .i64 o.2.2.1.1, .int .i64 o.2.2.1.2.1, .int .i64 o.2.2.1.2.2, .int .i64 o.2.2.2.1, .int .i64 o.2.2.2.2] rfl
  refine ret_cell_tmp_tmp Tryd.results63 rfl rfl rfl (hRf.load Tryd.underlying28 rfl sizeRec) ?_
  refine ⟨⟨((k, u, f, R, o), a3, c3), a', c', rfl, HE.out, ?_, from_mono HF.out (by omega), HR1.out⟩, below_sets HB3.out w.heap.size (Nat.le_refl _) [Value.int IntKind.i64 k, .int .i64 u, .int .i64 f, .slice a3 R.length c3, .int .i64 o.1, .int .i64 o.2.1, .int .i64 o.2.2.1.1, .int .i64 o.2.2.1.2.1, .int .i64 o.2.2.1.2.2, .int .i64 o.2.2.2.1, .int .i64 o.2.2.2.2] 0⟩
  exact RootsIn.sets (g := w.heap.size) [Value.int IntKind.i64 k, .int .i64 u, .int .i64 f, .slice a3 R.length c3, .int .i64 o.1, .int .i64 o.2.1, .int .i64 o.2.2.1.1, .int .i64 o.2.2.1.2.1, .int .i64 o.2.2.1.2.2, .int .i64 o.2.2.2.1, .int .i64 o.2.2.2.2] 0 _ HI3.out (fun b off e => by have := HF.out b off e; omega)
end Go.Proofs.YtmlodnamknielacDoor

