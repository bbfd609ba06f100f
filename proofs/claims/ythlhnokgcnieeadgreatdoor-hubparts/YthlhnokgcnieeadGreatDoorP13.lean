/- 7 texts of the proof: Plain facts on lines of records: what a disk holds. Plain facts on disks: checked, put on, synced, crashed, recovered; what was synced is there. Plain facts on texts: strings.Split and strconv.Atoi in the words of PlainQ. Plain facts on lines: strings.SplitAfter at a line feed, piece by piece. Plain facts on disks: lines read one by one, by the program's loop and by the reference's; records put, o -/
import Derived.Lib.Split
import Derived.Lib.SplitLaws
import Derived.Lib.ParseIntBTie
import Derived.Lib.Strings
import Derived.KernelRfl
import Derived.Test.YthlhnokgcnieeadGreatDoorP05
import Derived.Test.YthlhnokgcnieeadGreatDoorP06
/- Plain facts on lines of records: what a disk holds. -/
namespace Orangery
open Go.Lib (itoa)

/-- the first line, without its line feed, and what is behind it -/
def lineOf : List UInt8 → Option (List UInt8 × List UInt8)
  | [] => none
  | c :: r => if c = 10 then some ([], r) else (lineOf r).map fun x => (c :: x.1, x.2)
/-- records as far as lines are whole: them, how many bytes they have, what is wrong with the next one; at most m -/
def linesR : Nat → Nat → List UInt8 → List Rc × Nat × Int
  | 0, _, _ => ([], 0, 0)
  | f + 1, m, s => if s = [] then ([], 0, 0) else match lineOf s with
    | none => ([], 0, 8)
    | some (t, r) => if readE t ≠ 0 then ([], 0, readE t) else if m = 0 then ([], 0, 2)
      else (readR t :: (linesR f (m - 1) r).1, t.length + 1 + (linesR f (m - 1) r).2.1, (linesR f (m - 1) r).2.2)

def recLine (r : Rc) : List UInt8 := recT r ++ [10]
def encR (l : List Rc) : List UInt8 := l.flatMap recLine

theorem lineOf_app (t r : List UInt8) (h : ∀ c ∈ t, c ≠ 10) : lineOf (t ++ 10 :: r) = some (t, r) := by
  induction t with
  | nil => simp [lineOf]
  | cons c t ih =>
    rw [List.cons_append]
    unfold lineOf
    rw [if_neg (h c (by simp)), ih (fun d hd => h d (by simp [hd]))]
    rfl
theorem lineOf_none (t : List UInt8) (h : ∀ c ∈ t, c ≠ 10) : lineOf t = none := by
  induction t with
  | nil => rfl
  | cons c t ih =>
    unfold lineOf
    rw [if_neg (h c (by simp)), ih (fun d hd => h d (by simp [hd]))]
    rfl
theorem lineOf_some {s t r : List UInt8} (h : lineOf s = some (t, r)) : s = t ++ 10 :: r ∧ ∀ c ∈ t, c ≠ 10 := by
  induction s generalizing t r with
  | nil => simp [lineOf] at h
  | cons c s ih =>
    unfold lineOf at h
    split at h
    · rename_i h1
      simp at h
      obtain ⟨rfl, rfl⟩ := h
      exact ⟨by rw [h1]; rfl, by simp⟩
    · rename_i h1
      rw [Option.map_eq_some_iff] at h
      obtain ⟨⟨t', r'⟩, h2, h3⟩ := h
      simp at h3
      obtain ⟨rfl, rfl⟩ := h3
      obtain ⟨e1, e2⟩ := ih h2
      refine ⟨by rw [e1]; rfl, fun d hd => ?_⟩
      rcases List.mem_cons.1 hd with rfl | hd
      · exact h1
      · exact e2 d hd

theorem glue_no (b : UInt8) (hb : b ≠ 32) (ws : List (List UInt8)) (h : ∀ x ∈ ws, ∀ c ∈ x, c ≠ b) : ∀ c ∈ glue ws, c ≠ b := by
  induction ws with
  | nil => intro c hc; simp [glue, Go.Lib.join] at hc
  | cons x l ih =>
    cases l with
    | nil => rw [glue_one]; exact h x (by simp)
    | cons y l =>
      rw [glue_cons]
      intro c hc
      rcases List.mem_append.1 hc with hc | hc
      · exact h x (by simp) c hc
      · rcases List.mem_cons.1 hc with rfl | hc
        · exact fun e => hb e.symm
        · exact ih (fun z hz => h z (by simp [hz])) c hc
theorem itoa_lf (n : Int) : ∀ c ∈ itoa n, c ≠ 10 := by
  intro c hc e
  subst e
  unfold itoa at hc
  split at hc
  · simp at hc
    have := digits_all _ _ hc
    simp at this
  · have := digits_all _ _ hc
    simp at this
theorem recT_lf (r : Rc) : ∀ c ∈ recT r, c ≠ 10 := by
  unfold recT
  refine glue_no 10 (by decide) _ ?_
  intro x hx
  rcases List.mem_cons.1 hx with rfl | hx
  · unfold recWord
    split
    · decide
    · split <;> decide
  · obtain ⟨n, _, rfl⟩ := List.mem_map.1 hx
    exact itoa_lf n

theorem encR_cons (r : Rc) (l : List Rc) : encR (r :: l) = recT r ++ 10 :: encR l := by simp [encR, recLine]
theorem encR_app (a b : List Rc) : encR (a ++ b) = encR a ++ encR b := by simp [encR]

/-- whole lines of right records are read, and what is behind them -/
theorem lines_enc (l : List Rc) (hl : ∀ r ∈ l, checkRec r = 0) : ∀ (f m : Nat) (s : List UInt8), l.length ≤ f → l.length ≤ m →
    linesR f m (encR l ++ s) = (l ++ (linesR (f - l.length) (m - l.length) s).1, (encR l).length + (linesR (f - l.length) (m - l.length) s).2.1, (linesR (f - l.length) (m - l.length) s).2.2) := by
  induction l with
  | nil => intro f m s _ _; simp [encR]
  | cons r l ih =>
    intro f m s hf hm
    cases f with
    | zero => simp at hf
    | succ f =>
      have hr := hl r (by simp)
      rw [encR_cons, List.append_assoc, List.cons_append]
      conv => lhs; unfold linesR
      rw [if_neg (by simp), lineOf_app _ _ (recT_lf r)]
      simp only
      rw [if_neg (by rw [(read_text hr).2.1]; simp), if_neg (by simp at hm; omega), (read_text hr).2.2]
      have := ih (fun q hq => hl q (by simp [hq])) f (m - 1) s (by simp at hf; omega) (by simp at hm; omega)
      rw [this]
      have e1 : f + 1 - (r :: l).length = f - l.length := by simp
      have e2 : m - (r :: l).length = m - 1 - l.length := by simp; omega
      rw [e1, e2]
      simp only [List.length_append, List.length_cons, List.cons_append]
      refine congrArg _ (congrArg (·, _) ?_)
      omega

/-- a beginning of whole lines: some of them, and a beginning of the next one -/
theorem take_enc (l : List Rc) : ∀ n, ∃ (j : Nat) (t : List UInt8), j ≤ l.length ∧ (encR l).take n = encR (l.take j) ++ t ∧ (t = [] ∨ ∀ c ∈ t, c ≠ 10) := by
  induction l with
  | nil => intro n; exact ⟨0, [], by simp, by simp [encR], Or.inl rfl⟩
  | cons r l ih =>
    intro n
    by_cases hn : n ≤ (recT r).length
    · refine ⟨0, (recT r).take n, by simp, ?_, Or.inr fun c hc => recT_lf r c (List.mem_of_mem_take hc)⟩
      rw [encR_cons, List.take_append_of_le_length hn]
      simp [encR]
    · obtain ⟨j, t, h1, h2, h3⟩ := ih (n - ((recT r).length + 1))
      refine ⟨j + 1, t, by simp; omega, ?_, h3⟩
      rw [encR_cons, List.take_succ_cons, encR_cons]
      have e : recT r ++ 10 :: encR l = (recT r ++ [10]) ++ encR l := by simp
      rw [e, List.take_append]
      have e2 : (recT r ++ [10]).length = (recT r).length + 1 := by simp
      rw [e2, h2, List.take_of_length_le (by rw [e2]; omega)]
      simp

/-- what is behind whole lines and has no line feed says nothing -/
theorem lines_torn (t : List UInt8) (h : t = [] ∨ ∀ c ∈ t, c ≠ 10) (f m : Nat) : (linesR f m t).1 = [] ∧ (linesR f m t).2.1 = 0 := by
  cases f with
  | zero => exact ⟨rfl, rfl⟩
  | succ f =>
    unfold linesR
    by_cases ht : t = []
    · rw [if_pos ht]; exact ⟨rfl, rfl⟩
    · rw [if_neg ht]
      have : lineOf t = none := lineOf_none t (by rcases h with h | h; exact absurd h ht; exact h)
      rw [this]
      exact ⟨rfl, rfl⟩
end Orangery

/- Plain facts on disks: checked, put on, synced, crashed, recovered; what was synced is there. -/
namespace Orangery
open Go.Lib (itoa)

/-- records, bytes and error of a text's lines, m records at most -/
def lnL (m : Nat) (s : List UInt8) : List Rc := (linesR (s.length + 1) m s).1
def lnN (m : Nat) (s : List UInt8) : Nat := (linesR (s.length + 1) m s).2.1
def lnE (m : Nat) (s : List UInt8) : Int := (linesR (s.length + 1) m s).2.2

/-- chapter 7's Check -/
def diskE (s w : List UInt8) : Int := if 60000 < s.length ∨ 60000 - s.length < w.length then 2 else lnE 60 s
/-- chapter 7's Put, of a right disk -/
def putE (s w : List UInt8) (r : Rc) : Int := if checkRec r ≠ 0 then checkRec r else if 60000 < s.length + w.length + (recT r).length + 1 then 2 else 0
/-- chapter 7's Recover, of a right disk -/
def recovS (s w : List UInt8) : List UInt8 := s ++ w.take (lnN (60 - (lnL 60 s).length) w)
def recovL (s w : List UInt8) : List Rc := lnL 60 s ++ lnL (60 - (lnL 60 s).length) w

/-- more fuel than lines changes nothing -/
theorem lineOf_len {s t r : List UInt8} (h : lineOf s = some (t, r)) : s.length = t.length + 1 + r.length := by
  obtain ⟨e, _⟩ := lineOf_some h
  rw [e]; simp; omega
theorem lines_fuels (f : Nat) : ∀ (g m : Nat) (s : List UInt8), s.length < f → s.length < g → linesR f m s = linesR g m s := by
  induction f with
  | zero => intro g m s h _; omega
  | succ f ih =>
    intro g m s h h'
    cases g with
    | zero => omega
    | succ g =>
      unfold linesR
      by_cases hs : s = []
      · rw [if_pos hs, if_pos hs]
      · rw [if_neg hs, if_neg hs]
        cases hl : lineOf s with
        | none => rfl
        | some x =>
          obtain ⟨t, r⟩ := x
          have hlen := lineOf_len hl
          simp only
          rw [ih g (m - 1) r (by omega) (by omega)]
theorem lines_fuel (f m : Nat) (s : List UInt8) (h : s.length < f) : linesR f m s = linesR (s.length + 1) m s := lines_fuels f _ m s h (Nat.lt_succ_self _)

theorem ln_enc (l : List Rc) (hl : ∀ r ∈ l, checkRec r = 0) (m : Nat) (t : List UInt8) (hm : l.length ≤ m) (ht : t = [] ∨ ∀ c ∈ t, c ≠ 10) :
    lnL m (encR l ++ t) = l ∧ lnN m (encR l ++ t) = (encR l).length ∧ (t = [] → lnE m (encR l ++ t) = 0) := by
  have hlen : l.length ≤ (encR l).length := by
    clear hl hm
    induction l with
    | nil => simp
    | cons r l ih => rw [encR_cons]; simp; omega
  have h := lines_enc l hl ((encR l ++ t).length + 1) m t (by simp; omega) hm
  have h2 := lines_torn t ht ((encR l ++ t).length + 1 - l.length) (m - l.length)
  unfold lnL lnN lnE
  rw [h]
  refine ⟨by rw [h2.1]; simp, by rw [h2.2]; simp, ?_⟩
  intro e
  subst e
  cases hk : (encR l ++ []).length + 1 - l.length with
  | zero => rfl
  | succ k => simp [linesR]

/-- P7.3: whatever is kept of what was not synced -/
theorem disk_keeps (A B : List Rc) (hA : ∀ r ∈ A, checkRec r = 0) (hB : ∀ r ∈ B, checkRec r = 0) (ha : A.length ≤ 20) (hb : B.length ≤ 20) (n : Nat) :
    ∃ j, j ≤ B.length ∧ recovL (encR A) ((encR B).take n) = A ++ B.take j ∧ recovS (encR A) ((encR B).take n) = encR (A ++ B.take j) := by
  obtain ⟨j, t, h1, h2, h3⟩ := take_enc B n
  refine ⟨j, h1, ?_⟩
  have eA := ln_enc A hA 60 [] (by omega) (Or.inl rfl)
  rw [List.append_nil] at eA
  have hBj : ∀ r ∈ B.take j, checkRec r = 0 := fun r hr => hB r (List.mem_of_mem_take hr)
  have eB := ln_enc (B.take j) hBj (60 - A.length) t (by simp; omega) h3
  unfold recovL recovS
  rw [eA.1, h2, eB.1, eB.2.1]
  refine ⟨rfl, ?_⟩
  rw [List.take_left, encR_app]
/-- recovered again it is the same -/
theorem disk_again (L : List Rc) (hL : ∀ r ∈ L, checkRec r = 0) (hl : L.length ≤ 60) : recovL (encR L) [] = L ∧ recovS (encR L) [] = encR L ∧ lnE 60 (encR L) = 0 := by
  have e := ln_enc L hL 60 [] hl (Or.inl rfl)
  rw [List.append_nil] at e
  unfold recovL recovS
  rw [e.1]
  refine ⟨by simp [lnL, linesR], by simp, e.2.2 rfl⟩
theorem encR_len (L : List Rc) (hL : ∀ r ∈ L, checkRec r = 0) : (encR L).length ≤ 177 * L.length := by
  induction L with
  | nil => simp [encR]
  | cons r l ih =>
    have h1 := recT_len (hL r (by simp))
    have h2 := ih (fun q hq => hL q (by simp [hq]))
    rw [encR_cons]
    simp
    omega
end Orangery

/- Plain facts on texts: strings.Split and strconv.Atoi in the words of PlainQ. -/
namespace Orangery
open Go.Lib (itoa index cut splitK split count splitB countB parseIntB atoiAll)

theorem words_step (s : List UInt8) : wordsB s = if index s [32] = -1 then [s] else s.take (index s [32]).toNat :: wordsB (s.drop ((index s [32]).toNat + 1)) := by
  have h := cut_blank s
  have hge := Go.Lib.index_ge s [32]
  rw [wordsB_split s, ← h.1, h.2]
  unfold cut
  by_cases h1 : index s [32] = -1
  · rw [h1]; rfl
  · rw [if_neg h1, if_pos (by omega)]
    rfl
theorem words_len (s : List UInt8) : (wordsB s).length = s.count 32 + 1 := by
  induction s with
  | nil => rfl
  | cons c r ih =>
    unfold wordsB
    have := wordsB_split r
    by_cases h : c = 32
    · subst h
      rw [if_pos rfl, List.count_cons_self, List.length_cons, ih]
    · rw [if_neg h, List.count_cons_of_ne (by simpa using h)]
      rw [this] at ih
      simp at ih ⊢
      exact ih
theorem words_small (s : List UInt8) : ∀ x ∈ wordsB s, x.length ≤ s.length := by
  induction s with
  | nil => simp [wordsB]
  | cons c r ih =>
    intro x hx
    unfold wordsB at hx
    split at hx
    · rcases List.mem_cons.1 hx with rfl | hx
      · simp
      · have := ih x hx
        simp; omega
    · rcases List.mem_cons.1 hx with rfl | hx
      · have := ih ((wordsB r).headD []) (by rw [wordsB_split r]; simp)
        simp at this ⊢; omega
      · have := ih x (List.mem_of_mem_tail hx)
        simp; omega
theorem words_count (s : List UInt8) : (wordsB s).length ≤ s.length + 1 := by
  rw [words_len]
  have := List.count_le_length (a := (32 : UInt8)) (l := s)
  omega
theorem splitK_words (k : Nat) : ∀ s : List UInt8, (wordsB s).length ≤ k + 1 → splitK [32] 0 k s = wordsB s := by
  induction k with
  | zero =>
    intro s h
    rw [words_step] at h ⊢
    split at h
    · rename_i h1; rw [if_pos h1]; rfl
    · rw [List.length_cons, words_len] at h; omega
  | succ k ih =>
    intro s h
    unfold splitK
    rw [words_step] at h ⊢
    by_cases h1 : index s [32] = -1
    · rw [if_pos h1, h1]; rfl
    · rw [if_neg h1] at h ⊢
      rw [if_neg (by simpa using h1)]
      rw [ih _ (by simp at h ⊢; omega)]
      rfl
/-- strings.Split at a blank, as the library's law says it -/
theorem splitB_words (s : ByteArray) : (splitB ⟨#[32]⟩ 0 (countB s ⟨#[32]⟩) s).map (·.data.toList) = wordsB s.data.toList := by
  rw [Go.Lib.splitB_data]
  refine splitK_words _ _ ?_
  have e : countB s ⟨#[32]⟩ = s.data.toList.count 32 := Go.Lib.count_one 32 _
  rw [e, words_len]
  exact Nat.le_refl _
theorem countB_words (s : ByteArray) : countB s ⟨#[32]⟩ + 1 = (wordsB s.data.toList).length := by
  have e : countB s ⟨#[32]⟩ = s.data.toList.count 32 := Go.Lib.count_one 32 _
  rw [e, words_len]
theorem splitB_strs (s : ByteArray) : splitB ⟨#[32]⟩ 0 (countB s ⟨#[32]⟩) s = (wordsB s.data.toList).map fun x => (⟨x.toArray⟩ : ByteArray) := by
  rw [← splitB_words s, List.map_map]
  have : ((fun x : List UInt8 => (⟨x.toArray⟩ : ByteArray)) ∘ fun x : ByteArray => x.data.toList) = id := by
    funext x; cases x; rfl
  rw [this, List.map_id]

/-- what Atoi makes of a word, and whether it is written so -/
theorem numOf_ok {t : List UInt8} {v : Int} (h : atoiAll t = .ok v) : numOf t = if itoa v = t then some v else none := by
  unfold numOf
  rw [Go.Lib.parseIntB_64, h]
theorem numOf_bad {t : List UInt8} (h : ∀ v, atoiAll t ≠ .ok v) : numOf t = none := by
  unfold numOf
  rw [Go.Lib.parseIntB_64]
  split
  · rename_i v hv; exact absurd hv (h v)
  · rfl
theorem numOf_bounds {t : List UInt8} {v : Int} (h : numOf t = some v) : -9223372036854775808 ≤ v ∧ v ≤ 9223372036854775807 := by
  unfold numOf at h
  split at h
  · rename_i u hu
    have := Go.Lib.parseIntB_bounds hu
    split at h
    · simp at h; subst h; simp at this; omega
    · simp at h
  · simp at h
theorem atoi_bounds {t : List UInt8} {v : Int} (h : atoiAll t = .ok v) : -9223372036854775808 ≤ v ∧ v ≤ 9223372036854775807 := by
  rw [← Go.Lib.parseIntB_64] at h
  have := Go.Lib.parseIntB_bounds h
  simp at this
  omega
theorem numsOf_len (ws : List (List UInt8)) : ∀ l, numsOf ws = some l → l.length = ws.length := by
  intro l h
  have := numsOf_some ws l h
  rw [this]; simp
theorem numsOf_take (ws : List (List UInt8)) (k : Nat) (hk : k < ws.length) (l : List Int) (h : numsOf (ws.take k) = some l) :
    numsOf (ws.take (k + 1)) = (numOf ws[k]).map fun v => l ++ [v] := by
  induction ws generalizing k l with
  | nil => simp at hk
  | cons t ws ih =>
    cases k with
    | zero =>
      simp [numsOf] at h
      subst h
      simp [numsOf]
      cases numOf t <;> rfl
    | succ k =>
      simp only [List.take_succ_cons, List.getElem_cons_succ] at h ⊢
      unfold numsOf at h ⊢
      cases hn : numOf t with
      | none => rw [hn] at h; simp at h
      | some u =>
        rw [hn] at h
        simp only at h ⊢
        rw [Option.map_eq_some_iff] at h
        obtain ⟨l', h1, rfl⟩ := h
        have hk' : k < ws.length := by simpa using hk
        rw [ih k hk' l' h1]
        cases numOf ws[k] <;> rfl
/-- a word that is no number: none of them is -/
theorem numsOf_stop (ws : List (List UInt8)) (k : Nat) (h : numsOf (ws.take k) = none) : numsOf ws = none := by
  induction ws generalizing k with
  | nil => simp [numsOf] at h
  | cons t ws ih =>
    cases k with
    | zero => simp [numsOf] at h
    | succ k =>
      simp only [List.take_succ_cons] at h
      unfold numsOf at h ⊢
      cases hn : numOf t with
      | none => rfl
      | some u =>
        rw [hn] at h
        simp only [Option.map_eq_none_iff] at h ⊢
        exact ih k h
theorem take_all {α : Type} (l : List α) (k : Nat) (h : k = l.length) : l.take k = l := by rw [h]; exact List.take_length

theorem glue_flat (x : List UInt8) (ws : List (List UInt8)) : glue (x :: ws) = x ++ ws.flatMap (fun t => 32 :: t) := by
  induction ws generalizing x with
  | nil => rw [glue_one]; simp
  | cons y l ih => rw [glue_cons, ih y]; simp
/-- a text behind its first k numbers -/
def partT (x : List UInt8) (l : List Int) (k : Nat) : List UInt8 := x ++ (l.take k).flatMap (fun n => 32 :: itoa n)
theorem partT_zero (x : List UInt8) (l : List Int) : partT x l 0 = x := by simp [partT]
theorem partT_next (x : List UInt8) (l : List Int) (k : Nat) (hk : k < l.length) : partT x l (k + 1) = partT x l k ++ 32 :: itoa l[k] := by
  unfold partT
  rw [List.take_succ_eq_append_getElem hk, List.flatMap_append, ← List.append_assoc]
  simp
theorem partT_all (x : List UInt8) (l : List Int) : partT x l l.length = glue (x :: l.map itoa) := by
  unfold partT
  rw [glue_flat, List.take_length, List.flatMap_map]
theorem partT_len (x : List UInt8) (l : List Int) (k : Nat) : (partT x l k).length ≤ (glue (x :: l.map itoa)).length := by
  rw [glue_flat, List.flatMap_map]
  unfold partT
  have e : l.flatMap (fun n => 32 :: itoa n) = (l.take k).flatMap (fun n => 32 :: itoa n) ++ (l.drop k).flatMap (fun n => 32 :: itoa n) := by
    rw [← List.flatMap_append, List.take_append_drop]
  have e2 : List.flatMap (fun a => (fun t => (32 : UInt8) :: t) (itoa a)) l = l.flatMap (fun n => 32 :: itoa n) := rfl
  rw [e2, e]
  simp
/-! strings as byte arrays -/
theorem bytes_eq (s : ByteArray) : (⟨s.data.toList.toArray⟩ : ByteArray) = s := by cases s; rfl
theorem bytes_app (a b : List UInt8) : (⟨a.toArray⟩ : ByteArray) ++ ⟨b.toArray⟩ = ⟨(a ++ b).toArray⟩ := by
  apply ByteArray.ext
  simp
theorem bytes_inj {a b : List UInt8} (h : (⟨a.toArray⟩ : ByteArray) = ⟨b.toArray⟩) : a = b := by
  have := congrArg (fun x : ByteArray => x.data.toList) h
  simpa using this
theorem bytes_size (a : List UInt8) : (⟨a.toArray⟩ : ByteArray).size = a.length := rfl
theorem bytes_list (a : List UInt8) : (⟨a.toArray⟩ : ByteArray).toList = a := Go.Lib.toList_data _
theorem bytes_ne {a b : List UInt8} (h : a ≠ b) : ((⟨a.toArray⟩ : ByteArray).toList == (⟨b.toArray⟩ : ByteArray).toList) = false := by
  rw [bytes_list, bytes_list]
  simpa using h
theorem bytes_same {a b : List UInt8} (h : a = b) : ((⟨a.toArray⟩ : ByteArray).toList == (⟨b.toArray⟩ : ByteArray).toList) = true := by
  subst h
  simp
end Orangery

/- Plain facts on lines: strings.SplitAfter at a line feed, piece by piece. -/
namespace Orangery
open Go.Lib (index splitK count splitB countB)

theorem index_lf_nil : index [] [10] = -1 := rfl
theorem index_lf (c : UInt8) (r : List UInt8) : index (c :: r) [10] = if c = 10 then 0 else if index r [10] = -1 then -1 else index r [10] + 1 := by
  have e : index (c :: r) [10] = if List.isPrefixOf [10] (c :: r) then 0 else if index r [10] == -1 then -1 else index r [10] + 1 := rfl
  rw [e]
  by_cases h : c = 10
  · subst h; simp [List.isPrefixOf]
  · have h2 : (10 == c) = false := by simp; exact fun e => h e.symm
    simp [List.isPrefixOf, h, h2]
theorem lineOf_index (s : List UInt8) : lineOf s = if index s [10] = -1 then none else some (s.take (index s [10]).toNat, s.drop ((index s [10]).toNat + 1)) := by
  induction s with
  | nil => rfl
  | cons c r ih =>
    unfold lineOf
    rw [index_lf]
    by_cases h : c = 10
    · rw [if_pos h, if_pos h]; simp
    · rw [if_neg h, if_neg h, ih]
      have hge := Go.Lib.index_ge r [10]
      by_cases h2 : index r [10] = -1
      · rw [if_pos h2, if_pos h2]; rfl
      · rw [if_neg h2, if_neg h2, if_neg (by omega)]
        have h5 : (index r [10] + 1).toNat = (index r [10]).toNat + 1 := by omega
        rw [h5]
        rfl
/-- the pieces of a text, each with its line feed -/
def pcs : Nat → List UInt8 → List (List UInt8)
  | 0, s => [s]
  | k + 1, s => match lineOf s with
    | none => [s]
    | some (t, r) => (t ++ [10]) :: pcs k r
theorem splitK_pcs (k : Nat) : ∀ s : List UInt8, splitK [10] 1 k s = pcs k s := by
  induction k with
  | zero => intro s; rfl
  | succ k ih =>
    intro s
    unfold splitK pcs
    have hl := lineOf_index s
    by_cases h : index s [10] = -1
    · rw [if_pos h] at hl
      rw [hl, h]
      rfl
    · rw [if_neg h] at hl
      rw [hl, if_neg (by simpa using h), ih]
      simp only [List.length_cons, List.length_nil]
      refine congrArg (· :: _) ?_
      obtain ⟨e, _⟩ := lineOf_some hl
      have hlen := lineOf_len hl
      generalize (index s [10]).toNat = n at *
      have ht : (s.take n).length = n := by
        simp only [List.length_take, List.length_drop] at hlen ⊢
        omega
      have hn : n < s.length := by
        simp only [List.length_take, List.length_drop] at hlen ht
        omega
      have e2 : s[n] = 10 := by
        have : s[n]? = some 10 := by
          rw [e, List.getElem?_append_right (by omega), ht]
          simp
        rw [List.getElem?_eq_getElem hn] at this
        simpa using this
      rw [List.take_succ_eq_append_getElem hn, e2]
/-- the lines of pieces: them as records, bytes, what is wrong -/
def runP : Nat → List (List UInt8) → List Rc × Nat × Int
  | _, [] => ([], 0, 0)
  | m, t :: ps => if t = [] then ([], 0, 0) else if t.getLast? ≠ some 10 then ([], 0, 8)
    else if readE t.dropLast ≠ 0 then ([], 0, readE t.dropLast) else if m = 0 then ([], 0, 2)
    else (readR t.dropLast :: (runP (m - 1) ps).1, t.length + (runP (m - 1) ps).2.1, (runP (m - 1) ps).2.2)
theorem lineOf_count {s t r : List UInt8} (h : lineOf s = some (t, r)) : s.count 10 = r.count 10 + 1 := by
  obtain ⟨e, hn⟩ := lineOf_some h
  rw [e, List.count_append, List.count_cons_self, List.count_eq_zero.2 (fun hm => hn 10 hm rfl)]
  omega
theorem lineOf_no {s : List UInt8} (h : lineOf s = none) : ∀ c ∈ s, c ≠ 10 := by
  induction s with
  | nil => simp
  | cons c r ih =>
    unfold lineOf at h
    split at h
    · simp at h
    · rename_i h1
      simp at h
      intro d hd
      rcases List.mem_cons.1 hd with rfl | hd
      · exact h1
      · exact ih h d hd
theorem run_pcs (k : Nat) : ∀ (m : Nat) (s : List UInt8), s.count 10 ≤ k → runP m (pcs k s) = linesR (s.length + 1) m s := by
  induction k with
  | zero =>
    intro m s h
    have hn : lineOf s = none := by
      cases hl : lineOf s with
      | none => rfl
      | some x => have := lineOf_count (s := s) (t := x.1) (r := x.2) hl; omega
    unfold pcs runP linesR
    by_cases hs : s = []
    · rw [if_pos hs, if_pos hs]
    · rw [if_neg hs, if_neg hs, hn]
      have : s.getLast? ≠ some 10 := fun e => lineOf_no hn 10 (List.mem_of_getLast? e) rfl
      rw [if_pos this]
  | succ k ih =>
    intro m s h
    unfold pcs linesR
    cases hl : lineOf s with
    | none =>
      simp only
      unfold runP
      by_cases hs : s = []
      · rw [if_pos hs, if_pos hs]
      · rw [if_neg hs, if_neg hs]
        have : s.getLast? ≠ some 10 := fun e => lineOf_no hl 10 (List.mem_of_getLast? e) rfl
        rw [if_pos this]
    | some x =>
      obtain ⟨t, r⟩ := x
      have hc := lineOf_count hl
      have hlen := lineOf_len hl
      have hs : s ≠ [] := by intro e; subst e; simp [lineOf] at hl
      simp only
      rw [if_neg hs]
      unfold runP
      rw [if_neg (by simp), if_neg (by simp)]
      have e1 : (t ++ [10]).dropLast = t := by simp
      rw [e1, ih (m - 1) r (by omega), ← lines_fuel s.length (m - 1) r (by omega)]
      simp
/-- strings.SplitAfter at a line feed, as the library's law says it -/
theorem splitB_pcs (s : ByteArray) : (splitB ⟨#[10]⟩ 1 (countB s ⟨#[10]⟩) s).map (·.data.toList) = pcs (s.data.toList.count 10) s.data.toList := by
  rw [Go.Lib.splitB_data]
  have e : countB s ⟨#[10]⟩ = s.data.toList.count 10 := Go.Lib.count_one 10 _
  rw [e]
  exact splitK_pcs _ _
theorem pcs_len (k : Nat) : ∀ s : List UInt8, (pcs k s).length ≤ k + 1 := by
  induction k with
  | zero => intro s; simp [pcs]
  | succ k ih =>
    intro s
    unfold pcs
    split
    · simp
    · rename_i t r _
      have := ih r
      simp; omega
theorem pcs_small (k : Nat) : ∀ s : List UInt8, ∀ t ∈ pcs k s, t.length ≤ s.length := by
  induction k with
  | zero => intro s t ht; simp [pcs] at ht; subst ht; exact Nat.le_refl _
  | succ k ih =>
    intro s t ht
    unfold pcs at ht
    split at ht
    · simp at ht; subst ht; exact Nat.le_refl _
    · rename_i u r hl
      have hlen := lineOf_len hl
      rcases List.mem_cons.1 ht with rfl | ht
      · simp; omega
      · have := ih r t ht; omega
end Orangery

/- Plain facts on disks: lines read one by one, by the program's loop and by the reference's; records put, one after another. -/
namespace Orangery

theorem ln_nil (m : Nat) : lnL m [] = [] ∧ lnN m [] = 0 ∧ lnE m [] = 0 := by simp [lnL, lnN, lnE, linesR]
theorem ln_torn {m : Nat} {s : List UInt8} (hs : s ≠ []) (h : lineOf s = none) : lnL m s = [] ∧ lnN m s = 0 ∧ lnE m s = 8 := by
  unfold lnL lnN lnE linesR
  rw [if_neg hs, h]
  exact ⟨rfl, rfl, rfl⟩
theorem lineOf_nil : lineOf [] = none := rfl
theorem lineOf_ne {s t r : List UInt8} (h : lineOf s = some (t, r)) : s ≠ [] := by intro e; subst e; simp [lineOf] at h
theorem ln_bad {m : Nat} {s t r : List UInt8} (h : lineOf s = some (t, r)) (he : readE t ≠ 0) : lnL m s = [] ∧ lnN m s = 0 ∧ lnE m s = readE t := by
  unfold lnL lnN lnE linesR
  rw [if_neg (lineOf_ne h), h]
  simp only
  rw [if_pos he]
  exact ⟨rfl, rfl, rfl⟩
theorem ln_many {s t r : List UInt8} (h : lineOf s = some (t, r)) (he : readE t = 0) : lnL 0 s = [] ∧ lnN 0 s = 0 ∧ lnE 0 s = 2 := by
  unfold lnL lnN lnE linesR
  rw [if_neg (lineOf_ne h), h]
  simp only
  rw [if_neg (by simp [he])]
  simp
theorem ln_next {m : Nat} {s t r : List UInt8} (h : lineOf s = some (t, r)) (he : readE t = 0) (hm : m ≠ 0) : lnL m s = readR t :: lnL (m - 1) r ∧ lnN m s = t.length + 1 + lnN (m - 1) r ∧ lnE m s = lnE (m - 1) r := by
  have hlen := lineOf_len h
  have hf := lines_fuel s.length (m - 1) r (by omega)
  unfold lnL lnN lnE
  conv => lhs; lhs; unfold linesR
  rw [if_neg (lineOf_ne h), h]
  simp only
  rw [if_neg (by simp [he]), if_neg hm, hf]
  refine ⟨rfl, ?_, ?_⟩
  · conv => lhs; unfold linesR
    rw [if_neg (lineOf_ne h), h]
    simp only
    rw [if_neg (by simp [he]), if_neg hm, hf]
  · conv => lhs; unfold linesR
    rw [if_neg (lineOf_ne h), h]
    simp only
    rw [if_neg (by simp [he]), if_neg hm, hf]

theorem ln_len (k : Nat) : ∀ (m : Nat) (s : List UInt8), s.length ≤ k → (lnL m s).length ≤ m ∧ lnN m s ≤ s.length := by
  induction k with
  | zero =>
    intro m s h
    have : s = [] := List.length_eq_zero_iff.1 (by omega)
    subst this
    obtain ⟨h1, h2, _⟩ := ln_nil m
    rw [h1, h2]; simp
  | succ k ih =>
    intro m s h
    by_cases hs : s = []
    · subst hs
      obtain ⟨h1, h2, _⟩ := ln_nil m
      rw [h1, h2]; simp
    cases hl : lineOf s with
    | none => obtain ⟨h1, h2, _⟩ := ln_torn (m := m) hs hl; rw [h1, h2]; simp
    | some x =>
      obtain ⟨t, r⟩ := x
      have hlen := lineOf_len hl
      by_cases he : readE t = 0
      · by_cases hm : m = 0
        · subst hm
          obtain ⟨h1, h2, _⟩ := ln_many hl he; rw [h1, h2]; simp
        · obtain ⟨h1, h2, _⟩ := ln_next hl he hm
          obtain ⟨i1, i2⟩ := ih (m - 1) r (by omega)
          rw [h1, h2]
          simp only [List.length_cons]
          omega
      · obtain ⟨h1, h2, _⟩ := ln_bad (m := m) hl he; rw [h1, h2]; simp
theorem lnL_len (m : Nat) (s : List UInt8) : (lnL m s).length ≤ m := (ln_len _ m s (Nat.le_refl _)).1
theorem lnN_len (m : Nat) (s : List UInt8) : lnN m s ≤ s.length := (ln_len _ m s (Nat.le_refl _)).2

/-- lines read so far: L of them; s' is left -/
structure LnTo (m : Nat) (s : List UInt8) (L : List Rc) (s' : List UInt8) : Prop where
  recs : lnL m s = L ++ lnL (m - L.length) s'
  size : lnN m s + s'.length = s.length + lnN (m - L.length) s'
  err : lnE m s = lnE (m - L.length) s'
  few : L.length ≤ m
  left : s'.length ≤ s.length
theorem LnTo.start (m : Nat) (s : List UInt8) : LnTo m s [] s := ⟨by simp, by simp; omega, by simp, by simp, Nat.le_refl _⟩
theorem LnTo.next {m : Nat} {s s' t r : List UInt8} {L : List Rc} (h : LnTo m s L s') (hl : lineOf s' = some (t, r)) (he : readE t = 0) (hm : L.length < m) : LnTo m s (L ++ [readR t]) r := by
  have hlen := lineOf_len hl
  obtain ⟨h1, h2, h3⟩ := ln_next (m := m - L.length) hl he (by omega)
  have hk : m - (L ++ [readR t]).length = m - L.length - 1 := by simp; omega
  refine ⟨?_, ?_, ?_, by simp; omega, by have := h.left; omega⟩
  · rw [hk, h.recs, h1]; simp
  · have := h.size
    rw [hk]
    omega
  · rw [hk, h.err, h3]
theorem LnTo.fin {m : Nat} {s : List UInt8} {L : List Rc} (h : LnTo m s L []) : lnL m s = L ∧ s.length - lnN m s = 0 ∧ lnE m s = 0 := by
  obtain ⟨h1, h2, h3⟩ := ln_nil (m - L.length)
  have e1 := h.recs; have e2 := h.size; have e3 := h.err
  rw [h1] at e1; rw [h2] at e2; rw [h3] at e3
  refine ⟨by simpa using e1, ?_, e3⟩
  simp at e2
  omega
theorem LnTo.torn {m : Nat} {s s' : List UInt8} {L : List Rc} (h : LnTo m s L s') (hs : s' ≠ []) (hl : lineOf s' = none) : lnL m s = L ∧ s.length - lnN m s = s'.length ∧ lnE m s = 8 := by
  obtain ⟨h1, h2, h3⟩ := ln_torn (m := m - L.length) hs hl
  have e1 := h.recs; have e2 := h.size; have e3 := h.err
  rw [h1] at e1; rw [h2] at e2; rw [h3] at e3
  refine ⟨by simpa using e1, ?_, e3⟩
  have := h.left
  omega
theorem LnTo.bad {m : Nat} {s s' t r : List UInt8} {L : List Rc} (h : LnTo m s L s') (hl : lineOf s' = some (t, r)) (he : readE t ≠ 0) : lnL m s = L ∧ s.length - lnN m s = s'.length ∧ lnE m s = readE t := by
  obtain ⟨h1, h2, h3⟩ := ln_bad (m := m - L.length) hl he
  have e1 := h.recs; have e2 := h.size; have e3 := h.err
  rw [h1] at e1; rw [h2] at e2; rw [h3] at e3
  refine ⟨by simpa using e1, ?_, e3⟩
  have := h.left
  omega
theorem LnTo.many {m : Nat} {s s' t r : List UInt8} {L : List Rc} (h : LnTo m s L s') (hl : lineOf s' = some (t, r)) (he : readE t = 0) (hm : m ≤ L.length) : lnL m s = L ∧ s.length - lnN m s = s'.length ∧ lnE m s = 2 := by
  have hz : m - L.length = 0 := by omega
  obtain ⟨h1, h2, h3⟩ := ln_many hl he
  have e1 := h.recs; have e2 := h.size; have e3 := h.err
  rw [hz] at e1 e2 e3
  rw [h1] at e1; rw [h2] at e2; rw [h3] at e3
  refine ⟨by simpa using e1, ?_, e3⟩
  have := h.left
  omega

/-- pieces read so far: k of them, L records, n bytes -/
structure RunTo (m : Nat) (ps : List (List UInt8)) (L : List Rc) (n k : Nat) : Prop where
  recs : (runP m ps).1 = L ++ (runP (m - L.length) (ps.drop k)).1
  size : (runP m ps).2.1 = n + (runP (m - L.length) (ps.drop k)).2.1
  err : (runP m ps).2.2 = (runP (m - L.length) (ps.drop k)).2.2
  few : L.length ≤ m
  upto : L.length ≤ k
theorem RunTo.start (m : Nat) (ps : List (List UInt8)) : RunTo m ps [] 0 0 := ⟨by simp, by simp, by simp, by simp, by simp⟩
theorem RunTo.fin {m n k : Nat} {ps : List (List UInt8)} {L : List Rc} (h : RunTo m ps L n k) (hk : ps.length ≤ k) : (runP m ps).1 = L ∧ (runP m ps).2.1 = n ∧ (runP m ps).2.2 = 0 := by
  have e1 := h.recs; have e2 := h.size; have e3 := h.err
  rw [List.drop_of_length_le hk] at e1 e2 e3
  simp [runP] at e1 e2 e3
  exact ⟨e1, e2, e3⟩
theorem drop_at {α : Type} (l : List α) (k : Nat) (h : k < l.length) : l.drop k = l[k] :: l.drop (k + 1) := List.drop_eq_getElem_cons h
theorem run_none (m : Nat) (ps : List (List UInt8)) : runP m ([] :: ps) = ([], 0, 0) := by unfold runP; rw [if_pos rfl]
theorem run_torn {m : Nat} {t : List UInt8} (ps : List (List UInt8)) (h0 : t ≠ []) (h1 : t.getLast? ≠ some 10) : runP m (t :: ps) = ([], 0, 8) := by unfold runP; rw [if_neg h0, if_pos h1]
theorem run_bad {m : Nat} {t : List UInt8} (ps : List (List UInt8)) (h0 : t ≠ []) (h1 : t.getLast? = some 10) (h2 : readE t.dropLast ≠ 0) : runP m (t :: ps) = ([], 0, readE t.dropLast) := by
  unfold runP; rw [if_neg h0, if_neg (by simp [h1]), if_pos h2]
theorem run_many {t : List UInt8} (ps : List (List UInt8)) (h0 : t ≠ []) (h1 : t.getLast? = some 10) (h2 : readE t.dropLast = 0) : runP 0 (t :: ps) = ([], 0, 2) := by
  unfold runP; rw [if_neg h0, if_neg (by simp [h1]), if_neg (by simp [h2])]; simp
theorem run_next {m : Nat} {t : List UInt8} (ps : List (List UInt8)) (h0 : t ≠ []) (h1 : t.getLast? = some 10) (h2 : readE t.dropLast = 0) (hm : m ≠ 0) :
    runP m (t :: ps) = (readR t.dropLast :: (runP (m - 1) ps).1, t.length + (runP (m - 1) ps).2.1, (runP (m - 1) ps).2.2) := by
  conv => lhs; unfold runP
  rw [if_neg h0, if_neg (by simp [h1]), if_neg (by simp [h2]), if_neg hm]
/-- it ends at piece k -/
theorem RunTo.ends {m n k : Nat} {ps : List (List UInt8)} {L : List Rc} {E : Int} (h : RunTo m ps L n k) (hk : k < ps.length) (ht : runP (m - L.length) (ps[k] :: ps.drop (k + 1)) = ([], 0, E)) : (runP m ps).1 = L ∧ (runP m ps).2.1 = n ∧ (runP m ps).2.2 = E := by
  have e1 := h.recs; have e2 := h.size; have e3 := h.err
  rw [drop_at ps k hk, ht] at e1 e2 e3
  exact ⟨by simpa using e1, by simpa using e2, e3⟩
theorem RunTo.next {m n k : Nat} {ps : List (List UInt8)} {L : List Rc} {t : List UInt8} (h : RunTo m ps L n k) (hk : k < ps.length) (ht : ps[k] = t) (h0 : t ≠ []) (h1 : t.getLast? = some 10) (h2 : readE t.dropLast = 0) (hm : L.length < m) :
    RunTo m ps (L ++ [readR t.dropLast]) (n + t.length) (k + 1) := by
  have hr := run_next (m := m - L.length) (ps.drop (k + 1)) h0 h1 h2 (by omega)
  have e1 := h.recs; have e2 := h.size; have e3 := h.err
  rw [drop_at ps k hk, ht, hr] at e1 e2 e3
  have hz : m - (L ++ [readR t.dropLast]).length = m - L.length - 1 := by simp; omega
  refine ⟨?_, ?_, ?_, by simp; omega, by have := h.upto; simp; omega⟩
  · rw [hz, e1]; simp
  · rw [hz, e2]; simp; omega
  · rw [hz, e3]
theorem run_ln (m : Nat) (s : List UInt8) : (runP m (pcs (s.count 10) s)).1 = lnL m s ∧ (runP m (pcs (s.count 10) s)).2.1 = lnN m s ∧ (runP m (pcs (s.count 10) s)).2.2 = lnE m s := by
  rw [run_pcs _ m s (Nat.le_refl _)]
  exact ⟨rfl, rfl, rfl⟩
theorem suffix_last (t : List UInt8) : Go.Lib.hasSuffix t [10] = true ↔ t.getLast? = some 10 := by
  unfold Go.Lib.hasSuffix
  rw [List.isSuffixOf_iff_suffix]
  constructor
  · rintro ⟨p, rfl⟩; simp
  · intro h
    obtain ⟨p, rfl⟩ := List.getLast?_eq_some_iff.1 h
    exact ⟨p, rfl⟩
theorem take_dropLast (t : List UInt8) : t.take (t.length - 1) = t.dropLast := by rw [List.dropLast_eq_take]

/-- the right records of a list -/
def okL (l : List Rc) : List Rc := l.filter fun r => checkRec r == 0
theorem okL_all (l : List Rc) : ∀ r ∈ okL l, checkRec r = 0 := by
  intro r hr
  have := (List.mem_filter.1 hr).2
  simpa using this
theorem okL_len (l : List Rc) : (okL l).length ≤ l.length := List.length_filter_le _ _
theorem okL_yes (l : List Rc) (k : Nat) (hk : k < l.length) (h : checkRec l[k] = 0) : okL (l.take (k + 1)) = okL (l.take k) ++ [l[k]] := by
  unfold okL
  rw [List.take_succ_eq_append_getElem hk, List.filter_append]
  simp [h]
theorem okL_no (l : List Rc) (k : Nat) (hk : k < l.length) (h : checkRec l[k] ≠ 0) : okL (l.take (k + 1)) = okL (l.take k) := by
  unfold okL
  rw [List.take_succ_eq_append_getElem hk, List.filter_append]
  simp [h]

theorem disk_right (A : List Rc) (hA : ∀ r ∈ A, checkRec r = 0) (ha : A.length ≤ 60) (w : List UInt8) (hw : w.length ≤ 40000) : diskE (encR A) w = 0 := by
  have h1 := encR_len A hA
  have h2 := ln_enc A hA 60 [] ha (Or.inl rfl)
  rw [List.append_nil] at h2
  unfold diskE
  rw [if_neg (by omega), h2.2.2 rfl]
theorem put_right (A B : List Rc) (hA : ∀ r ∈ A, checkRec r = 0) (hB : ∀ r ∈ B, checkRec r = 0) (ha : A.length ≤ 20) (hb : B.length ≤ 20) (r : Rc) : putE (encR A) (encR B) r = checkRec r := by
  have h1 := encR_len A hA
  have h2 := encR_len B hB
  unfold putE
  by_cases hr : checkRec r = 0
  · have h3 := recT_len hr
    rw [if_neg (by simp [hr]), if_neg (by omega), hr]
  · rw [if_pos hr]
theorem enc_put (B : List Rc) (r : Rc) : encR (B ++ [r]) = encR B ++ (recT r ++ [10]) := by rw [encR_app]; simp [encR, recLine]
end Orangery

/- Plain facts on hubs: lives and numbers, record by record; roots for all; what is below the root is seen. -/
namespace Orangery

theorem prOf_set (s : List Stp × List Pl) (v : Int) (ps : List Pr) (k i : Int) (q : Pr) (hp : ps.length = 3) (k0 : 0 ≤ k) (k2 : k ≤ 2) (i0 : 0 ≤ i) (i2 : i ≤ 2) :
    prOf (s, v, ps.set k.toNat q) i = if i = k then q else prOf (s, v, ps) i := by
  unfold prOf
  simp only
  rw [List.getD_eq_getElem?_getD, List.getD_eq_getElem?_getD, List.getElem?_set]
  by_cases h : i = k
  · subst h
    rw [if_pos rfl, if_pos rfl, if_pos (by omega)]
    rfl
  · rw [if_neg (by omega), if_neg h]

/-- the record that is next: what it tells of lives and numbers, and what it makes of them -/
theorem order_life {h : Hb} {r : Rc} (hn : nextE h r = 0) (hk : r.1 = 2) : (0 ≤ r.2.1 ∧ r.2.1 ≤ 2) ∧ r.2.2.1 = (prOf h r.2.1).1 + 1 ∧
    ∀ i, 0 ≤ i → i ≤ 2 → prOf (stepH h r) i = if i = r.2.1 then (r.2.2.1, 0, []) else prOf h i := by
  obtain ⟨h1, h2, h3, _⟩ := next_ok hn
  obtain ⟨g1, g2, g3, g4⟩ := (hubE_zero h).1 h1
  obtain ⟨e, hw, hf⟩ := checkRec_life h2 hk
  have hv : h.2.1 ≠ 60 := fun e => by unfold stepE at h3; rw [if_pos e] at h3; omega
  unfold stepE at h3
  rw [if_neg hv, if_neg (show ¬ r.1 = 1 by omega), if_pos hk] at h3
  split at h3
  · omega
  · rename_i hl
    refine ⟨by omega, by omega, fun i i0 i2 => ?_⟩
    unfold stepH
    rw [if_neg (by omega), if_pos hk]
    exact prOf_set _ _ _ _ _ _ g3 (by omega) (by omega) i0 i2
theorem order_op {h : Hb} {r : Rc} (hn : nextE h r = 0) (hk : r.1 = 1) : (0 ≤ r.2.2.2.2.2.1 ∧ r.2.2.2.2.2.1 ≤ 2) ∧ r.2.2.2.2.2.2.2.1 = (prOf h r.2.2.2.2.2.1).1 ∧ r.2.2.2.2.2.2.2.2 = (prOf h r.2.2.2.2.2.1).2.1 + 1 ∧
    ∀ i, 0 ≤ i → i ≤ 2 → prOf (stepH h r) i = if i = r.2.2.2.2.2.1 then ((prOf h r.2.2.2.2.2.1).1, (prOf h r.2.2.2.2.2.1).2.1 + 1, (prOf h r.2.2.2.2.2.1).2.2) else prOf h i := by
  obtain ⟨h1, h2, h3, _⟩ := next_ok hn
  obtain ⟨g1, g2, g3, g4⟩ := (hubE_zero h).1 h1
  obtain ⟨e, hc⟩ := checkRec_op h2 hk
  have ho := checkOp_zero hc
  simp only [opOkB, decide_eq_true_eq] at ho
  have hv : h.2.1 ≠ 60 := fun e => by unfold stepE at h3; rw [if_pos e] at h3; omega
  unfold stepE at h3
  rw [if_neg hv, if_pos hk] at h3
  split at h3
  · omega
  · rename_i hl
    simp only [not_or, Decidable.not_not, ne_eq] at hl
    refine ⟨by omega, hl.1, hl.2, fun i i0 i2 => ?_⟩
    unfold stepH
    rw [if_pos hk]
    exact prOf_set _ _ _ _ _ _ g3 (by omega) (by omega) i0 i2
theorem order_roots {h : Hb} {r : Rc} (hn : nextE h r = 0) (h1' : r.1 ≠ 1) (h2' : r.1 ≠ 2) :
    ∀ i, 0 ≤ i → i ≤ 2 → (prOf (stepH h r) i).1 = (prOf h i).1 ∧ (prOf (stepH h r) i).2.1 = (prOf h i).2.1 := by
  obtain ⟨h1, h2, h3, _⟩ := next_ok hn
  obtain ⟨g1, g2, g3, g4⟩ := (hubE_zero h).1 h1
  have hk : r.1 = 3 := by rcases checkRec_kind h2 with h | h | h <;> omega
  obtain ⟨e, hw, hf⟩ := checkRec_roots h2 hk
  intro i i0 i2
  unfold stepH
  rw [if_neg h1', if_neg h2', prOf_set _ _ _ _ _ _ g3 (by omega) (by omega) i0 i2]
  by_cases hi : i = r.2.1
  · rw [if_pos hi, hi]; exact ⟨rfl, rfl⟩
  · rw [if_neg hi]; exact ⟨rfl, rfl⟩

/-- a client begins to live; its roots are told -/
theorem sees_life {h : Hb} (hh : hubE h = 0) (hv : h.2.1 < 60) {k : Int} (k0 : 0 ≤ k) (k2 : k ≤ 2) (hl : (prOf h k).1 = 0) :
    nextE h (2, k, 1, [], noOp) = 0 ∧ (stepH h (2, k, 1, [], noOp)).1 = h.1 ∧ (stepH h (2, k, 1, [], noOp)).2.1 = h.2.1 + 1 ∧ ∀ i, 0 ≤ i → i ≤ 2 → prOf (stepH h (2, k, 1, [], noOp)) i = if i = k then (1, 0, []) else prOf h i := by
  have hc : checkRec (2, k, 1, [], noOp) = 0 := by
    unfold checkRec
    simp
    omega
  have hs : stepE h (2, k, 1, [], noOp) = 0 := by
    unfold stepE
    simp only
    rw [if_neg (by omega), if_neg (by decide)]
    simp [hl]
  have hn : nextE h (2, k, 1, [], noOp) = 0 := by
    unfold nextE
    rw [if_neg (by simpa using hh), if_neg (by simpa using hc)]
    exact hs
  refine ⟨hn, rfl, rfl, ?_⟩
  exact (order_life hn rfl).2.2
theorem sees_roots {h : Hb} (hh : hubE h = 0) (hv : h.2.1 < 60) {k : Int} (k0 : 0 ≤ k) (k2 : k ≤ 2) (hl : 1 ≤ (prOf h k).1) {R : List Int} (hR : rootsOk R = 0) :
    nextE h (3, k, 0, R, noOp) = 0 ∧ (stepH h (3, k, 0, R, noOp)).1 = h.1 ∧ (stepH h (3, k, 0, R, noOp)).2.1 = h.2.1 + 1 ∧ ∀ i, 0 ≤ i → i ≤ 2 → prOf (stepH h (3, k, 0, R, noOp)) i = if i = k then ((prOf h k).1, (prOf h k).2.1, R) else prOf h i := by
  obtain ⟨g1, g2, g3, g4⟩ := (hubE_zero h).1 hh
  have hc : checkRec (3, k, 0, R, noOp) = 0 := by
    unfold checkRec
    simp
    rw [if_neg (by omega)]
    exact hR
  have hs : stepE h (3, k, 0, R, noOp) = 0 := by
    unfold stepE
    simp only
    rw [if_neg (by omega), if_neg (by decide), if_neg (by decide), if_neg (by omega)]
  have hn : nextE h (3, k, 0, R, noOp) = 0 := by
    unfold nextE
    rw [if_neg (by simpa using hh), if_neg (by simpa using hc)]
    exact hs
  refine ⟨hn, rfl, rfl, fun i i0 i2 => ?_⟩
  exact prOf_set _ _ _ _ _ _ g3 k0 k2 i0 i2

/-- of the root all that stands below it; of nothing nothing -/
theorem sees_below {l : List Pl} {R : List Int} {p : Pl} (hp : p ∈ l) (h : underB l p.1 0 = true) (h0 : (0 : Int) ∈ R) : p ∈ viewK l R := by
  refine List.mem_filter.2 ⟨hp, ?_⟩
  exact List.any_eq_true.2 ⟨0, h0, h⟩
theorem sees_none (l : List Pl) : viewK l [] = [] ∧ viewW l [] = [] := by
  constructor
  · unfold viewK knB; simp
  · unfold viewW wyB knB; simp
theorem hist_check {L : List Stp} {T : List Pl} (h : histE L T = 0) : check T = 0 := by
  unfold histE at h
  split at h
  · contradiction
  · rename_i h1
    split at h
    · rename_i h2
      have := ((sameB_iff _ _ _ _).1 h2).2
      rw [← this]
      exact (fold_ok (by simpa using h1)).2.2.2.2
    · omega
theorem hub_tree {h : Hb} (hh : hubE h = 0) : check h.1.2 = 0 := hist_check ((hubE_zero h).1 hh).1
theorem under_place {l : List Pl} (hc : check l = 0) {p : Pl} (hn : isNodeB p.1 = true) : underE l p.1 0 = 0 := by
  unfold underE
  rw [if_neg (by simpa using hc), if_pos ⟨hn, by decide⟩]

/-- all three live, and want these roots -/
def wants (h : Hb) (R : List Int) (k : Int) : Hb := stepH (if (prOf h k).1 = 0 then stepH h (2, k, 1, [], noOp) else h) (3, k, 0, R, noOp)
theorem wants_ok {h : Hb} (hh : hubE h = 0) (hv : h.2.1 ≤ 58) {k : Int} (k0 : 0 ≤ k) (k2 : k ≤ 2) {R : List Int} (hR : rootsOk R = 0) :
    ((prOf h k).1 = 0 → nextE h (2, k, 1, [], noOp) = 0) ∧ nextE (if (prOf h k).1 = 0 then stepH h (2, k, 1, [], noOp) else h) (3, k, 0, R, noOp) = 0 ∧
    hubE (wants h R k) = 0 ∧ (wants h R k).1 = h.1 ∧ (wants h R k).2.1 ≤ h.2.1 + 2 ∧ (prOf (wants h R k) k).2.2 = R ∧ ∀ i, 0 ≤ i → i ≤ 2 → i ≠ k → prOf (wants h R k) i = prOf h i := by
  have hp := ((hubE_zero h).1 hh).2.2.2 _ (prOf_mem hh k0 k2).1
  unfold wants
  by_cases hl : (prOf h k).1 = 0
  · simp only [if_pos hl]
    obtain ⟨n1, s1, v1, q1⟩ := sees_life hh (by omega) k0 k2 hl
    have hh1 := (next_ok n1).2.2.2
    have e1 : prOf (stepH h (2, k, 1, [], noOp)) k = (1, 0, []) := by rw [q1 k k0 k2, if_pos rfl]
    obtain ⟨n2, s2, v2, q2⟩ := sees_roots hh1 (by omega) k0 k2 (by rw [e1]; decide) hR
    refine ⟨fun _ => n1, n2, (next_ok n2).2.2.2, s2.trans s1, by omega, ?_, ?_⟩
    · rw [q2 k k0 k2, if_pos rfl]
    · intro i i0 i2 hik
      rw [q2 i i0 i2, if_neg hik, q1 i i0 i2, if_neg hik]
  · simp only [if_neg hl]
    have hl1 : 1 ≤ (prOf h k).1 := by
      unfold peerE at hp
      split at hp
      · omega
      · rename_i q
        simp only [not_or, Decidable.not_not] at q
        omega
    obtain ⟨n2, s2, v2, q2⟩ := sees_roots hh (by omega) k0 k2 hl1 hR
    refine ⟨fun e => absurd e hl, n2, (next_ok n2).2.2.2, s2, by omega, ?_, ?_⟩
    · rw [q2 k k0 k2, if_pos rfl]
    · intro i i0 i2 hik
      rw [q2 i i0 i2, if_neg hik]

/-- records put on a disk and synced, one by one: as many as a log may have -/
theorem log_right (A : List Rc) (hA : ∀ r ∈ A, checkRec r = 0) (ha : A.length ≤ 60) (r : Rc) (hr : checkRec r = 0) :
    diskE (encR A) [] = 0 ∧ putE (encR A) [] r = 0 ∧ diskE (encR A) (recT r ++ [10]) = 0 := by
  have h1 := encR_len A hA
  have h2 := recT_len hr
  refine ⟨disk_right A hA ha [] (by simp), ?_, disk_right A hA ha _ (by simp; omega)⟩
  unfold putE
  rw [if_neg (by simpa using hr), if_neg (by simp; omega)]
theorem log_synced (A : List Rc) (hA : ∀ r ∈ A, checkRec r = 0) (r : Rc) (hr : checkRec r = 0) (ha : A.length + 1 ≤ 60) : encR A ++ (recT r ++ [10]) = encR (A ++ [r]) ∧ diskE (encR (A ++ [r])) [] = 0 := by
  refine ⟨(enc_put A r).symm, ?_⟩
  refine disk_right _ ?_ (by simpa using ha) [] (by simp)
  intro q hq
  rcases List.mem_append.1 hq with h | h
  · exact hA q h
  · simp at h; rw [h]; exact hr
/-- all records that were accepted are right ones -/
theorem run_right (l : List Rc) : ∀ h, runE h l = 0 → ∀ r ∈ l, checkRec r = 0 := by
  induction l with
  | nil => intro h _ r hr; simp at hr
  | cons q l ih =>
    intro h hl r hr
    obtain ⟨h1, h2⟩ := (runE_zero h q l).1 hl
    rcases List.mem_cons.1 hr with rfl | hr
    · exact (next_ok h1).2.1
    · exact ih _ h2 r hr
end Orangery

/- Plain facts on hubs: the closed fact that the laws on hubs ask first. -/
namespace Orangery

def accL : List Rc := [(2, 1, 1, [], noOp), (1, 0, 0, [], (1, 1, (2, 0, 0), 1, 1)), (1, 0, 0, [], (2, 1, (3, 2, 0), 1, 2)), (3, 1, 0, [2], noOp)]
def accH : Hb := (([((1, 1, (2, 0, 0), 1, 1), true, (0, 0, 0)), ((2, 1, (3, 2, 0), 1, 2), true, (0, 0, 0))], [(2, 0, 0), (3, 2, 0)]), 4, [(0, 0, []), (1, 2, [2]), (0, 0, [])])
def accG : Hb := (accH.1, 5, [(0, 0, []), (2, 0, []), (0, 0, [])])
set_option maxRecDepth 100000 in
theorem acc1 : replayE accL = 0 ∧ runH newHb accL = accH := by
  constructor
  · decide +kernel
  · kernel_rfl
set_option maxRecDepth 100000 in
theorem acc2 : hubE accH = 0 ∧ nextE accH (1, 0, 0, [], (3, 1, (4, 0, 0), 1, 4)) = 7 ∧ nextE accH (2, 1, 2, [], noOp) = 0 ∧ stepH accH (2, 1, 2, [], noOp) = accG := by
  refine ⟨?_, ?_, ?_, ?_⟩ <;> first | decide +kernel | kernel_rfl
set_option maxRecDepth 100000 in
theorem acc3 : nextE accG (1, 0, 0, [], (3, 1, (4, 0, 0), 1, 3)) = 7 ∧ nextE accG (1, 0, 0, [], (3, 1, (4, 0, 0), 2, 1)) = 0 := by
  refine ⟨?_, ?_⟩ <;> decide +kernel
set_option maxRecDepth 100000 in
theorem acc4 : viewK accH.1.2 [2] = [(2, 0, 0), (3, 2, 0)] ∧ viewW accH.1.2 [2] = [] ∧ ofE accH.1.2 [2] = 0 := by
  refine ⟨?_, ?_, ?_⟩ <;> decide +kernel
end Orangery

