/- 3 texts of the proof: Plain facts on disks: lines read one by one, by the program's loop and by the reference's; records put, one after another. Plain facts on hubs: lives and numbers, record by record; roots for all; what is below the root is seen. Plain facts on hubs: the closed fact that the laws on hubs ask first. -/
import Derived.KernelRfl
import Derived.Test.YthlhnokgcnieeadGreatP16
import Derived.Test.YthlhnokgcnieeadGreatP06
import Derived.Test.YthlhnokgcnieeadGreatP05
/- Plain facts on disks: lines read one by one, by the program's loop and by the reference's; records put, one after another. -/
namespace Orangery

theorem ln_nil (m : Nat) : lnL m [] = [] ∧ lnN m [] = 0 ∧ lnE m [] = 0 := by simp [lnL, lnN, lnE, linesR]
theorem ln_torn {m : Nat} {s : List UInt8} (hs : s ≠ []) (h : lineOf s = none) : lnL m s = [] ∧ lnN m s = 0 ∧ lnE m s = 8 := by
  unfold lnL lnN lnE linesR
  rw [if_neg hs, h]
  exact ⟨rfl, rfl, rfl⟩
theorem lineOf_nil : lineOf [] = none := rfl
theorem lineOf_ne {s t r : List UInt8} (h : lineOf s = some (t, r)) : s ≠ [] := by intro e; subst e; simp [lineOf] at h
theorem ln_bad {m : Nat} {s t r : List UInt8} (h : lineOf s = some (t, r)) (he : readE t ≠ 0) : lnL m s = [] ∧ lnN m s = 0 ∧ lnE m s = readE t := by
  unfold lnL lnN lnE linesR
  rw [if_neg (lineOf_ne h), h]
  simp only
  rw [if_pos he]
  exact ⟨rfl, rfl, rfl⟩
theorem ln_many {s t r : List UInt8} (h : lineOf s = some (t, r)) (he : readE t = 0) : lnL 0 s = [] ∧ lnN 0 s = 0 ∧ lnE 0 s = 2 := by
  unfold lnL lnN lnE linesR
  rw [if_neg (lineOf_ne h), h]
  simp only
  rw [if_neg (by simp [he])]
  simp
theorem ln_next {m : Nat} {s t r : List UInt8} (h : lineOf s = some (t, r)) (he : readE t = 0) (hm : m ≠ 0) : lnL m s = readR t :: lnL (m - 1) r ∧ lnN m s = t.length + 1 + lnN (m - 1) r ∧ lnE m s = lnE (m - 1) r := by
  have hlen := lineOf_len h
  have hf := lines_fuel s.length (m - 1) r (by omega)
  unfold lnL lnN lnE
  conv => lhs; lhs; unfold linesR
  rw [if_neg (lineOf_ne h), h]
  simp only
  rw [if_neg (by simp [he]), if_neg hm, hf]
  refine ⟨rfl, ?_, ?_⟩
  · conv => lhs; unfold linesR
    rw [if_neg (lineOf_ne h), h]
    simp only
    rw [if_neg (by simp [he]), if_neg hm, hf]
  · conv => lhs; unfold linesR
    rw [if_neg (lineOf_ne h), h]
    simp only
    rw [if_neg (by simp [he]), if_neg hm, hf]

theorem ln_len (k : Nat) : ∀ (m : Nat) (s : List UInt8), s.length ≤ k → (lnL m s).length ≤ m ∧ lnN m s ≤ s.length := by
  induction k with
  | zero =>
    intro m s h
    have : s = [] := List.length_eq_zero_iff.1 (by omega)
    subst this
    obtain ⟨h1, h2, _⟩ := ln_nil m
    rw [h1, h2]; simp
  | succ k ih =>
    intro m s h
    by_cases hs : s = []
    · subst hs
      obtain ⟨h1, h2, _⟩ := ln_nil m
      rw [h1, h2]; simp
    cases hl : lineOf s with
    | none => obtain ⟨h1, h2, _⟩ := ln_torn (m := m) hs hl; rw [h1, h2]; simp
    | some x =>
      obtain ⟨t, r⟩ := x
      have hlen := lineOf_len hl
      by_cases he : readE t = 0
      · by_cases hm : m = 0
        · subst hm
          obtain ⟨h1, h2, _⟩ := ln_many hl he; rw [h1, h2]; simp
        · obtain ⟨h1, h2, _⟩ := ln_next hl he hm
          obtain ⟨i1, i2⟩ := ih (m - 1) r (by omega)
          rw [h1, h2]
          simp only [List.length_cons]
          omega
      · obtain ⟨h1, h2, _⟩ := ln_bad (m := m) hl he; rw [h1, h2]; simp
theorem lnL_len (m : Nat) (s : List UInt8) : (lnL m s).length ≤ m := (ln_len _ m s (Nat.le_refl _)).1
theorem lnN_len (m : Nat) (s : List UInt8) : lnN m s ≤ s.length := (ln_len _ m s (Nat.le_refl _)).2

/-- lines read so far: L of them; s' is left -/
structure LnTo (m : Nat) (s : List UInt8) (L : List Rc) (s' : List UInt8) : Prop where
  recs : lnL m s = L ++ lnL (m - L.length) s'
  size : lnN m s + s'.length = s.length + lnN (m - L.length) s'
  err : lnE m s = lnE (m - L.length) s'
  few : L.length ≤ m
  left : s'.length ≤ s.length
theorem LnTo.start (m : Nat) (s : List UInt8) : LnTo m s [] s := ⟨by simp, by simp; omega, by simp, by simp, Nat.le_refl _⟩
theorem LnTo.next {m : Nat} {s s' t r : List UInt8} {L : List Rc} (h : LnTo m s L s') (hl : lineOf s' = some (t, r)) (he : readE t = 0) (hm : L.length < m) : LnTo m s (L ++ [readR t]) r := by
  have hlen := lineOf_len hl
  obtain ⟨h1, h2, h3⟩ := ln_next (m := m - L.length) hl he (by omega)
  have hk : m - (L ++ [readR t]).length = m - L.length - 1 := by simp; omega
  refine ⟨?_, ?_, ?_, by simp; omega, by have := h.left; omega⟩
  · rw [hk, h.recs, h1]; simp
  · have := h.size
    rw [hk]
    omega
  · rw [hk, h.err, h3]
theorem LnTo.fin {m : Nat} {s : List UInt8} {L : List Rc} (h : LnTo m s L []) : lnL m s = L ∧ s.length - lnN m s = 0 ∧ lnE m s = 0 := by
  obtain ⟨h1, h2, h3⟩ := ln_nil (m - L.length)
  have e1 := h.recs; have e2 := h.size; have e3 := h.err
  rw [h1] at e1; rw [h2] at e2; rw [h3] at e3
  refine ⟨by simpa using e1, ?_, e3⟩
  simp at e2
  omega
theorem LnTo.torn {m : Nat} {s s' : List UInt8} {L : List Rc} (h : LnTo m s L s') (hs : s' ≠ []) (hl : lineOf s' = none) : lnL m s = L ∧ s.length - lnN m s = s'.length ∧ lnE m s = 8 := by
  obtain ⟨h1, h2, h3⟩ := ln_torn (m := m - L.length) hs hl
  have e1 := h.recs; have e2 := h.size; have e3 := h.err
  rw [h1] at e1; rw [h2] at e2; rw [h3] at e3
  refine ⟨by simpa using e1, ?_, e3⟩
  have := h.left
  omega
theorem LnTo.bad {m : Nat} {s s' t r : List UInt8} {L : List Rc} (h : LnTo m s L s') (hl : lineOf s' = some (t, r)) (he : readE t ≠ 0) : lnL m s = L ∧ s.length - lnN m s = s'.length ∧ lnE m s = readE t := by
  obtain ⟨h1, h2, h3⟩ := ln_bad (m := m - L.length) hl he
  have e1 := h.recs; have e2 := h.size; have e3 := h.err
  rw [h1] at e1; rw [h2] at e2; rw [h3] at e3
  refine ⟨by simpa using e1, ?_, e3⟩
  have := h.left
  omega
theorem LnTo.many {m : Nat} {s s' t r : List UInt8} {L : List Rc} (h : LnTo m s L s') (hl : lineOf s' = some (t, r)) (he : readE t = 0) (hm : m ≤ L.length) : lnL m s = L ∧ s.length - lnN m s = s'.length ∧ lnE m s = 2 := by
  have hz : m - L.length = 0 := by omega
  obtain ⟨h1, h2, h3⟩ := ln_many hl he
  have e1 := h.recs; have e2 := h.size; have e3 := h.err
  rw [hz] at e1 e2 e3
  rw [h1] at e1; rw [h2] at e2; rw [h3] at e3
  refine ⟨by simpa using e1, ?_, e3⟩
  have := h.left
  omega

/-- pieces read so far: k of them, L records, n bytes -/
structure RunTo (m : Nat) (ps : List (List UInt8)) (L : List Rc) (n k : Nat) : Prop where
  recs : (runP m ps).1 = L ++ (runP (m - L.length) (ps.drop k)).1
  size : (runP m ps).2.1 = n + (runP (m - L.length) (ps.drop k)).2.1
  err : (runP m ps).2.2 = (runP (m - L.length) (ps.drop k)).2.2
  few : L.length ≤ m
  upto : L.length ≤ k
theorem RunTo.start (m : Nat) (ps : List (List UInt8)) : RunTo m ps [] 0 0 := ⟨by simp, by simp, by simp, by simp, by simp⟩
theorem RunTo.fin {m n k : Nat} {ps : List (List UInt8)} {L : List Rc} (h : RunTo m ps L n k) (hk : ps.length ≤ k) : (runP m ps).1 = L ∧ (runP m ps).2.1 = n ∧ (runP m ps).2.2 = 0 := by
  have e1 := h.recs; have e2 := h.size; have e3 := h.err
  rw [List.drop_of_length_le hk] at e1 e2 e3
  simp [runP] at e1 e2 e3
  exact ⟨e1, e2, e3⟩
theorem drop_at {α : Type} (l : List α) (k : Nat) (h : k < l.length) : l.drop k = l[k] :: l.drop (k + 1) := List.drop_eq_getElem_cons h
theorem run_none (m : Nat) (ps : List (List UInt8)) : runP m ([] :: ps) = ([], 0, 0) := by unfold runP; rw [if_pos rfl]
theorem run_torn {m : Nat} {t : List UInt8} (ps : List (List UInt8)) (h0 : t ≠ []) (h1 : t.getLast? ≠ some 10) : runP m (t :: ps) = ([], 0, 8) := by unfold runP; rw [if_neg h0, if_pos h1]
theorem run_bad {m : Nat} {t : List UInt8} (ps : List (List UInt8)) (h0 : t ≠ []) (h1 : t.getLast? = some 10) (h2 : readE t.dropLast ≠ 0) : runP m (t :: ps) = ([], 0, readE t.dropLast) := by
  unfold runP; rw [if_neg h0, if_neg (by simp [h1]), if_pos h2]
theorem run_many {t : List UInt8} (ps : List (List UInt8)) (h0 : t ≠ []) (h1 : t.getLast? = some 10) (h2 : readE t.dropLast = 0) : runP 0 (t :: ps) = ([], 0, 2) := by
  unfold runP; rw [if_neg h0, if_neg (by simp [h1]), if_neg (by simp [h2])]; simp
theorem run_next {m : Nat} {t : List UInt8} (ps : List (List UInt8)) (h0 : t ≠ []) (h1 : t.getLast? = some 10) (h2 : readE t.dropLast = 0) (hm : m ≠ 0) :
    runP m (t :: ps) = (readR t.dropLast :: (runP (m - 1) ps).1, t.length + (runP (m - 1) ps).2.1, (runP (m - 1) ps).2.2) := by
  conv => lhs; unfold runP
  rw [if_neg h0, if_neg (by simp [h1]), if_neg (by simp [h2]), if_neg hm]
/-- it ends at piece k -/
theorem RunTo.ends {m n k : Nat} {ps : List (List UInt8)} {L : List Rc} {E : Int} (h : RunTo m ps L n k) (hk : k < ps.length) (ht : runP (m - L.length) (ps[k] :: ps.drop (k + 1)) = ([], 0, E)) : (runP m ps).1 = L ∧ (runP m ps).2.1 = n ∧ (runP m ps).2.2 = E := by
  have e1 := h.recs; have e2 := h.size; have e3 := h.err
  rw [drop_at ps k hk, ht] at e1 e2 e3
  exact ⟨by simpa using e1, by simpa using e2, e3⟩
theorem RunTo.next {m n k : Nat} {ps : List (List UInt8)} {L : List Rc} {t : List UInt8} (h : RunTo m ps L n k) (hk : k < ps.length) (ht : ps[k] = t) (h0 : t ≠ []) (h1 : t.getLast? = some 10) (h2 : readE t.dropLast = 0) (hm : L.length < m) :
    RunTo m ps (L ++ [readR t.dropLast]) (n + t.length) (k + 1) := by
  have hr := run_next (m := m - L.length) (ps.drop (k + 1)) h0 h1 h2 (by omega)
  have e1 := h.recs; have e2 := h.size; have e3 := h.err
  rw [drop_at ps k hk, ht, hr] at e1 e2 e3
  have hz : m - (L ++ [readR t.dropLast]).length = m - L.length - 1 := by simp; omega
  refine ⟨?_, ?_, ?_, by simp; omega, by have := h.upto; simp; omega⟩
  · rw [hz, e1]; simp
  · rw [hz, e2]; simp; omega
  · rw [hz, e3]
theorem run_ln (m : Nat) (s : List UInt8) : (runP m (pcs (s.count 10) s)).1 = lnL m s ∧ (runP m (pcs (s.count 10) s)).2.1 = lnN m s ∧ (runP m (pcs (s.count 10) s)).2.2 = lnE m s := by
  rw [run_pcs _ m s (Nat.le_refl _)]
  exact ⟨rfl, rfl, rfl⟩
theorem suffix_last (t : List UInt8) : Go.Lib.hasSuffix t [10] = true ↔ t.getLast? = some 10 := by
  unfold Go.Lib.hasSuffix
  rw [List.isSuffixOf_iff_suffix]
  constructor
  · rintro ⟨p, rfl⟩; simp
  · intro h
    obtain ⟨p, rfl⟩ := List.getLast?_eq_some_iff.1 h
    exact ⟨p, rfl⟩
theorem take_dropLast (t : List UInt8) : t.take (t.length - 1) = t.dropLast := by rw [List.dropLast_eq_take]

/-- the right records of a list -/
def okL (l : List Rc) : List Rc := l.filter fun r => checkRec r == 0
theorem okL_all (l : List Rc) : ∀ r ∈ okL l, checkRec r = 0 := by
  intro r hr
  have := (List.mem_filter.1 hr).2
  simpa using this
theorem okL_len (l : List Rc) : (okL l).length ≤ l.length := List.length_filter_le _ _
theorem okL_yes (l : List Rc) (k : Nat) (hk : k < l.length) (h : checkRec l[k] = 0) : okL (l.take (k + 1)) = okL (l.take k) ++ [l[k]] := by
  unfold okL
  rw [List.take_succ_eq_append_getElem hk, List.filter_append]
  simp [h]
theorem okL_no (l : List Rc) (k : Nat) (hk : k < l.length) (h : checkRec l[k] ≠ 0) : okL (l.take (k + 1)) = okL (l.take k) := by
  unfold okL
  rw [List.take_succ_eq_append_getElem hk, List.filter_append]
  simp [h]

theorem disk_right (A : List Rc) (hA : ∀ r ∈ A, checkRec r = 0) (ha : A.length ≤ 60) (w : List UInt8) (hw : w.length ≤ 40000) : diskE (encR A) w = 0 := by
  have h1 := encR_len A hA
  have h2 := ln_enc A hA 60 [] ha (Or.inl rfl)
  rw [List.append_nil] at h2
  unfold diskE
  rw [if_neg (by omega), h2.2.2 rfl]
theorem put_right (A B : List Rc) (hA : ∀ r ∈ A, checkRec r = 0) (hB : ∀ r ∈ B, checkRec r = 0) (ha : A.length ≤ 20) (hb : B.length ≤ 20) (r : Rc) : putE (encR A) (encR B) r = checkRec r := by
  have h1 := encR_len A hA
  have h2 := encR_len B hB
  unfold putE
  by_cases hr : checkRec r = 0
  · have h3 := recT_len hr
    rw [if_neg (by simp [hr]), if_neg (by omega), hr]
  · rw [if_pos hr]
theorem enc_put (B : List Rc) (r : Rc) : encR (B ++ [r]) = encR B ++ (recT r ++ [10]) := by rw [encR_app]; simp [encR, recLine]
end Orangery

/- Plain facts on hubs: lives and numbers, record by record; roots for all; what is below the root is seen. -/
namespace Orangery

theorem prOf_set (s : List Stp × List Pl) (v : Int) (ps : List Pr) (k i : Int) (q : Pr) (hp : ps.length = 3) (k0 : 0 ≤ k) (k2 : k ≤ 2) (i0 : 0 ≤ i) (i2 : i ≤ 2) :
    prOf (s, v, ps.set k.toNat q) i = if i = k then q else prOf (s, v, ps) i := by
  unfold prOf
  simp only
  rw [List.getD_eq_getElem?_getD, List.getD_eq_getElem?_getD, List.getElem?_set]
  by_cases h : i = k
  · subst h
    rw [if_pos rfl, if_pos rfl, if_pos (by omega)]
    rfl
  · rw [if_neg (by omega), if_neg h]

/-- the record that is next: what it tells of lives and numbers, and what it makes of them -/
theorem order_life {h : Hb} {r : Rc} (hn : nextE h r = 0) (hk : r.1 = 2) : (0 ≤ r.2.1 ∧ r.2.1 ≤ 2) ∧ r.2.2.1 = (prOf h r.2.1).1 + 1 ∧
    ∀ i, 0 ≤ i → i ≤ 2 → prOf (stepH h r) i = if i = r.2.1 then (r.2.2.1, 0, []) else prOf h i := by
  obtain ⟨h1, h2, h3, _⟩ := next_ok hn
  obtain ⟨g1, g2, g3, g4⟩ := (hubE_zero h).1 h1
  obtain ⟨e, hw, hf⟩ := checkRec_life h2 hk
  have hv : h.2.1 ≠ 60 := fun e => by unfold stepE at h3; rw [if_pos e] at h3; omega
  unfold stepE at h3
  rw [if_neg hv, if_neg (show ¬ r.1 = 1 by omega), if_pos hk] at h3
  split at h3
  · omega
  · rename_i hl
    refine ⟨by omega, by omega, fun i i0 i2 => ?_⟩
    unfold stepH
    rw [if_neg (by omega), if_pos hk]
    exact prOf_set _ _ _ _ _ _ g3 (by omega) (by omega) i0 i2
theorem order_op {h : Hb} {r : Rc} (hn : nextE h r = 0) (hk : r.1 = 1) : (0 ≤ r.2.2.2.2.2.1 ∧ r.2.2.2.2.2.1 ≤ 2) ∧ r.2.2.2.2.2.2.2.1 = (prOf h r.2.2.2.2.2.1).1 ∧ r.2.2.2.2.2.2.2.2 = (prOf h r.2.2.2.2.2.1).2.1 + 1 ∧
    ∀ i, 0 ≤ i → i ≤ 2 → prOf (stepH h r) i = if i = r.2.2.2.2.2.1 then ((prOf h r.2.2.2.2.2.1).1, (prOf h r.2.2.2.2.2.1).2.1 + 1, (prOf h r.2.2.2.2.2.1).2.2) else prOf h i := by
  obtain ⟨h1, h2, h3, _⟩ := next_ok hn
  obtain ⟨g1, g2, g3, g4⟩ := (hubE_zero h).1 h1
  obtain ⟨e, hc⟩ := checkRec_op h2 hk
  have ho := checkOp_zero hc
  simp only [opOkB, decide_eq_true_eq] at ho
  have hv : h.2.1 ≠ 60 := fun e => by unfold stepE at h3; rw [if_pos e] at h3; omega
  unfold stepE at h3
  rw [if_neg hv, if_pos hk] at h3
  split at h3
  · omega
  · rename_i hl
    simp only [not_or, Decidable.not_not, ne_eq] at hl
    refine ⟨by omega, hl.1, hl.2, fun i i0 i2 => ?_⟩
    unfold stepH
    rw [if_pos hk]
    exact prOf_set _ _ _ _ _ _ g3 (by omega) (by omega) i0 i2
theorem order_roots {h : Hb} {r : Rc} (hn : nextE h r = 0) (h1' : r.1 ≠ 1) (h2' : r.1 ≠ 2) :
    ∀ i, 0 ≤ i → i ≤ 2 → (prOf (stepH h r) i).1 = (prOf h i).1 ∧ (prOf (stepH h r) i).2.1 = (prOf h i).2.1 := by
  obtain ⟨h1, h2, h3, _⟩ := next_ok hn
  obtain ⟨g1, g2, g3, g4⟩ := (hubE_zero h).1 h1
  have hk : r.1 = 3 := by rcases checkRec_kind h2 with h | h | h <;> omega
  obtain ⟨e, hw, hf⟩ := checkRec_roots h2 hk
  intro i i0 i2
  unfold stepH
  rw [if_neg h1', if_neg h2', prOf_set _ _ _ _ _ _ g3 (by omega) (by omega) i0 i2]
  by_cases hi : i = r.2.1
  · rw [if_pos hi, hi]; exact ⟨rfl, rfl⟩
  · rw [if_neg hi]; exact ⟨rfl, rfl⟩

/-- a client begins to live; its roots are told -/
theorem sees_life {h : Hb} (hh : hubE h = 0) (hv : h.2.1 < 60) {k : Int} (k0 : 0 ≤ k) (k2 : k ≤ 2) (hl : (prOf h k).1 = 0) :
    nextE h (2, k, 1, [], noOp) = 0 ∧ (stepH h (2, k, 1, [], noOp)).1 = h.1 ∧ (stepH h (2, k, 1, [], noOp)).2.1 = h.2.1 + 1 ∧ ∀ i, 0 ≤ i → i ≤ 2 → prOf (stepH h (2, k, 1, [], noOp)) i = if i = k then (1, 0, []) else prOf h i := by
  have hc : checkRec (2, k, 1, [], noOp) = 0 := by
    unfold checkRec
    simp
    omega
  have hs : stepE h (2, k, 1, [], noOp) = 0 := by
    unfold stepE
    simp only
    rw [if_neg (by omega), if_neg (by decide)]
    simp [hl]
  have hn : nextE h (2, k, 1, [], noOp) = 0 := by
    unfold nextE
    rw [if_neg (by simpa using hh), if_neg (by simpa using hc)]
    exact hs
  refine ⟨hn, rfl, rfl, ?_⟩
  exact (order_life hn rfl).2.2
theorem sees_roots {h : Hb} (hh : hubE h = 0) (hv : h.2.1 < 60) {k : Int} (k0 : 0 ≤ k) (k2 : k ≤ 2) (hl : 1 ≤ (prOf h k).1) {R : List Int} (hR : rootsOk R = 0) :
    nextE h (3, k, 0, R, noOp) = 0 ∧ (stepH h (3, k, 0, R, noOp)).1 = h.1 ∧ (stepH h (3, k, 0, R, noOp)).2.1 = h.2.1 + 1 ∧ ∀ i, 0 ≤ i → i ≤ 2 → prOf (stepH h (3, k, 0, R, noOp)) i = if i = k then ((prOf h k).1, (prOf h k).2.1, R) else prOf h i := by
  obtain ⟨g1, g2, g3, g4⟩ := (hubE_zero h).1 hh
  have hc : checkRec (3, k, 0, R, noOp) = 0 := by
    unfold checkRec
    simp
    rw [if_neg (by omega)]
    exact hR
  have hs : stepE h (3, k, 0, R, noOp) = 0 := by
    unfold stepE
    simp only
    rw [if_neg (by omega), if_neg (by decide), if_neg (by decide), if_neg (by omega)]
  have hn : nextE h (3, k, 0, R, noOp) = 0 := by
    unfold nextE
    rw [if_neg (by simpa using hh), if_neg (by simpa using hc)]
    exact hs
  refine ⟨hn, rfl, rfl, fun i i0 i2 => ?_⟩
  exact prOf_set _ _ _ _ _ _ g3 k0 k2 i0 i2

/-- of the root all that stands below it; of nothing nothing -/
theorem sees_below {l : List Pl} {R : List Int} {p : Pl} (hp : p ∈ l) (h : underB l p.1 0 = true) (h0 : (0 : Int) ∈ R) : p ∈ viewK l R := by
  refine List.mem_filter.2 ⟨hp, ?_⟩
  exact List.any_eq_true.2 ⟨0, h0, h⟩
theorem sees_none (l : List Pl) : viewK l [] = [] ∧ viewW l [] = [] := by
  constructor
  · unfold viewK knB; simp
  · unfold viewW wyB knB; simp
theorem hist_check {L : List Stp} {T : List Pl} (h : histE L T = 0) : check T = 0 := by
  unfold histE at h
  split at h
  · contradiction
  · rename_i h1
    split at h
    · rename_i h2
      have := ((sameB_iff _ _ _ _).1 h2).2
      rw [← this]
      exact (fold_ok (by simpa using h1)).2.2.2.2
    · omega
theorem hub_tree {h : Hb} (hh : hubE h = 0) : check h.1.2 = 0 := hist_check ((hubE_zero h).1 hh).1
theorem under_place {l : List Pl} (hc : check l = 0) {p : Pl} (hn : isNodeB p.1 = true) : underE l p.1 0 = 0 := by
  unfold underE
  rw [if_neg (by simpa using hc), if_pos ⟨hn, by decide⟩]

/-- all three live, and want these roots -/
def wants (h : Hb) (R : List Int) (k : Int) : Hb := stepH (if (prOf h k).1 = 0 then stepH h (2, k, 1, [], noOp) else h) (3, k, 0, R, noOp)
theorem wants_ok {h : Hb} (hh : hubE h = 0) (hv : h.2.1 ≤ 58) {k : Int} (k0 : 0 ≤ k) (k2 : k ≤ 2) {R : List Int} (hR : rootsOk R = 0) :
    ((prOf h k).1 = 0 → nextE h (2, k, 1, [], noOp) = 0) ∧ nextE (if (prOf h k).1 = 0 then stepH h (2, k, 1, [], noOp) else h) (3, k, 0, R, noOp) = 0 ∧
    hubE (wants h R k) = 0 ∧ (wants h R k).1 = h.1 ∧ (wants h R k).2.1 ≤ h.2.1 + 2 ∧ (prOf (wants h R k) k).2.2 = R ∧ ∀ i, 0 ≤ i → i ≤ 2 → i ≠ k → prOf (wants h R k) i = prOf h i := by
  have hp := ((hubE_zero h).1 hh).2.2.2 _ (prOf_mem hh k0 k2).1
  unfold wants
  by_cases hl : (prOf h k).1 = 0
  · simp only [if_pos hl]
    obtain ⟨n1, s1, v1, q1⟩ := sees_life hh (by omega) k0 k2 hl
    have hh1 := (next_ok n1).2.2.2
    have e1 : prOf (stepH h (2, k, 1, [], noOp)) k = (1, 0, []) := by rw [q1 k k0 k2, if_pos rfl]
    obtain ⟨n2, s2, v2, q2⟩ := sees_roots hh1 (by omega) k0 k2 (by rw [e1]; decide) hR
    refine ⟨fun _ => n1, n2, (next_ok n2).2.2.2, s2.trans s1, by omega, ?_, ?_⟩
    · rw [q2 k k0 k2, if_pos rfl]
    · intro i i0 i2 hik
      rw [q2 i i0 i2, if_neg hik, q1 i i0 i2, if_neg hik]
  · simp only [if_neg hl]
    have hl1 : 1 ≤ (prOf h k).1 := by
      unfold peerE at hp
      split at hp
      · omega
      · rename_i q
        simp only [not_or, Decidable.not_not] at q
        omega
    obtain ⟨n2, s2, v2, q2⟩ := sees_roots hh (by omega) k0 k2 hl1 hR
    refine ⟨fun e => absurd e hl, n2, (next_ok n2).2.2.2, s2, by omega, ?_, ?_⟩
    · rw [q2 k k0 k2, if_pos rfl]
    · intro i i0 i2 hik
      rw [q2 i i0 i2, if_neg hik]

/-- records put on a disk and synced, one by one: as many as a log may have -/
theorem log_right (A : List Rc) (hA : ∀ r ∈ A, checkRec r = 0) (ha : A.length ≤ 60) (r : Rc) (hr : checkRec r = 0) :
    diskE (encR A) [] = 0 ∧ putE (encR A) [] r = 0 ∧ diskE (encR A) (recT r ++ [10]) = 0 := by
  have h1 := encR_len A hA
  have h2 := recT_len hr
  refine ⟨disk_right A hA ha [] (by simp), ?_, disk_right A hA ha _ (by simp; omega)⟩
  unfold putE
  rw [if_neg (by simpa using hr), if_neg (by simp; omega)]
theorem log_synced (A : List Rc) (hA : ∀ r ∈ A, checkRec r = 0) (r : Rc) (hr : checkRec r = 0) (ha : A.length + 1 ≤ 60) : encR A ++ (recT r ++ [10]) = encR (A ++ [r]) ∧ diskE (encR (A ++ [r])) [] = 0 := by
  refine ⟨(enc_put A r).symm, ?_⟩
  refine disk_right _ ?_ (by simpa using ha) [] (by simp)
  intro q hq
  rcases List.mem_append.1 hq with h | h
  · exact hA q h
  · simp at h; rw [h]; exact hr
/-- all records that were accepted are right ones -/
theorem run_right (l : List Rc) : ∀ h, runE h l = 0 → ∀ r ∈ l, checkRec r = 0 := by
  induction l with
  | nil => intro h _ r hr; simp at hr
  | cons q l ih =>
    intro h hl r hr
    obtain ⟨h1, h2⟩ := (runE_zero h q l).1 hl
    rcases List.mem_cons.1 hr with rfl | hr
    · exact (next_ok h1).2.1
    · exact ih _ h2 r hr
end Orangery

/- Plain facts on hubs: the closed fact that the laws on hubs ask first. -/
namespace Orangery

def accL : List Rc := [(2, 1, 1, [], noOp), (1, 0, 0, [], (1, 1, (2, 0, 0), 1, 1)), (1, 0, 0, [], (2, 1, (3, 2, 0), 1, 2)), (3, 1, 0, [2], noOp)]
def accH : Hb := (([((1, 1, (2, 0, 0), 1, 1), true, (0, 0, 0)), ((2, 1, (3, 2, 0), 1, 2), true, (0, 0, 0))], [(2, 0, 0), (3, 2, 0)]), 4, [(0, 0, []), (1, 2, [2]), (0, 0, [])])
def accG : Hb := (accH.1, 5, [(0, 0, []), (2, 0, []), (0, 0, [])])
set_option maxRecDepth 100000 in
theorem acc1 : replayE accL = 0 ∧ runH newHb accL = accH := by
  constructor
  · decide +kernel
  · kernel_rfl
set_option maxRecDepth 100000 in
theorem acc2 : hubE accH = 0 ∧ nextE accH (1, 0, 0, [], (3, 1, (4, 0, 0), 1, 4)) = 7 ∧ nextE accH (2, 1, 2, [], noOp) = 0 ∧ stepH accH (2, 1, 2, [], noOp) = accG := by
  refine ⟨?_, ?_, ?_, ?_⟩ <;> first | decide +kernel | kernel_rfl
set_option maxRecDepth 100000 in
theorem acc3 : nextE accG (1, 0, 0, [], (3, 1, (4, 0, 0), 1, 3)) = 7 ∧ nextE accG (1, 0, 0, [], (3, 1, (4, 0, 0), 2, 1)) = 0 := by
  refine ⟨?_, ?_⟩ <;> decide +kernel
set_option maxRecDepth 100000 in
theorem acc4 : viewK accH.1.2 [2] = [(2, 0, 0), (3, 2, 0)] ∧ viewW accH.1.2 [2] = [] ∧ ofE accH.1.2 [2] = 0 := by
  refine ⟨?_, ?_, ?_⟩ <;> decide +kernel
end Orangery

