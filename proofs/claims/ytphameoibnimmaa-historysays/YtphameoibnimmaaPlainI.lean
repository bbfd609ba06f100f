/- Plain facts on chapter 3: what Fold, Check and Insert answer, of operations and steps as lists. -/
import Derived.Test.YtphameoibnimmaaPlainH
namespace Orangery

/-- the first error of operations -/
def firstE : List Mv → Int
  | [] => 0
  | o :: l => if checkOp o ≠ 0 then checkOp o else firstE l

theorem firstE_zero (l : List Mv) : firstE l = 0 ↔ ∀ o ∈ l, checkOp o = 0 := by
  induction l with
  | nil => simp [firstE]
  | cons o l ih =>
    unfold firstE
    by_cases h : checkOp o = 0
    · rw [if_neg (by simp [h]), ih]
      simp [h]
    · rw [if_pos h]
      constructor
      · intro h'; exact absurd h' h
      · intro h'; exact absurd (h' o (by simp)) h

/-- a look at operations one by one -/
theorem firstE_drop (l : List Mv) (k : Nat) (h : k < l.length) (hs : firstE (l.drop k) = firstE l) :
    (checkOp l[k] ≠ 0 → firstE l = checkOp l[k]) ∧ (checkOp l[k] = 0 → firstE (l.drop (k + 1)) = firstE l) := by
  rw [List.drop_eq_getElem_cons h] at hs
  have e : firstE (l[k] :: l.drop (k + 1)) = if checkOp l[k] ≠ 0 then checkOp l[k] else firstE (l.drop (k + 1)) := rfl
  rw [e] at hs
  constructor
  · intro h1; rw [if_pos h1] at hs; exact hs.symm
  · intro h1; rw [if_neg (by simp [h1])] at hs; exact hs

/-- history.Fold -/
def foldE (l : List Mv) : Int := if 30 < l.length then 2 else if firstE l ≠ 0 then firstE l else if (srt l).length < l.length then 6 else 0
def foldL (l : List Mv) : List Stp := if foldE l ≠ 0 then [] else runS [] (srt l)
def foldT (l : List Mv) : List Pl := if foldE l ≠ 0 then [] else runT [] (srt l)

theorem foldE_zero (l : List Mv) : foldE l = 0 ↔ l.length ≤ 30 ∧ (∀ o ∈ l, checkOp o = 0) ∧ noTwo l := by
  rw [← firstE_zero]
  unfold foldE
  have hs := srt_len l
  constructor
  · intro h
    split at h
    · omega
    · split at h
      · contradiction
      · split at h
        · omega
        · rename_i h1 h2 h3
          refine ⟨by omega, by simpa using h2, ?_⟩
          by_cases hn : noTwo l
          · exact hn
          · exact absurd (hs.2.2 hn) h3
  · rintro ⟨h1, h2, h3⟩
    rw [if_neg (by omega), if_neg (by simp [h2]), if_neg]
    have := (hs.2.1 h3).length_eq
    omega

theorem foldE_perm {l m : List Mv} (hp : l.Perm m) (h : foldE l = 0) : foldE m = 0 ∧ srt m = srt l := by
  obtain ⟨h1, h2, h3⟩ := (foldE_zero l).1 h
  exact ⟨(foldE_zero m).2 ⟨by rw [← hp.length_eq]; exact h1, fun o ho => h2 o (hp.mem_iff.2 ho), noTwo_perm hp h3⟩, (srt_perm l m h3 hp).symm⟩

theorem srt_ok {l : List Mv} (h : foldE l = 0) : foldE (srt l) = 0 ∧ (srt l).Perm l ∧ (srt l).length = l.length := by
  obtain ⟨h1, h2, h3⟩ := (foldE_zero l).1 h
  have hp := (srt_len l).2.1 h3
  exact ⟨(foldE_perm hp.symm h).1, hp, hp.length_eq⟩

theorem fold_ok {l : List Mv} (h : foldE l = 0) : foldL l = runS [] (srt l) ∧ foldT l = runT [] (srt l) ∧ (foldL l).map (·.1) = srt l ∧ (foldL l).length = l.length ∧ check (foldT l) = 0 := by
  obtain ⟨h1, h2, h3⟩ := (foldE_zero l).1 h
  have e1 : foldL l = runS [] (srt l) := by unfold foldL; rw [if_neg (by simp [h])]
  have e2 : foldT l = runT [] (srt l) := by unfold foldT; rw [if_neg (by simp [h])]
  refine ⟨e1, e2, by rw [e1, runS_ops], by rw [e1, runS_len]; exact (srt_ok h).2.2, ?_⟩
  rw [e2]
  exact runT_check _ _ check_empty (fun o ho => h2 o (srt_mem l o ho))

theorem fold_perm {l m : List Mv} (hp : l.Perm m) (h : foldE l = 0) : foldL m = foldL l ∧ foldT m = foldT l := by
  obtain ⟨h1, h2⟩ := foldE_perm hp h
  obtain ⟨a1, a2, _⟩ := fold_ok h
  obtain ⟨b1, b2, _⟩ := fold_ok h1
  rw [a1, a2, b1, b2, h2]
  exact ⟨rfl, rfl⟩

/-- a history: steps and a tree -/
def eqSts : List Stp → List Stp → Bool
  | [], [] => true
  | s :: l, t :: m => decide (s = t) && eqSts l m
  | _, _ => false
theorem eqSts_iff (l : List Stp) : ∀ m, eqSts l m = true ↔ l = m := by
  induction l with
  | nil => intro m; cases m <;> simp [eqSts]
  | cons s l ih =>
    intro m
    cases m with
    | nil => simp [eqSts]
    | cons t m =>
      show (decide (s = t) && eqSts l m) = true ↔ _
      rw [Bool.and_eq_true, ih, decide_eq_true_eq, List.cons.injEq]
def sameB (L M : List Stp) (T U : List Pl) : Bool := eqSts L M && decide (T = U)
theorem sameB_iff (L M : List Stp) (T U : List Pl) : sameB L M T U = true ↔ L = M ∧ T = U := by
  unfold sameB
  rw [Bool.and_eq_true, eqSts_iff, decide_eq_true_eq]
def histE (L : List Stp) (T : List Pl) : Int := if foldE (L.map (·.1)) ≠ 0 then foldE (L.map (·.1)) else if sameB (foldL (L.map (·.1))) L (foldT (L.map (·.1))) T = true then 0 else 4

/-- what Fold made is one -/
theorem hist_fold {l : List Mv} (h : foldE l = 0) : histE (foldL l) (foldT l) = 0 := by
  obtain ⟨_, _, h3, _, _⟩ := fold_ok h
  obtain ⟨h4, h5, _⟩ := srt_ok h
  obtain ⟨h6, h7⟩ := fold_perm h5 h4
  unfold histE
  rw [h3, if_neg (by simp [h4]), if_pos ((sameB_iff _ _ _ _).2 ⟨h6.symm, h7.symm⟩)]
theorem hist_empty : histE [] [] = 0 := by decide

/-- the stamp of an operation is there -/
def thereB (L : List Stp) (o : Mv) : Bool := L.any fun s => s.1.1 == o.1 && s.1.2.1 == o.2.1

/-- history.Insert -/
def insE (L : List Stp) (T : List Pl) (o : Mv) : Int :=
  if histE L T ≠ 0 then histE L T else if checkOp o ≠ 0 then checkOp o else if thereB L o = true then 6 else foldE (L.map (·.1) ++ [o])
def insL (L : List Stp) (T : List Pl) (o : Mv) : List Stp := if insE L T o ≠ 0 then [] else foldL (L.map (·.1) ++ [o])
def insT (L : List Stp) (T : List Pl) (o : Mv) : List Pl := if insE L T o ≠ 0 then [] else foldT (L.map (·.1) ++ [o])

theorem there_iff {l : List Mv} (L : List Stp) (hl : L.map (·.1) = l) (hok : ∀ x ∈ l, checkOp x = 0) (o : Mv) (ho : checkOp o = 0) : thereB L o = true ↔ ∃ x ∈ l, rk x = rk o := by
  unfold thereB
  rw [List.any_eq_true]
  subst hl
  constructor
  · rintro ⟨s, hs, he⟩
    have hm : s.1 ∈ L.map (·.1) := List.mem_map.2 ⟨s, hs, rfl⟩
    simp at he
    exact ⟨s.1, hm, (rk_eq (hok _ hm) ho).2 he⟩
  · rintro ⟨x, hx, he⟩
    obtain ⟨s, hs, rfl⟩ := List.mem_map.1 hx
    refine ⟨s, hs, ?_⟩
    have := (rk_eq (hok _ hx) ho).1 he
    simp [this]

/-- one more operation, put into what Fold made of the others -/
theorem ins_fold {l : List Mv} (h : foldE l = 0) (o : Mv) (h' : foldE (l ++ [o]) = 0) : insE (foldL l) (foldT l) o = 0 ∧ insL (foldL l) (foldT l) o = foldL (l ++ [o]) ∧ insT (foldL l) (foldT l) o = foldT (l ++ [o]) := by
  obtain ⟨_, _, h3, _, _⟩ := fold_ok h
  obtain ⟨_, hp, _⟩ := srt_ok h
  obtain ⟨g1, g2, g3⟩ := (foldE_zero _).1 h'
  obtain ⟨k1, k2, k3⟩ := (foldE_zero l).1 h
  have ho : checkOp o = 0 := g2 o (by simp)
  have hpo : (srt l ++ [o]).Perm (l ++ [o]) := hp.append_right [o]
  have hf := (foldE_perm hpo.symm h').1
  have hno : thereB (foldL l) o = false := by
    cases ht : thereB (foldL l) o
    · rfl
    · exfalso
      obtain ⟨x, hx, he⟩ := (there_iff (foldL l) h3 (fun x hx => k2 x (srt_mem l x hx)) o ho).1 ht
      have hxl := srt_mem l x hx
      unfold noTwo at g3
      rw [List.pairwise_append] at g3
      exact g3.2.2 x hxl o (by simp) he
  have e0 : insE (foldL l) (foldT l) o = 0 := by
    unfold insE
    rw [if_neg (by simp [hist_fold h]), if_neg (by simp [ho]), if_neg (by simp [hno]), h3]
    exact hf
  obtain ⟨e1, e2⟩ := fold_perm hpo.symm h'
  refine ⟨e0, ?_, ?_⟩
  · unfold insL; rw [if_neg (by simp [e0]), h3]; exact e1
  · unfold insT; rw [if_neg (by simp [e0]), h3]; exact e2

theorem fold_prefix {l m : List Mv} (h : foldE (l ++ m) = 0) : foldE l = 0 := by
  obtain ⟨h1, h2, h3⟩ := (foldE_zero _).1 h
  unfold noTwo at h3
  rw [List.pairwise_append] at h3
  exact (foldE_zero l).2 ⟨by rw [List.length_append] at h1; omega, fun o ho => h2 o (by simp [ho]), h3.1⟩

/-- an operation of a later stamp comes behind, and turns nothing -/
theorem ins_late {l : List Mv} (h : foldE l = 0) (o : Mv) (hl : ∀ x ∈ l, rk x < rk o) (h' : foldE (l ++ [o]) = 0) : ∃ s : Stp, s.1 = o ∧ foldL (l ++ [o]) = foldL l ++ [s] := by
  obtain ⟨e1, _, _⟩ := fold_ok h
  obtain ⟨e2, _, _⟩ := fold_ok h'
  obtain ⟨_, hp, _⟩ := srt_ok h
  have es : srt (l ++ [o]) = srt l ++ [o] := by
    have h1 := srt_late (srt l) o (srt_sorted l) (fun x hx => hl x (srt_mem l x hx))
    rw [← h1]
    exact ((foldE_perm (hp.symm.append_right [o]) h').2).symm
  refine ⟨dS (runT [] (srt l)) o, rfl, ?_⟩
  rw [e1, e2, es, runS_append]
  rfl
end Orangery
