/- 6 texts of the proof: Plain facts on histories: operations by their stamps, done one by one: runT (the tree), runS (the steps), srt (by rank, of like ranks the first one). Plain facts on chapter 3: what Fold, Check and Insert answer, of operations and steps as lists. history's small functions: has, byStamp; slices.ContainsFunc, IndexFunc, Clone at operations; orangeryref.rank. slices.DeleteFunc at places, on a slice of -/
import Derived.Shelf.SlSortFuncK.RowK2
import Derived.Shelf.SlSortCmp.NoneTotal
import Derived.Shelf.SlGeneric
import Derived.Ground.SlsfProg
import Derived.Test.YtphameoibnimmaaProg
import Derived.Test.YtphameoibnimmaaP03
import Derived.Test.YtphameoibnimmaaP01
import Derived.Test.YtphameoibnimmaaP02
/- Plain facts on histories: operations by their stamps, done one by one: runT (the tree), runS (the steps), srt (by rank, of like ranks the first one). -/
namespace Orangery

/-- the rank of an operation's stamp -/
def rk (o : Mv) : Int := o.1 * 3 + o.2.1
abbrev byRk (l : List Mv) : Prop := l.Pairwise fun a b => rk a < rk b

/-- one operation, of a right tree -/
def dT (t : List Pl) (o : Mv) : List Pl := if ring t o = true then t else inL t o.2.2.1
def dS (t : List Pl) (o : Mv) : Stp := (o, !ring t o, find t o.2.2.1.1)
def runT : List Pl → List Mv → List Pl
  | t, [] => t
  | t, o :: l => runT (dT t o) l
def runS : List Pl → List Mv → List Stp
  | _, [] => []
  | t, o :: l => dS t o :: runS (dT t o) l

theorem runT_append (l m : List Mv) : ∀ t, runT t (l ++ m) = runT (runT t l) m := by
  induction l with
  | nil => intro t; rfl
  | cons o l ih => intro t; exact ih _
theorem runS_append (l m : List Mv) : ∀ t, runS t (l ++ m) = runS t l ++ runS (runT t l) m := by
  induction l with
  | nil => intro t; rfl
  | cons o l ih => intro t; show dS t o :: runS (dT t o) (l ++ m) = dS t o :: (runS (dT t o) l ++ runS (runT (dT t o) l) m); rw [ih]
theorem runS_ops (l : List Mv) : ∀ t, (runS t l).map (·.1) = l := by
  induction l with
  | nil => intro t; rfl
  | cons o l ih => intro t; show o :: (runS (dT t o) l).map (·.1) = o :: l; rw [ih]
theorem runS_len (l : List Mv) (t : List Pl) : (runS t l).length = l.length := by
  have := congrArg List.length (runS_ops l t)
  simpa using this

theorem dT_eq {t : List Pl} {o : Mv} (h : doE t o = 0) : doT t o = dT t o ∧ doS t o = dS t o := ⟨doT_eq h, doS_eq h⟩
theorem doE_of {t : List Pl} {o : Mv} (h1 : check t = 0) (h2 : checkOp o = 0) : doE t o = 0 := by
  unfold doE orI
  rw [if_neg (by simp [h1]), h2]
theorem dT_check {t : List Pl} {o : Mv} (h1 : check t = 0) (h2 : checkOp o = 0) : check (dT t o) = 0 := by
  have h := doE_of h1 h2
  rw [← (dT_eq h).1]
  exact doT_check h
theorem runT_check (l : List Mv) : ∀ t, check t = 0 → (∀ o ∈ l, checkOp o = 0) → check (runT t l) = 0 := by
  induction l with
  | nil => intro t h _; exact h
  | cons o l ih => intro t h hl; exact ih _ (dT_check h (hl o (by simp))) (fun p hp => hl p (by simp [hp]))
theorem check_empty : check [] = 0 := by decide

theorem snoc_ind {P : List Mv → Prop} (h0 : P []) (h1 : ∀ l o, P l → P (l ++ [o])) : ∀ l, P l := by
  have key : ∀ r : List Mv, P r.reverse := by
    intro r
    induction r with
    | nil => exact h0
    | cons o r ih => rw [List.reverse_cons]; exact h1 _ _ ih
  intro l
  have := key l.reverse
  rwa [List.reverse_reverse] at this

/-- an operation put in by its rank -/
def insO (o : Mv) (l : List Mv) : List Mv := (l.filter fun x => decide (rk x < rk o)) ++ o :: (l.filter fun x => decide (rk o < rk x))
def hasR (o : Mv) (l : List Mv) : Bool := l.any fun x => rk x == rk o
def addO (l : List Mv) (o : Mv) : List Mv := if hasR o l = true then l else insO o l
def srt (l : List Mv) : List Mv := l.foldl addO []

theorem srt_nil : srt [] = [] := rfl
theorem srt_snoc (l : List Mv) (o : Mv) : srt (l ++ [o]) = addO (srt l) o := by
  unfold srt
  rw [List.foldl_append]
  rfl

theorem hasR_iff (o : Mv) (l : List Mv) : hasR o l = true ↔ ∃ x ∈ l, rk x = rk o := by
  unfold hasR
  rw [List.any_eq_true]
  simp

theorem insO_sorted (o : Mv) (l : List Mv) (h : byRk l) : byRk (insO o l) := by
  unfold insO byRk
  rw [List.pairwise_append]
  refine ⟨h.filter _, ?_, ?_⟩
  · rw [List.pairwise_cons]
    exact ⟨by intro q hq; simp at hq; omega, h.filter _⟩
  · intro q hq r hr
    simp at hq hr
    rcases hr with rfl | hr <;> omega

theorem insO_mem (o : Mv) (l : List Mv) (h : hasR o l = false) (x : Mv) : x ∈ insO o l ↔ x = o ∨ x ∈ l := by
  have hn : ∀ y ∈ l, rk y ≠ rk o := by
    intro y hy e
    have := (hasR_iff o l).2 ⟨y, hy, e⟩
    rw [h] at this
    simp at this
  unfold insO
  rw [List.mem_append, List.mem_cons, List.mem_filter, List.mem_filter]
  simp only [decide_eq_true_eq]
  constructor
  · rintro (⟨h1, _⟩ | h1 | ⟨h1, _⟩)
    · exact Or.inr h1
    · exact Or.inl h1
    · exact Or.inr h1
  · rintro (h1 | h1)
    · exact Or.inr (Or.inl h1)
    · rcases Int.lt_or_gt_of_ne (hn x h1) with h2 | h2
      · exact Or.inl ⟨h1, h2⟩
      · exact Or.inr (Or.inr ⟨h1, h2⟩)

theorem filterM_or (f g : Mv → Bool) (hd : ∀ p, f p = true → g p = false) (l : List Mv) : (l.filter f ++ l.filter g).Perm (l.filter fun p => f p || g p) := by
  induction l with
  | nil => exact List.Perm.refl _
  | cons p l ih =>
    simp only [List.filter_cons]
    cases hf : f p
    · cases hg : g p
      · simpa using ih
      · simp only [Bool.or_true, if_true, Bool.false_eq_true, if_false]
        exact List.perm_middle.trans (List.Perm.cons _ ih)
    · have hg := hd p hf
      simp only [hg, Bool.or_false, if_true, Bool.false_eq_true, if_false, List.cons_append]
      exact List.Perm.cons _ ih

theorem insO_perm (o : Mv) (l : List Mv) (h : hasR o l = false) : (insO o l).Perm (l ++ [o]) := by
  have h1 := filterM_or (fun q => decide (rk q < rk o)) (fun q => decide (rk o < rk q)) (by intro q hq; simp at hq ⊢; omega) l
  have e : (l.filter fun q => decide (rk q < rk o) || decide (rk o < rk q)) = l := by
    rw [List.filter_eq_self]
    intro q hq
    have : rk q ≠ rk o := by
      intro e
      have := (hasR_iff o l).2 ⟨q, hq, e⟩
      rw [h] at this
      simp at this
    simp
    omega
  rw [e] at h1
  unfold insO
  refine List.perm_middle.trans ?_
  refine (List.Perm.cons o h1).trans ?_
  exact List.perm_append_comm (l₁ := [o])

theorem srt_sorted : ∀ l, byRk (srt l) := by
  refine snoc_ind ?_ ?_
  · exact List.Pairwise.nil
  · intro l o ih
    rw [srt_snoc]
    unfold addO
    split
    · exact ih
    · exact insO_sorted o _ ih

theorem srt_first : ∀ l, ∀ d ∈ srt l, l.find? (fun x => rk x == rk d) = some d := by
  refine snoc_ind ?_ ?_
  · intro d hd; simp [srt_nil] at hd
  · intro l o ih d hd
    rw [srt_snoc] at hd
    rw [List.find?_append]
    unfold addO at hd
    split at hd
    · rw [ih d hd]; rfl
    · rename_i hn
      have hn' : hasR o (srt l) = false := by simpa using hn
      rw [insO_mem o _ hn'] at hd
      rcases hd with rfl | hd
      · have : l.find? (fun x => rk x == rk d) = none := by
          rw [List.find?_eq_none]
          intro x hx he
          have he' : rk x = rk d := by simpa using he
          have key : ∀ l : List Mv, ∀ x ∈ l, ∃ y ∈ srt l, rk y = rk x := by
            refine snoc_ind ?_ ?_
            · intro x hx; simp at hx
            · intro l o ih x hx
              rw [srt_snoc]
              unfold addO
              split
              · rename_i hh
                rw [List.mem_append] at hx
                rcases hx with hx | hx
                · exact ih x hx
                · simp at hx
                  subst hx
                  exact (hasR_iff _ _).1 hh
              · rename_i hh
                have hh' : hasR o (srt l) = false := by simpa using hh
                rw [List.mem_append] at hx
                rcases hx with hx | hx
                · obtain ⟨y, hy, e⟩ := ih x hx
                  exact ⟨y, (insO_mem o _ hh' y).2 (Or.inr hy), e⟩
                · simp at hx
                  subst hx
                  exact ⟨x, (insO_mem x _ hh' x).2 (Or.inl rfl), rfl⟩
          obtain ⟨y, hy, e⟩ := key l x hx
          have := (hasR_iff d (srt l)).2 ⟨y, hy, by rw [e, he']⟩
          rw [hn'] at this
          simp at this
        rw [this]
        simp
      · rw [ih d hd]; rfl

theorem srt_all : ∀ l : List Mv, ∀ x ∈ l, ∃ y ∈ srt l, rk y = rk x := by
  refine snoc_ind ?_ ?_
  · intro x hx; simp at hx
  · intro l o ih x hx
    rw [srt_snoc]
    unfold addO
    split
    · rename_i hh
      rw [List.mem_append] at hx
      rcases hx with hx | hx
      · exact ih x hx
      · simp at hx
        subst hx
        exact (hasR_iff _ _).1 hh
    · rename_i hh
      have hh' : hasR o (srt l) = false := by simpa using hh
      rw [List.mem_append] at hx
      rcases hx with hx | hx
      · obtain ⟨y, hy, e⟩ := ih x hx
        exact ⟨y, (insO_mem o _ hh' y).2 (Or.inr hy), e⟩
      · simp at hx
        subst hx
        exact ⟨x, (insO_mem x _ hh' x).2 (Or.inl rfl), rfl⟩

theorem srt_mem (l : List Mv) (d : Mv) (h : d ∈ srt l) : d ∈ l := List.mem_of_find?_eq_some (srt_first l d h)

/-- no two of a like rank -/
abbrev noTwo (l : List Mv) : Prop := l.Pairwise fun a b => rk a ≠ rk b

theorem srt_len : ∀ l, (srt l).length ≤ l.length ∧ (noTwo l → (srt l).Perm l) ∧ (¬ noTwo l → (srt l).length < l.length) := by
  refine snoc_ind ?_ ?_
  · exact ⟨by simp [srt_nil], fun _ => by rw [srt_nil], fun h => absurd List.Pairwise.nil h⟩
  · intro l o ⟨h1, h2, h3⟩
    rw [srt_snoc]
    unfold addO
    have hlast : noTwo (l ++ [o]) ↔ noTwo l ∧ ∀ x ∈ l, rk x ≠ rk o := by
      unfold noTwo
      rw [List.pairwise_append]
      simp
    split
    · rename_i hh
      refine ⟨by simp; omega, fun hn => ?_, fun _ => by simp; omega⟩
      exfalso
      obtain ⟨x, hx, e⟩ := (hasR_iff _ _).1 hh
      exact (hlast.1 hn).2 x (srt_mem l x hx) e
    · rename_i hh
      have hh' : hasR o (srt l) = false := by simpa using hh
      have hp := insO_perm o (srt l) hh'
      have hl := hp.length_eq
      rw [List.length_append] at hl
      refine ⟨by rw [hl]; simp; exact h1, fun hn => ?_, fun hn => ?_⟩
      · exact hp.trans ((h2 (hlast.1 hn).1).append_right [o])
      · rw [hl]
        have : ¬ noTwo l := by
          intro hl'
          apply hn
          rw [hlast]
          refine ⟨hl', fun x hx e => ?_⟩
          obtain ⟨y, hy, e2⟩ := srt_all l x hx
          have := (hasR_iff o (srt l)).2 ⟨y, hy, by rw [e2, e]⟩
          rw [hh'] at this
          simp at this
        have := h3 this
        simp
        exact this

theorem rk_unique (l m : List Mv) (hl : byRk l) (hm : byRk m) (hp : l.Perm m) : l = m := by
  refine List.Perm.eq_of_pairwise (le := fun a b : Mv => rk a ≤ rk b) ?_ (hl.imp (by intro a b h; omega)) (hm.imp (by intro a b h; omega)) hp
  intro a b h1 h2 h3 h4
  have h5 : a ∈ m := hp.mem_iff.1 h1
  have key : ∀ m : List Mv, byRk m → a ∈ m → b ∈ m → rk a = rk b → a = b := by
    intro m
    induction m with
    | nil => intro _ h; simp at h
    | cons x m ih =>
      intro hb ha hbm e
      replace hb := List.pairwise_cons.1 hb
      simp at ha hbm
      rcases ha with rfl | ha <;> rcases hbm with rfl | hbm
      · rfl
      · have := hb.1 b hbm; omega
      · have := hb.1 a ha; omega
      · exact ih hb.2 ha hbm e
  exact key m hm h5 h2 (by omega)

theorem byRk_noTwo {l : List Mv} (h : byRk l) : noTwo l := h.imp (by intro a b h; omega)
theorem noTwo_perm {l m : List Mv} (h : l.Perm m) (hl : noTwo l) : noTwo m :=
  (h.pairwise_iff (by intro a b h e; exact h e.symm)).1 hl

/-- what is in order, and holds the same ones, is what is sorted -/
theorem srt_unique (l m : List Mv) (hm : byRk m) (hp : m.Perm l) : srt l = m :=
  rk_unique _ _ (srt_sorted l) hm (((srt_len l).2.1 (noTwo_perm hp (byRk_noTwo hm))).trans hp.symm)
theorem srt_self (l : List Mv) (h : byRk l) : srt l = l := srt_unique l l h (List.Perm.refl _)
theorem srt_perm (l m : List Mv) (hn : noTwo l) (hp : l.Perm m) : srt l = srt m :=
  srt_unique l (srt m) (srt_sorted m) (((srt_len m).2.1 (noTwo_perm hp hn)).trans hp.symm)
theorem srt_again (l : List Mv) : srt (srt l) = srt l := srt_self _ (srt_sorted l)

/-- the rank ahead of the k-th -/
def lastR (d : List Mv) (k : Nat) : Int := if h : 0 < k ∧ k - 1 < d.length then rk d[k - 1] else -1

/-- the least one above the last one is the next one -/
theorem srt_next (l : List Mv) (k : Nat) (hk : k ≤ (srt l).length) (hpos : ∀ o ∈ l, 0 ≤ rk o) (b : Mv) (hf : l.find? (fun x => rk x == rk b) = some b) (hb : lastR (srt l) k < rk b)
    (hmin : ∀ x ∈ l, lastR (srt l) k < rk x → rk b ≤ rk x) : ∃ h : k < (srt l).length, (srt l)[k] = b := by
  have hbl : b ∈ l := List.mem_of_find?_eq_some hf
  obtain ⟨d, hd, e⟩ := srt_all l b hbl
  have hdb : d = b := by
    have h1 := srt_first l d hd
    rw [e, hf] at h1
    exact (Option.some.inj h1).symm
  subst hdb
  obtain ⟨j, hj, hjd⟩ := List.getElem_of_mem hd
  have hs := List.pairwise_iff_getElem.1 (srt_sorted l)
  have hjk : k ≤ j := by
    rcases Nat.lt_or_ge j k with h | h
    · exfalso
      unfold lastR at hb
      rw [dif_pos ⟨by omega, by omega⟩, ← hjd] at hb
      rcases Nat.lt_or_ge j (k - 1) with h2 | h2
      · have := hs j (k - 1) hj (by omega) h2; omega
      · have e2 : j = k - 1 := by omega
        subst e2
        omega
    · exact h
  have hlt : k < (srt l).length := by omega
  refine ⟨hlt, ?_⟩
  rcases Nat.lt_or_ge k j with h | h
  · exfalso
    have h1 := hs k j hlt hj h
    have h2 : lastR (srt l) k < rk (srt l)[k] := by
      unfold lastR
      split
      · exact hs (k - 1) k (by omega) hlt (by omega)
      · have := hpos _ (srt_mem l _ (List.getElem_mem hlt)); omega
    have h3 := hmin _ (srt_mem l _ (List.getElem_mem hlt)) h2
    rw [hjd] at h1
    omega
  · have e2 : j = k := by omega
    subst e2
    exact hjd

/-- where none is above the last one, all are there -/
theorem srt_none (l : List Mv) (k : Nat) (hk : k ≤ (srt l).length) (hpos : ∀ o ∈ l, 0 ≤ rk o) (hno : ∀ x ∈ l, ¬ lastR (srt l) k < rk x) : k = (srt l).length := by
  rcases Nat.lt_or_ge k (srt l).length with h | h
  · exfalso
    have hs := List.pairwise_iff_getElem.1 (srt_sorted l)
    refine hno _ (srt_mem l _ (List.getElem_mem h)) ?_
    unfold lastR
    split
    · exact hs (k - 1) k (by omega) h (by omega)
    · have := hpos _ (srt_mem l _ (List.getElem_mem h)); omega
  · omega

/-- later ones come behind -/
theorem srt_late (d : List Mv) (o : Mv) (hd : byRk d) (h : ∀ x ∈ d, rk x < rk o) : srt (d ++ [o]) = d ++ [o] := by
  refine srt_self _ ?_
  unfold byRk
  rw [List.pairwise_append]
  refine ⟨hd, by simp, ?_⟩
  intro a ha b hb
  simp at hb
  subst hb
  exact h a ha

theorem rk_pos {o : Mv} (h : checkOp o = 0) : 0 ≤ rk o := by
  have := checkOp_zero h
  simp only [opOkB, decide_eq_true_eq] at this
  unfold rk
  omega
/-- like ranks are like stamps -/
theorem rk_eq {o p : Mv} (ho : checkOp o = 0) (hp : checkOp p = 0) : rk o = rk p ↔ o.1 = p.1 ∧ o.2.1 = p.2.1 := by
  have h1 := checkOp_zero ho
  have h2 := checkOp_zero hp
  simp only [opOkB, decide_eq_true_eq] at h1 h2
  unfold rk
  omega
theorem rk_lt {o p : Mv} (ho : checkOp o = 0) (hp : checkOp p = 0) : rk o < rk p ↔ o.1 < p.1 ∨ (o.1 = p.1 ∧ o.2.1 < p.2.1) := by
  have h1 := checkOp_zero ho
  have h2 := checkOp_zero hp
  simp only [opOkB, decide_eq_true_eq] at h1 h2
  unfold rk
  omega

/-- where the last step of a node that did anything put it -/
def wantAt (n : Int) : Pl → List Stp → Pl
  | p, [] => p
  | p, s :: l => wantAt n (if s.1.2.2.1.1 = n ∧ s.2.1 = true then (n, s.1.2.2.1.2.1, s.1.2.2.1.2.2) else p) l

theorem run_want (n : Int) (l : List Mv) : ∀ t, find (runT t l) n = wantAt n (find t n) (runS t l) := by
  induction l with
  | nil => intro t; rfl
  | cons o l ih =>
    intro t
    show find (runT (dT t o) l) n = wantAt n (if o.2.2.1.1 = n ∧ (!ring t o) = true then (n, o.2.2.1.2.1, o.2.2.1.2.2) else find t n) (runS (dT t o) l)
    rw [ih]
    congr 1
    unfold dT
    cases hr : ring t o
    · rw [if_neg (by simp), find_in]
      by_cases hn : n = o.2.2.1.1
      · subst hn
        simp
      · rw [if_neg hn, if_neg (fun h => hn h.1.symm)]
    · simp
end Orangery

/- Plain facts on chapter 3: what Fold, Check and Insert answer, of operations and steps as lists. -/
namespace Orangery

/-- the first error of operations -/
def firstE : List Mv → Int
  | [] => 0
  | o :: l => if checkOp o ≠ 0 then checkOp o else firstE l

theorem firstE_zero (l : List Mv) : firstE l = 0 ↔ ∀ o ∈ l, checkOp o = 0 := by
  induction l with
  | nil => simp [firstE]
  | cons o l ih =>
    unfold firstE
    by_cases h : checkOp o = 0
    · rw [if_neg (by simp [h]), ih]
      simp [h]
    · rw [if_pos h]
      constructor
      · intro h'; exact absurd h' h
      · intro h'; exact absurd (h' o (by simp)) h

/-- a look at operations one by one -/
theorem firstE_drop (l : List Mv) (k : Nat) (h : k < l.length) (hs : firstE (l.drop k) = firstE l) :
    (checkOp l[k] ≠ 0 → firstE l = checkOp l[k]) ∧ (checkOp l[k] = 0 → firstE (l.drop (k + 1)) = firstE l) := by
  rw [List.drop_eq_getElem_cons h] at hs
  have e : firstE (l[k] :: l.drop (k + 1)) = if checkOp l[k] ≠ 0 then checkOp l[k] else firstE (l.drop (k + 1)) := rfl
  rw [e] at hs
  constructor
  · intro h1; rw [if_pos h1] at hs; exact hs.symm
  · intro h1; rw [if_neg (by simp [h1])] at hs; exact hs

/-- history.Fold -/
def foldE (l : List Mv) : Int := if 30 < l.length then 2 else if firstE l ≠ 0 then firstE l else if (srt l).length < l.length then 6 else 0
def foldL (l : List Mv) : List Stp := if foldE l ≠ 0 then [] else runS [] (srt l)
def foldT (l : List Mv) : List Pl := if foldE l ≠ 0 then [] else runT [] (srt l)

theorem foldE_zero (l : List Mv) : foldE l = 0 ↔ l.length ≤ 30 ∧ (∀ o ∈ l, checkOp o = 0) ∧ noTwo l := by
  rw [← firstE_zero]
  unfold foldE
  have hs := srt_len l
  constructor
  · intro h
    split at h
    · omega
    · split at h
      · contradiction
      · split at h
        · omega
        · rename_i h1 h2 h3
          refine ⟨by omega, by simpa using h2, ?_⟩
          by_cases hn : noTwo l
          · exact hn
          · exact absurd (hs.2.2 hn) h3
  · rintro ⟨h1, h2, h3⟩
    rw [if_neg (by omega), if_neg (by simp [h2]), if_neg]
    have := (hs.2.1 h3).length_eq
    omega

theorem foldE_perm {l m : List Mv} (hp : l.Perm m) (h : foldE l = 0) : foldE m = 0 ∧ srt m = srt l := by
  obtain ⟨h1, h2, h3⟩ := (foldE_zero l).1 h
  exact ⟨(foldE_zero m).2 ⟨by rw [← hp.length_eq]; exact h1, fun o ho => h2 o (hp.mem_iff.2 ho), noTwo_perm hp h3⟩, (srt_perm l m h3 hp).symm⟩

theorem srt_ok {l : List Mv} (h : foldE l = 0) : foldE (srt l) = 0 ∧ (srt l).Perm l ∧ (srt l).length = l.length := by
  obtain ⟨h1, h2, h3⟩ := (foldE_zero l).1 h
  have hp := (srt_len l).2.1 h3
  exact ⟨(foldE_perm hp.symm h).1, hp, hp.length_eq⟩

theorem fold_ok {l : List Mv} (h : foldE l = 0) : foldL l = runS [] (srt l) ∧ foldT l = runT [] (srt l) ∧ (foldL l).map (·.1) = srt l ∧ (foldL l).length = l.length ∧ check (foldT l) = 0 := by
  obtain ⟨h1, h2, h3⟩ := (foldE_zero l).1 h
  have e1 : foldL l = runS [] (srt l) := by unfold foldL; rw [if_neg (by simp [h])]
  have e2 : foldT l = runT [] (srt l) := by unfold foldT; rw [if_neg (by simp [h])]
  refine ⟨e1, e2, by rw [e1, runS_ops], by rw [e1, runS_len]; exact (srt_ok h).2.2, ?_⟩
  rw [e2]
  exact runT_check _ _ check_empty (fun o ho => h2 o (srt_mem l o ho))

theorem fold_perm {l m : List Mv} (hp : l.Perm m) (h : foldE l = 0) : foldL m = foldL l ∧ foldT m = foldT l := by
  obtain ⟨h1, h2⟩ := foldE_perm hp h
  obtain ⟨a1, a2, _⟩ := fold_ok h
  obtain ⟨b1, b2, _⟩ := fold_ok h1
  rw [a1, a2, b1, b2, h2]
  exact ⟨rfl, rfl⟩

/-- a history: steps and a tree -/
def eqSts : List Stp → List Stp → Bool
  | [], [] => true
  | s :: l, t :: m => decide (s = t) && eqSts l m
  | _, _ => false
theorem eqSts_iff (l : List Stp) : ∀ m, eqSts l m = true ↔ l = m := by
  induction l with
  | nil => intro m; cases m <;> simp [eqSts]
  | cons s l ih =>
    intro m
    cases m with
    | nil => simp [eqSts]
    | cons t m =>
      show (decide (s = t) && eqSts l m) = true ↔ _
      rw [Bool.and_eq_true, ih, decide_eq_true_eq, List.cons.injEq]
def sameB (L M : List Stp) (T U : List Pl) : Bool := eqSts L M && decide (T = U)
theorem sameB_iff (L M : List Stp) (T U : List Pl) : sameB L M T U = true ↔ L = M ∧ T = U := by
  unfold sameB
  rw [Bool.and_eq_true, eqSts_iff, decide_eq_true_eq]
def histE (L : List Stp) (T : List Pl) : Int := if foldE (L.map (·.1)) ≠ 0 then foldE (L.map (·.1)) else if sameB (foldL (L.map (·.1))) L (foldT (L.map (·.1))) T = true then 0 else 4

/-- what Fold made is one -/
theorem hist_fold {l : List Mv} (h : foldE l = 0) : histE (foldL l) (foldT l) = 0 := by
  obtain ⟨_, _, h3, _, _⟩ := fold_ok h
  obtain ⟨h4, h5, _⟩ := srt_ok h
  obtain ⟨h6, h7⟩ := fold_perm h5 h4
  unfold histE
  rw [h3, if_neg (by simp [h4]), if_pos ((sameB_iff _ _ _ _).2 ⟨h6.symm, h7.symm⟩)]
theorem hist_empty : histE [] [] = 0 := by decide

/-- the stamp of an operation is there -/
def thereB (L : List Stp) (o : Mv) : Bool := L.any fun s => s.1.1 == o.1 && s.1.2.1 == o.2.1

/-- history.Insert -/
def insE (L : List Stp) (T : List Pl) (o : Mv) : Int :=
  if histE L T ≠ 0 then histE L T else if checkOp o ≠ 0 then checkOp o else if thereB L o = true then 6 else foldE (L.map (·.1) ++ [o])
def insL (L : List Stp) (T : List Pl) (o : Mv) : List Stp := if insE L T o ≠ 0 then [] else foldL (L.map (·.1) ++ [o])
def insT (L : List Stp) (T : List Pl) (o : Mv) : List Pl := if insE L T o ≠ 0 then [] else foldT (L.map (·.1) ++ [o])

theorem there_iff {l : List Mv} (L : List Stp) (hl : L.map (·.1) = l) (hok : ∀ x ∈ l, checkOp x = 0) (o : Mv) (ho : checkOp o = 0) : thereB L o = true ↔ ∃ x ∈ l, rk x = rk o := by
  unfold thereB
  rw [List.any_eq_true]
  subst hl
  constructor
  · rintro ⟨s, hs, he⟩
    have hm : s.1 ∈ L.map (·.1) := List.mem_map.2 ⟨s, hs, rfl⟩
    simp at he
    exact ⟨s.1, hm, (rk_eq (hok _ hm) ho).2 he⟩
  · rintro ⟨x, hx, he⟩
    obtain ⟨s, hs, rfl⟩ := List.mem_map.1 hx
    refine ⟨s, hs, ?_⟩
    have := (rk_eq (hok _ hx) ho).1 he
    simp [this]

/-- one more operation, put into what Fold made of the others -/
theorem ins_fold {l : List Mv} (h : foldE l = 0) (o : Mv) (h' : foldE (l ++ [o]) = 0) : insE (foldL l) (foldT l) o = 0 ∧ insL (foldL l) (foldT l) o = foldL (l ++ [o]) ∧ insT (foldL l) (foldT l) o = foldT (l ++ [o]) := by
  obtain ⟨_, _, h3, _, _⟩ := fold_ok h
  obtain ⟨_, hp, _⟩ := srt_ok h
  obtain ⟨g1, g2, g3⟩ := (foldE_zero _).1 h'
  obtain ⟨k1, k2, k3⟩ := (foldE_zero l).1 h
  have ho : checkOp o = 0 := g2 o (by simp)
  have hpo : (srt l ++ [o]).Perm (l ++ [o]) := hp.append_right [o]
  have hf := (foldE_perm hpo.symm h').1
  have hno : thereB (foldL l) o = false := by
    cases ht : thereB (foldL l) o
    · rfl
    · exfalso
      obtain ⟨x, hx, he⟩ := (there_iff (foldL l) h3 (fun x hx => k2 x (srt_mem l x hx)) o ho).1 ht
      have hxl := srt_mem l x hx
      unfold noTwo at g3
      rw [List.pairwise_append] at g3
      exact g3.2.2 x hxl o (by simp) he
  have e0 : insE (foldL l) (foldT l) o = 0 := by
    unfold insE
    rw [if_neg (by simp [hist_fold h]), if_neg (by simp [ho]), if_neg (by simp [hno]), h3]
    exact hf
  obtain ⟨e1, e2⟩ := fold_perm hpo.symm h'
  refine ⟨e0, ?_, ?_⟩
  · unfold insL; rw [if_neg (by simp [e0]), h3]; exact e1
  · unfold insT; rw [if_neg (by simp [e0]), h3]; exact e2

theorem fold_prefix {l m : List Mv} (h : foldE (l ++ m) = 0) : foldE l = 0 := by
  obtain ⟨h1, h2, h3⟩ := (foldE_zero _).1 h
  unfold noTwo at h3
  rw [List.pairwise_append] at h3
  exact (foldE_zero l).2 ⟨by rw [List.length_append] at h1; omega, fun o ho => h2 o (by simp [ho]), h3.1⟩

/-- an operation of a later stamp comes behind, and turns nothing -/
theorem ins_late {l : List Mv} (h : foldE l = 0) (o : Mv) (hl : ∀ x ∈ l, rk x < rk o) (h' : foldE (l ++ [o]) = 0) : ∃ s : Stp, s.1 = o ∧ foldL (l ++ [o]) = foldL l ++ [s] := by
  obtain ⟨e1, _, _⟩ := fold_ok h
  obtain ⟨e2, _, _⟩ := fold_ok h'
  obtain ⟨_, hp, _⟩ := srt_ok h
  have es : srt (l ++ [o]) = srt l ++ [o] := by
    have h1 := srt_late (srt l) o (srt_sorted l) (fun x hx => hl x (srt_mem l x hx))
    rw [← h1]
    exact ((foldE_perm (hp.symm.append_right [o]) h').2).symm
  refine ⟨dS (runT [] (srt l)) o, rfl, ?_⟩
  rw [e1, e2, es, runS_append]
  rfl
end Orangery

/- history's small functions: has, byStamp; slices.ContainsFunc, IndexFunc, Clone at operations; orangeryref.rank. -/
namespace Go.Proofs.Ytphameoibnimmaa
open Go.ChangeShapes Go.WideShapes Go.ChangeAt Go.RowKit
open Orangery (Pl Mv Stp cmpI orI rk)

def sameS (t u : Int) (o : Mv) : Bool := decide (o.1 = t) && decide (o.2.1 = u)
def hasS (l : List Mv) (t u : Int) : Bool := l.any (sameS t u)

set_option maxHeartbeats 400000 in
theorem has1_any (w : World) (o : Mv) (t u : Int) (b : Nat) (hb : b < w.heap.size) (c0 : w.cell? ⟨b, 0, none⟩ = some (.int .i64 t)) (c1 : w.cell? ⟨b, 1, none⟩ = some (.int .i64 u)) :
    Calls Try.prog 81 #[opV o, .pointer (some ⟨b, 0, none⟩)] w fun e w' => e = .returned (.bool (sameS t u o)) ∧ Below w.heap.size w w' := by
  obtain ⟨o1, o2, ⟨o3, o4, o5⟩, o6, o7⟩ := o
  have he := run_eql_stamp
  have hg := guard_stamp
  have hne : ¬ w.heap.size = b := by omega
  go_enter Try.func81, Try.ntmps81
  go_wp2
  go_ret
  exact ⟨rfl, Go.Joins.below_alloc1 w _⟩

set_option maxHeartbeats 1000000 in
theorem indexFuncOps_any (w : World) (a : Option Addr) (c : Nat) (l : List Mv) (g : Nat) (v : Value) (f : Mv → Bool) (hl : l.length ≤ maxLen) (h : SlE opC w a l)
    (eg : ∀ args w, (callFunc g args).run Try.prog w = .ok (.enter g args) w)
    (hg : ∀ W p, Below w.heap.size w W → Calls Try.prog g #[opV p, v] W fun e w' => e = .returned (.bool (f p)) ∧ Below W.heap.size W w') :
    Calls Try.prog 94 #[.slice a l.length c, .func (.func g) #[] #[v]] w
      fun e w' => (∃ i : Int, e = .returned (.int .i64 i) ∧ (l.any f = true → 0 ≤ i) ∧ (l.any f = false → i = -1)) ∧ Below w.heap.size w w' := by
  have hl' : l.length ≤ 9223372036854775807 := hl
  go_enter Try.func94, Try.ntmps94
  go_wp2
  go_loopw [8] (fun i W => ∃ k : Nat, k ≤ l.length ∧ i = .int .i64 k ∧ (∀ j, (hj : j < l.length) → j < k → f l[j] = false) ∧ Below w.heap.size w W) (fun i _ => l.length - (intOf i).toNat)
  case atStart => exact ⟨0, Nat.zero_le _, rfl, fun j _ hj => absurd hj (Nat.not_lt_zero _), Below.refl _ _⟩
  case round =>
    obtain ⟨k, hk, rfl, hno, hb⟩ := hrel
    have HNO : Hid (∀ j, (hj : j < l.length) → j < k → f l[j] = false) := hno
    clear hno
    by_cases hlt : k < l.length
    · obtain ⟨b, off, rfl, hbl, hr⟩ := h.at opC_len k hlt
      have hr1 : wr.rangeAt b (off + k * 7) (opC l[k]) := fun j v hv => by rw [hb.cell (by exact hbl)]; exact hr j v hv
      obtain ⟨g0, g1, g2, g3, g4, g5, g6⟩ := op_cells hr1
      have HQ : Hid (l.any f = true ↔ ∃ x ∈ l, f x = true) := List.any_eq_true
      have HM : Hid (l[k] ∈ l) := List.getElem_mem hlt
      clear hr hr1
      go_wp2_with fail
      refine (hg wr l[k] hb).mono ?_
      rintro e w1 ⟨rfl, hb1⟩
      have hb2 : Below w.heap.size w w1 := hb.trans (hb1.mono hb.size)
      cases hr : f l[k]
      · go_wp2
        go_roundw
        case rel =>
          refine ⟨k + 1, hlt, by go_num, fun j hj hjk => ?_, hb2⟩
          by_cases hjk' : j < k
          · exact HNO.out j hj hjk'
          · have : j = k := by omega
            subst this
            exact hr
        case measure => simp [intOf]; omega
      · go_wp2
        go_ret
        refine ⟨⟨k, rfl, fun _ => by omega, fun hn => ?_⟩, hb2⟩
        have := HQ.out.2 ⟨_, HM.out, hr⟩
        rw [hn] at this
        simp at this
    · go_wp2
      go_ret
      refine ⟨⟨-1, rfl, fun hm => ?_, fun _ => rfl⟩, hb⟩
      obtain ⟨x, hx, e⟩ := List.any_eq_true.1 hm
      obtain ⟨j, hj, rfl⟩ := List.getElem_of_mem hx
      rw [HNO.out j hj (by omega)] at e
      simp at e

set_option maxHeartbeats 1000000 in
theorem containsFuncOps_any (w : World) (a : Option Addr) (c : Nat) (l : List Mv) (g : Nat) (v : Value) (f : Mv → Bool) (hl : l.length ≤ maxLen) (h : SlE opC w a l)
    (eg : ∀ args w, (callFunc g args).run Try.prog w = .ok (.enter g args) w)
    (hg : ∀ W p, Below w.heap.size w W → Calls Try.prog g #[opV p, v] W fun e w' => e = .returned (.bool (f p)) ∧ Below W.heap.size W w') :
    Calls Try.prog 80 #[.slice a l.length c, .func (.func g) #[] #[v]] w
      fun e w' => e = .returned (.bool (l.any f)) ∧ Below w.heap.size w w' := by
  have hc := indexFuncOps_any w a c l g v f hl h eg hg
  clear hg eg h
  go_enter Try.func80, Try.ntmps80
  go_wp2_with fail
  refine hc.mono ?_
  rintro e w' ⟨⟨i, rfl, hi1, hi2⟩, hb⟩
  cases hm : l.any f
  · have h0 := hi2 hm
    subst h0
    clear hi1 hi2
    go_wp2
    go_ret
    exact ⟨ret_bool hm.symm, hb⟩
  · have h0 := hi1 hm
    clear hi1 hi2
    go_wp2
    go_ret
    exact ⟨ret_bool hm.symm, hb⟩

set_option maxHeartbeats 1000000 in
theorem has_any (w : World) (a : Option Addr) (c : Nat) (l : List Mv) (t u : Int) (hl : l.length ≤ maxLen) (h : SlE opC w a l) :
    Calls Try.prog 62 #[.slice a l.length c, .agg #[.int .i64 t, .int .i64 u]] w
      fun e w' => e = .returned (.bool (hasS l t u)) ∧ Below w.heap.size w w' := by
  go_enter Try.func62, Try.ntmps62
  go_wp2_with fail
  have hN := Blk.new w [Value.int IntKind.i64 t, Value.int IntKind.i64 u] 47
  have hB := Go.Joins.below_alloc1 w (Obj.cells #[Value.int IntKind.i64 t, Value.int IntKind.i64 u] 47)
  have hP := h.below hB
  clear h
  refine (containsFuncOps_any _ a c l 81 (.pointer (some ⟨w.heap.size, 0, none⟩)) (sameS t u) hl hP (Go.Proofs.enters_of Try.func81 (by kernel_rfl) rfl) ?_).mono ?_
  · intro W p hb
    have hN1 := hN.keep hb
    exact has1_any W p t u w.heap.size hN1.lt (hN1.at 0 rfl) (hN1.at 1 rfl)
  rintro e w1 ⟨rfl, hb⟩
  have hb2 : Below w.heap.size w w1 := hB.trans (hb.mono (by simp))
  clear hN hB hP hb
  go_wp2
  go_ret
  exact ⟨rfl, hb2⟩

def byS (o p : Mv) : Int := orI (cmpI o.1 p.1) (cmpI o.2.1 p.2.1)

set_option maxHeartbeats 1000000 in
theorem byStamp_any (w : World) (o p : Mv) :
    Calls Try.prog 65 #[opV o, opV p] w fun e w' => e = .returned (.int .i64 (byS o p)) ∧ ∃ n os, w' = Go.Sort.grow (w.drewN n) os := by
  obtain ⟨o1, o2, ⟨o3, o4, o5⟩, o6, o7⟩ := o
  obtain ⟨p1, p2, ⟨p3, p4, p5⟩, p6, p7⟩ := p
  have HE : Hid (byS (o1, o2, (o3, o4, o5), o6, o7) (p1, p2, (p3, p4, p5), p6, p7) = orI (cmpI o1 p1) (cmpI o2 p2)) := rfl
  go_enter Try.func65, Try.ntmps65
  go_wp2
  have hG : ∃ os, ((w.alloc (Obj.cells (opC (o1, o2, (o3, o4, o5), o6, o7)).toArray 49)).alloc (Obj.cells (opC (p1, p2, (p3, p4, p5), p6, p7)).toArray 49)) = Go.Sort.grow w os := ⟨_, by rw [Go.Sort.alloc_eq_grow, Go.Sort.alloc_eq_grow, Go.Sort.grow_grow]⟩
  obtain ⟨W2, hW, hO, hP, _, hS⟩ := laid2 w (opC (o1, o2, (o3, o4, o5), o6, o7)) 49 (opC (p1, p2, (p3, p4, p5), p6, p7)) 49
  rw [hW] at hG
  change ((w.alloc (Obj.cells #[Value.int IntKind.i64 o1, Value.int IntKind.i64 o2, Value.int IntKind.i64 o3, Value.int IntKind.i64 o4, Value.int IntKind.i64 o5, Value.int IntKind.i64 o6, Value.int IntKind.i64 o7] 49)).alloc (Obj.cells #[Value.int IntKind.i64 p1, Value.int IntKind.i64 p2, Value.int IntKind.i64 p3, Value.int IntKind.i64 p4, Value.int IntKind.i64 p5, Value.int IntKind.i64 p6, Value.int IntKind.i64 p7] 49)) = W2 at hW
  rw [hW]
  clear hW
  have y0 := hO.at 0 rfl
  have y1 := hO.at 1 rfl
  have y2 := hP.at 0 rfl
  have y3 := hP.at 1 rfl
  have HG : Hid (∃ os, W2 = Go.Sort.grow w os) := hG
  clear hG hO hP
  have n0 := World.new_ne W2 ⟨w.heap.size, 0, none⟩ y0
  have n1 := World.new_ne W2 ⟨w.heap.size, 1, none⟩ y1
  have n2 := World.new_ne W2 ⟨w.heap.size + 1, 0, none⟩ y2
  have n3 := World.new_ne W2 ⟨w.heap.size + 1, 1, none⟩ y3
  have F0 : Hid ((W2.alloc (Obj.cells #[Value.int IntKind.i64 (cmpI o1 p1), Value.int IntKind.i64 (cmpI o2 p2)] 3)).cell? ⟨w.heap.size + 2, 0, none⟩ = some (.int .i64 (cmpI o1 p1))) := by
    show World.cell? _ _ = _
    rw [← hS]; simp
  have F1 : Hid ((W2.alloc (Obj.cells #[Value.int IntKind.i64 (cmpI o1 p1), Value.int IntKind.i64 (cmpI o2 p2)] 3)).cell? ⟨w.heap.size + 2, 1, none⟩ = some (.int .i64 (cmpI o2 p2))) := by
    show World.cell? _ _ = _
    rw [← hS]; simp
  go_region_held3 (fun w' => w'.cell? ⟨w.heap.size, 0, none⟩ = some (.int .i64 o1) ∧ w'.cell? ⟨w.heap.size, 1, none⟩ = some (.int .i64 o2) ∧ w'.cell? ⟨w.heap.size + 1, 0, none⟩ = some (.int .i64 p1) ∧ w'.cell? ⟨w.heap.size + 1, 1, none⟩ = some (.int .i64 p2)) (go_keep)
    (first | (go_at_call 74; refine (compare_any _ _ _).mono ?_; rintro e w' ⟨rfl, rfl⟩) | (go_at_call 73; refine (or_any _ _ _ (cmpI o1 p1) (cmpI o2 p2) ?_ ?_).mono ?_; exact F0.out; exact F1.out; rintro e w' ⟨rfl, rfl⟩))
  go_wp2
  go_ret
  refine ⟨ret_int HE.out.symm, ?_⟩
  obtain ⟨os, hos⟩ := HG.out
  subst hos
  exact ⟨1, _, by rw [Go.Sort.alloc_eq_grow, Go.Sort.grow_grow]; rfl⟩

set_option maxHeartbeats 1000000 in
theorem cloneOps_any (w : World) (a : Option Addr) (c : Nat) (l : List Mv) (hl : l.length ≤ 1000) (h : SlE opC w a l) :
    Calls Try.prog 63 #[.slice a l.length c] w
      fun e w' => ∃ v, e = .returned v ∧ OwnE opC 7 49 w' w.heap.size v l ∧ Below w.heap.size w w' := by
  obtain ⟨i0, hi, hz0, hz1, hz2⟩ := info_parts infoOp
  have hq := fun (W : World) (a : Option Addr) (n c : Nat) => Lib.run_eql_slice_nil (P := Try.prog) W 59 49 a n c 0 0 Try.underlying59
  cases a with
  | none =>
    have hl0 : l = [] := by
      rcases h with h | ⟨b, off, h, _⟩
      · exact h
      · simp at h
    subst hl0
    go_enter Try.func63, Try.ntmps63
    go_wp2
    go_ret
    exact ⟨_, rfl, OwnE.nil _ _, Below.refl _ _⟩
  | some ad =>
    have hB := Go.Joins.below_alloc1 w (Obj.cells #[] 49)
    have hP := h.below hB
    have hown : (w.alloc (Obj.cells #[] 49)).ownsRow w.heap.size 49 7 (.slice (some ⟨w.heap.size, 0, none⟩) 0 0) 0 [] :=
      ⟨rfl, Or.inr ⟨w.heap.size, 0, #[], rfl, Nat.le_refl _, blk_new rfl, Nat.le_refl _, by unfold maxLen; omega, rfl, rfl⟩⟩
    have hnews : ∀ j u, (l.flatMap opC)[j]? = some u → (w.alloc (Obj.cells #[] 49)).cell? (ad.add j) = some u := by
      rcases hP with hP | ⟨b, off, ha, _, hp⟩
      · intro j u hj; subst hP; simp at hj
      · simp at ha
        subst ha
        intro j u hj
        rw [Addr.add_mid]
        exact hp j u hj
    have HN : Hid (∀ j u, (l.flatMap opC)[j]? = some u → (w.alloc (Obj.cells #[] 49)).cell? (ad.add j) = some u) := hnews
    clear hP h hnews
    go_enter Try.func63, Try.ntmps63
    go_wp2_with (at_builtin; refine wpList_append_own _ rfl _ _ 59 rfl w.heap.size 49 i0 _ 7 56 Try.underlying59 hi hz0 hz1 hz2 rfl (by decide) _ _ _ rfl hown ad l.length c (l.flatMap opC) rfl (flatE_len opC_len l) ?c1 ?c2 ?c3 ?c4 ?c5 ?_)
    case c1 => exact HN.out
    case c2 => exact flat_oneE opC_one l
    case c3 => unfold maxLen; omega
    case c4 => omega
    case c5 => exact hB.size
    · intro v' w1 hown' hgrow _
      have hb1 := hB.trans (below_grown hown hB.size hgrow)
      have hO : OwnE opC 7 49 w1 w.heap.size v' l := by simpa [OwnE] using hown'
      clear hgrow hown hown'
      go_wp2
      go_ret
      exact ⟨_, rfl, hO, hb1⟩
end Go.Proofs.Ytphameoibnimmaa

/- slices.DeleteFunc at places, on a slice of the call's own. -/
namespace Go.Proofs.Ytphameoibnimmaa
open Go.ChangeShapes Go.WideShapes Go.ChangeAt Go.RowKit
open Orangery (Pl idxF Kept)

theorem HoldsP.set {w : World} {g : Nat} {m : List Pl} (h : HoldsP w g m) (i : Nat) (hi : i < m.length) (x : Pl) :
    HoldsP (((w.setCell ⟨g, i * 3, none⟩ (.int .i64 x.1)).setCell ⟨g, i * 3 + 1, none⟩ (.int .i64 x.2.1)).setCell ⟨g, i * 3 + 2, none⟩ (.int .i64 x.2.2)) g (m.set i x) := by
  obtain ⟨hp, hf⟩ := h
  refine ⟨?_, ?_⟩
  · intro k hk
    have hk' : k < m.length := by simpa using hk
    have h0 := hp i hi
    have h1 := hp k hk'
    simp only [Nat.zero_add] at h0 h1 ⊢
    by_cases hik : i = k
    · subst hik
      simp only [List.getElem_set_self]
      refine ⟨?_, ?_, ?_⟩
      · rw [World.cell?_setCell_other _ _ _ _ (by simp), World.cell?_setCell_other _ _ _ _ (by simp), World.cell?_setCell_same _ _ _ h0.1]
      · rw [World.cell?_setCell_other _ _ _ _ (by simp), World.cell?_setCell_same _ _ _ (u := .int .i64 m[i].2.1)]
        rw [World.cell?_setCell_other _ _ _ _ (by simp), h0.2.1]
      · rw [World.cell?_setCell_same _ _ _ (u := .int .i64 m[i].2.2)]
        rw [World.cell?_setCell_other _ _ _ _ (by simp), World.cell?_setCell_other _ _ _ _ (by simp), h0.2.2]
    · rw [List.getElem_set_ne hik]
      refine ⟨?_, ?_, ?_⟩
      all_goals
        rw [World.cell?_setCell_other _ _ _ _ (by simp <;> omega), World.cell?_setCell_other _ _ _ _ (by simp <;> omega), World.cell?_setCell_other _ _ _ _ (by simp <;> omega)]
      · exact h1.1
      · exact h1.2.1
      · exact h1.2.2
  · intro k hk
    simp only [World.frozen?_setCell]
    exact hf k (by simpa using hk)

theorem HoldsP.below {w w' : World} {g : Nat} {m : List Pl} (h : HoldsP w g m) (hg : g < w.heap.size) (hb : Below w.heap.size w w') : HoldsP w' g m :=
  ⟨fun i hi => by rw [hb.cell hg, hb.cell hg, hb.cell hg]; exact h.1 i hi, fun i hi => by rw [hb.frozen hg]; exact h.2 i hi⟩

theorem zeroPlaces (n : Nat) : ∀ v ∈ (Builtin.zeroCells #[Value.int IntKind.i64 0, Value.int IntKind.i64 0, Value.int IntKind.i64 0] n).toList, v.oneCell' = true := by
  intro v hv
  simp [Builtin.zeroCells] at hv
  obtain ⟨a, _, rfl⟩ := hv
  have : a % 3 = 0 ∨ a % 3 = 1 ∨ a % 3 = 2 := by omega
  rcases this with h | h | h <;> rw [h] <;> rfl

/-- 'clear' of the end of a row -/
theorem run_clear_places (w : World) (ty : TypeId) (g i n c : Nat) (m : List Pl) (h : HoldsP w g m) (hn : i + n = m.length) (hp : 0 < n) :
    ∃ vs, vs.length = n * 3 ∧ (Builtin.clear_ #[27] ty #[.slice (some ⟨g, i * 3, none⟩) n c]).run Try.prog w = .ok (.tuple #[]) (w.setCells g (i * 3) vs) := by
  refine ⟨(Builtin.zeroCells #[Value.int IntKind.i64 0, Value.int IntKind.i64 0, Value.int IntKind.i64 0] n).toList, by simp [size_zeroCells], ?_⟩
  have hst := run_storeCells_cells (P := Try.prog) g (i * 3) (Builtin.zeroCells #[Value.int IntKind.i64 0, Value.int IntKind.i64 0, Value.int IntKind.i64 0] n).toList 0 w
    (by
      intro j hj
      have hj' : j < n * 3 := by simpa [size_zeroCells] using hj
      have hc := h.1 ((i * 3 + j) / 3) (by omega)
      have hm : (i * 3 + j) % 3 = 0 ∨ (i * 3 + j) % 3 = 1 ∨ (i * 3 + j) % 3 = 2 := by omega
      rcases hm with hm | hm | hm
      · rw [show i * 3 + 0 + j = 0 + (i * 3 + j) / 3 * 3 by omega, hc.1]; rfl
      · rw [show i * 3 + 0 + j = 0 + (i * 3 + j) / 3 * 3 + 1 by omega, hc.2.1]; rfl
      · rw [show i * 3 + 0 + j = 0 + (i * 3 + j) / 3 * 3 + 2 by omega, hc.2.2]; rfl)
    (by
      intro j hj
      have hj' : j < n * 3 := by simpa [size_zeroCells] using hj
      exact h.2 _ (by omega))
    (zeroPlaces n)
  simp only [Nat.add_zero] at hst
  obtain ⟨k, rfl⟩ : ∃ k, n = k + 1 := ⟨n - 1, by omega⟩
  have hz := Try.zeroValue36
  simp [Builtin.clear_, run_underlying Try.underlying27, hz, Value.cells, hst]

theorem HoldsP.cleared {w : World} {g i : Nat} {m : List Pl} (h : HoldsP w g m) (vs : List Value) (hi : i ≤ m.length) : HoldsP (w.setCells g (i * 3) vs) g (m.take i) := by
  refine ⟨fun k hk => ?_, fun k hk => ?_⟩
  · have hk' : k < i := by simp at hk; omega
    have := h.1 k (by omega)
    rw [List.getElem_take]
    rw [World.cell?_setCells_out _ _ _ _ _ (by simp; omega), World.cell?_setCells_out _ _ _ _ _ (by simp; omega), World.cell?_setCells_out _ _ _ _ _ (by simp; omega)]
    exact this
  · rw [World.frozen?_setCells]
    exact h.2 k (by simp at hk; omega)

theorem below_setCells {B : Nat} {w : World} (g : Nat) (hg : B ≤ g) : ∀ (vs : List Value) (o : Nat) (W : World), Below B w W → Below B w (W.setCells g o vs)
  | [], _, _, h => h
  | v :: r, o, W, h => below_setCells g hg r (o + 1) _ (h.setCell (by exact hg) v)

set_option maxHeartbeats 2000000 in
theorem delete_any (w : World) (base : Nat) (sv : Value) (l : List Pl) (k : Nat) (v : Value) (f : Pl → Bool) (hl : l.length ≤ 1000) (h : OwnS w base sv l)
    (hbase : base ≤ w.heap.size)
    (eg : ∀ args w, (callFunc k args).run Try.prog w = .ok (.enter k args) w)
    (hg : ∀ W p, Below base w W → Calls Try.prog k #[plV p, v] W fun e w' => e = .returned (.bool (f p)) ∧ Below W.heap.size W w') :
    Calls Try.prog 42 #[sv, .func (.func k) #[] #[v]] w
      fun e w' => ∃ rv, e = .returned rv ∧ OwnS w' base rv (l.filter fun p => !f p) ∧ Below base w w' := by
  obtain ⟨a, c, rfl, hP⟩ := h.slp
  go_enter Try.func42, Try.ntmps42
  go_wp2_with fail
  refine (indexFunc_any w a c l k v f (by unfold maxLen; omega) hP eg (fun W p hb => hg W p (hb.mono hbase))).mono ?_
  rintro e w1 ⟨rfl, hb1⟩
  have hO1 := h.below hb1
  have hB1 : Below base w w1 := hb1.mono hbase
  have hS1 : base ≤ w1.heap.size := Nat.le_trans hbase hb1.size
  clear hP h
  rcases Orangery.idxF_first f l 0 with ⟨h1, h2⟩ | ⟨i, hi, h1, h2⟩
  · rw [h1]
    have HE : Hid (l.filter (fun p => !f p) = l) := h2
    clear h1 h2
    go_wp2
    go_ret
    exact ⟨_, rfl, by rw [HE.out]; exact hO1, hB1⟩
  · rw [h1, Nat.zero_add]
    have hK := Kept.start f l i hi h2
    clear h1 h2
    rcases hO1 with ⟨_, hO1⟩ | ⟨g, cap, hv, hgb, hgl, hcap, hcm, hH, hrow⟩
    · exact absurd hi (by simp [hO1])
    have hv' : a = some ⟨g, 0, none⟩ ∧ c = cap := by simpa using hv
    obtain ⟨rfl, rfl⟩ := hv'
    clear hv
    have HH : Hid (HoldsP w1 g l) := hH
    have HROW : Hid (RowAt w1 g c) := hrow
    clear hrow
    have HK : Hid (Kept f l l i (i + 1)) := hK
    clear hH hK
    have hi' : ((i : Int) == -1) = false := by simp <;> omega
    go_wp2
    go_loopw [5, 6] (fun x y W => ∃ (i j : Nat) (m : List Pl), x = .int .i64 i ∧ y = .int .i64 j ∧ Kept f l m i j ∧ HoldsP W g m ∧ (g < W.heap.size ∧ RowAt W g c) ∧ Below base w W) (fun _ y _ => l.length - (intOf y).toNat)
    case atStart => exact ⟨i, i + 1, l, rfl, by go_num, HK.out, HH.out, ⟨hgl, HROW.out⟩, hB1⟩
    case round =>
      clear hgl HH HK hi' HROW
      obtain ⟨i, j, m, rfl, rfl, hK, hH, ⟨hgl, hrow⟩, hb⟩ := hrel
      have HROW : Hid (RowAt wr g c) := hrow
      clear hrow
      have HH : Hid (HoldsP wr g m) := hH
      have HK : Hid (Kept f l m i j) := hK
      have hml : m.length = l.length := hK.1
      have hij : i < j := hK.2.1
      have hjl : j ≤ l.length := hK.2.2.1
      by_cases hlt : j < l.length
      · obtain ⟨hjm, hmj⟩ := hK.get hlt
        have gg := hH.1 j hjm
        rw [hmj] at gg
        simp only [Nat.zero_add] at gg
        obtain ⟨g0, g1, g2⟩ := gg
        have hx := hH.1 i (by omega)
        simp only [Nat.zero_add] at hx
        obtain ⟨x0, x1, x2⟩ := hx
        have hfr : ∀ t, t < m.length * 3 → wr.frozen? ⟨g, t, none⟩ = false := hH.2
        have K1 := hK.skip hlt
        have K2 := hK.keep hlt
        have HK1 : Hid (f l[j] = true → Kept f l m i (j + 1)) := K1
        have HK2 : Hid (f l[j] = false → Kept f l (m.set i l[j]) (i + 1) (j + 1)) := K2
        have HQ0 : Hid (m[j] = l[j]) := hmj
        clear hH hK K1 K2 hmj
        generalize hq : l[j] = q at *
        obtain ⟨q0, q1, q2⟩ := q
        have HQ : Hid (l[j] = (q0, q1, q2)) := hq
        clear hq
        simp only at g0 g1 g2
        go_wp2_with fail
        refine (hg _ (q0, q1, q2) (hb.alloc (Nat.le_trans hbase hb.size) _)).mono ?_
        rintro e w2 ⟨rfl, hb2⟩
        have hb3 : Below base w w2 := (hb.alloc (Nat.le_trans hbase hb.size) _).trans (hb2.mono (by simp; exact Nat.le_succ_of_le (Nat.le_trans hbase hb.size)))
        have hB2 : Below wr.heap.size wr w2 := (Go.Joins.below_alloc1 wr _).trans (hb2.mono (by simp))
        have z0 : w2.cell? ⟨wr.heap.size, 0, none⟩ = some (.int .i64 q0) := by rw [hb2.cell (by simp)]; simp
        have z1 : w2.cell? ⟨wr.heap.size, 1, none⟩ = some (.int .i64 q1) := by rw [hb2.cell (by simp)]; simp
        have z2 : w2.cell? ⟨wr.heap.size, 2, none⟩ = some (.int .i64 q2) := by rw [hb2.cell (by simp)]; simp
        have H2 : HoldsP w2 g m := HH.out.below hgl hB2
        have hgl2 : g < w2.heap.size := Nat.lt_of_lt_of_le hgl hB2.size
        have HROW2 : Hid (RowAt w2 g c) := HROW.out.below hB2 hgl
        have hne : ¬ wr.heap.size = g := by omega
        clear hb2 hB2 g0 g1 g2 x0 x1 x2 hfr hb HH
        cases hr : f (q0, q1, q2)
        · have HH2 : Hid (HoldsP w2 g m) := H2
          have hx := H2.1 i (by omega)
          simp only [Nat.zero_add] at hx
          obtain ⟨x0, x1, x2⟩ := hx
          have f0 := H2.2 (i * 3) (by omega)
          have f1 := H2.2 (i * 3 + 1) (by omega)
          have f2 := H2.2 (i * 3 + 2) (by omega)
          clear H2
          go_wp2
          go_roundw
          case rel =>
            refine ⟨i + 1, j + 1, m.set i (q0, q1, q2), by go_num, by go_num, HK2.out hr, HH2.out.set i (by omega) (q0, q1, q2), ⟨by simpa using hgl2, ((HROW2.out.set _ _ _).set _ _ _).set _ _ _⟩, ((hb3.setCell hgb _).setCell hgb _).setCell hgb _⟩
          case measure => simp [intOf]; omega
        · go_wp2
          go_roundw
          case rel => exact ⟨i, j + 1, m, rfl, by go_num, HK1.out hr, H2, ⟨hgl2, HROW2.out⟩, hb3⟩
          case measure => simp [intOf]; omega
      · have e := hK.done hlt
        have HE : Hid (m.take i = l.filter fun p => !f p) := e
        obtain ⟨vs, hvs, hrun⟩ := run_clear_places wr 0 g i (l.length - i) (c - i) m hH (by omega) (by omega)
        have HH2 : Hid (HoldsP (wr.setCells g (i * 3) vs) g (m.take i)) := hH.cleared vs (by omega)
        have hb2 := below_setCells g hgb vs (i * 3) wr hb
        have hlen : (m.take i).length = i := by simp; omega
        have hsz : (wr.setCells g (i * 3) vs).heap.size = wr.heap.size := by simp [Go.Sort.size_setCells]
        clear e hH hK
        go_wp2
        go_ret
        refine ⟨_, rfl, ?_, hb2⟩
        rw [← HE.out]
        refine Or.inr ⟨g, c, by rw [hlen]; rfl, hgb, by rw [hsz]; exact hgl, by omega, hcm, HH2.out, RowAt.sets g _ _ _ HROW.out⟩
end Go.Proofs.Ytphameoibnimmaa

/- move.without, move.with$1. -/
namespace Go.Proofs.Ytphameoibnimmaa
open Go.ChangeShapes Go.WideShapes Go.ChangeAt Go.RowKit
open Orangery (Pl Mv Stp outL inL cmpI)

theorem OwnS.mono {w : World} {base base' : Nat} {v : Value} {l : List Pl} (h : OwnS w base v l) (hb : base' ≤ base) : OwnS w base' v l := by
  rcases h with h | ⟨g, cap, rfl, h1, h2⟩
  · exact Or.inl h
  · exact Or.inr ⟨g, cap, rfl, Nat.le_trans hb h1, h2⟩

theorem OwnS.val {w : World} {base : Nat} {v : Value} {l : List Pl} (h : OwnS w base v l) : ∃ a cap, v = .slice a l.length cap := by
  obtain ⟨a, cap, e, _⟩ := h.slp
  exact ⟨a, cap, e⟩

/-- an own slice, behind the writing of an elder block -/
theorem OwnS.other {w : World} {base : Nat} {v : Value} {l : List Pl} (h : OwnS w base v l) (g : Nat) (hg : g < base) (j : Nat) (u : Value) : OwnS (w.setCell ⟨g, j, none⟩ u) base v l := by
  rcases h with h | ⟨b, cap, rfl, h1, hl, h2, h3, ⟨hp, hf⟩, hr⟩
  · exact Or.inl h
  · refine Or.inr ⟨b, cap, rfl, h1, by simpa using hl, h2, h3, ⟨fun i hi => ?_, fun i hi => ?_⟩, hr.set _ _ _⟩
    · rw [World.cell?_setCell_other _ _ _ _ (by simp <;> omega), World.cell?_setCell_other _ _ _ _ (by simp <;> omega), World.cell?_setCell_other _ _ _ _ (by simp <;> omega)]
      exact hp i hi
    · simp only [World.frozen?_setCell]
      exact hf i hi

theorem OwnS.others {base : Nat} {v : Value} {l : List Pl} (g : Nat) (hg : g < base) : ∀ (us : List Value) (o : Nat) (w : World), OwnS w base v l → OwnS (w.setCells g o us) base v l
  | [], _, _, h => h
  | u :: r, o, _, h => OwnS.others g hg r (o + 1) _ (h.other g hg o u)

set_option maxHeartbeats 1000000 in
theorem without_any (w : World) (a : Option Addr) (c : Nat) (l : List Pl) (n : Int) (hl : l.length ≤ 1000) (h : SlP w a l) :
    Calls Try.prog 57 #[.agg #[.slice a l.length c], .int .i64 n] w
      fun e w' => ∃ v, e = .returned (.agg #[v]) ∧ OwnS w' w.heap.size v (outL l n) ∧ Below w.heap.size w w' := by
  go_enter Try.func57, Try.ntmps57
  go_wp2_with fail
  obtain ⟨W0, hW, _, hN, hR, hB, hS⟩ := laid3 w [Value.slice a l.length c] 29 [Value.int IntKind.i64 n] 3 [Value.slice none 0 0] 29
  rw [hW]
  clear hW
  have hP := h.below hB
  clear h
  refine (clone_any W0 a c l hl hP).mono ?_
  rintro e w1 ⟨v1, rfl, hO1, hb1⟩
  have hN1 := hN.keep hb1
  have hR1 := hR.keep hb1
  have HB1 : Hid (Below w.heap.size w w1) := hB.trans (hb1.mono hB.size)
  clear hN hR hB hP
  go_wp2_with fail
  refine (delete_any w1 W0.heap.size v1 l 77 (.pointer (some ⟨w.heap.size + 1, 0, none⟩)) (fun p => p.1 == n) hl hO1 hb1.size (Go.Proofs.enters_of Try.func77 (by kernel_rfl) rfl) ?_).mono ?_
  · intro W p hW
    have := hN1.below hW (by omega)
    exact without1_any W p n _ this.lt (this.at 0 rfl)
  rintro e w2 ⟨v2, rfl, hO2, hb2⟩
  have hR2 := hR1.below hb2 (by omega)
  have HB2 : Hid (Below w.heap.size w w2) := HB1.out.trans (hb2.mono (by omega))
  have z0 := hR2.at 0 rfl
  have f0 := hR2.frz
  have hO3 := hO2.mono (base' := w.heap.size + 1 + 1 + 1) (by omega)
  obtain ⟨a2, c2, rfl⟩ := hO3.val
  have HO : Hid (OwnS w2 (w.heap.size + 1 + 1 + 1) (.slice a2 (l.filter fun p => !(p.1 == n)).length c2) (outL l n)) := hO3
  clear hO1 hb1 hN1 hR1 hb2 hO2 HB1 hO3
  go_wp2
  have z1 : (w2.setCell ⟨w.heap.size + 1 + 1, 0, none⟩ (.slice a2 (l.filter fun p => !(p.1 == n)).length c2)).cell? ⟨w.heap.size + 1 + 1, 0, none⟩ = some (.slice a2 (l.filter fun p => !(p.1 == n)).length c2) := World.cell?_setCell_same _ _ _ z0
  refine bodyPost_ret (v := .agg #[.slice a2 (l.filter fun p => !(p.1 == n)).length c2]) (by simp [results, Try.results57, go_sem, z1]) rfl ⟨_, rfl, ?_, ?_⟩
  · exact (HO.out.other _ (by omega) _ _).mono (by omega)
  · exact HB2.out.setCell (by show _ ≤ w.heap.size + 1 + 1; omega) _

theorem with1_any (w : World) (p q : Pl) :
    Calls Try.prog 76 #[plV p, plV q] w fun e w' => e = .returned (.int .i64 (cmpI p.1 q.1)) ∧ ∃ n os, w' = Go.Sort.grow (w.drewN n) os := by
  obtain ⟨a0, a1, a2⟩ := p
  obtain ⟨b0, b1, b2⟩ := q
  go_enter Try.func76, Try.ntmps76
  go_wp2_with fail
  refine (compare_any _ a0 b0).mono ?_
  rintro e w1 ⟨rfl, rfl⟩
  go_wp2
  go_ret
  exact ⟨rfl, 0, _, by rw [Go.Sort.alloc_eq_grow, Go.Sort.alloc_eq_grow, Go.Sort.grow_grow]; rfl⟩
end Go.Proofs.Ytphameoibnimmaa

/- slices.SortFunc at places is the library's, by its own laws. -/
namespace Go.Proofs
open Go.Shelf
def Try.sortPl_ren : Go.Shelf.Ren := ⟨fun | 6 => 44 | 15 => 72 | 14 => 71 | 28 => 91 | 29 => 92 | 20 => 83 | 21 => 84 | 22 => 85 | 23 => 86 | 24 => 87 | 25 => 88 | 26 => 89 | 27 => 90 | 46 => 103 | 47 => 104 | 48 => 105 | 49 => 106 | 50 => 107 | 57 => 111 | n => n, fun | 22 => 27 | 24 => 36 | 25 => 74 | 3 => 3 | 39 => 97 | 0 => 0 | 53 => 115 | 55 => 117 | 4 => 4 | 46 => 108 | 45 => 107 | 50 => 112 | 5 => 5 | 9 => 9 | 66 => 124 | 70 => 128 | 76 => 132 | 77 => 133 | n => n, fun | n => n⟩
theorem Try.sortPl : Go.Proofs.SlLaysF0.n6 Try.prog Try.sortPl_ren := {
  mixed := by kernel_rfl
  f6 := ⟨Try.f44.name, by decide, Try.func44.trans (congrArg some (by kernel_rfl))⟩
  f14 := ⟨Try.f71.name, by decide, Try.func71.trans (congrArg some (by kernel_rfl))⟩
  f15 := Try.func72.trans (congrArg some (by kernel_rfl))
  f20 := ⟨Try.f83.name, by decide, Try.func83.trans (congrArg some (by kernel_rfl))⟩
  f21 := ⟨Try.f84.name, by decide, Try.func84.trans (congrArg some (by kernel_rfl))⟩
  f22 := ⟨Try.f85.name, by decide, Try.func85.trans (congrArg some (by kernel_rfl))⟩
  f23 := ⟨Try.f86.name, by decide, Try.func86.trans (congrArg some (by kernel_rfl))⟩
  f24 := ⟨Try.f87.name, by decide, Try.func87.trans (congrArg some (by kernel_rfl))⟩
  f25 := ⟨Try.f88.name, by decide, Try.func88.trans (congrArg some (by kernel_rfl))⟩
  f26 := ⟨Try.f89.name, by decide, Try.func89.trans (congrArg some (by kernel_rfl))⟩
  f27 := ⟨Try.f90.name, by decide, Try.func90.trans (congrArg some (by kernel_rfl))⟩
  f28 := Try.func91.trans (congrArg some (by kernel_rfl))
  f29 := Try.func92.trans (congrArg some (by kernel_rfl))
  f46 := ⟨Try.f103.name, by decide, Try.func103.trans (congrArg some (by kernel_rfl))⟩
  f47 := Try.func104.trans (congrArg some (by kernel_rfl))
  f48 := Try.func105.trans (congrArg some (by kernel_rfl))
  f49 := ⟨Try.f106.name, by decide, Try.func106.trans (congrArg some (by kernel_rfl))⟩
  f50 := ⟨Try.f107.name, by decide, Try.func107.trans (congrArg some (by kernel_rfl))⟩
  f57 := ⟨Try.f111.name, by decide, Try.func111.trans (congrArg some (by kernel_rfl))⟩
  t0 := Try.underlying0
  a0 := Try.isAgg0
  z0 := Try.sizeOf0
  v0 := Try.zeroValue0
  t3 := Try.underlying3
  a3 := Try.isAgg3
  z3 := Try.sizeOf3
  v3 := Try.zeroValue3
  t4 := Try.underlying4
  a4 := Try.isAgg4
  z4 := Try.sizeOf4
  v4 := Try.zeroValue4
  t5 := Try.underlying5
  a5 := Try.isAgg5
  z5 := Try.sizeOf5
  v5 := Try.zeroValue5
  t9 := Try.underlying9
  a9 := Try.isAgg9
  z9 := Try.sizeOf9
  v9 := Try.zeroValue9
  t22 := Try.underlying27
  a22 := Try.isAgg27
  z22 := Try.sizeOf27
  v22 := Try.zeroValue27
  t25 := Try.underlying74
  a25 := Try.isAgg74
  z25 := Try.sizeOf74
  v25 := Try.zeroValue74
  t39 := Try.underlying97
  a39 := Try.isAgg97
  z39 := Try.sizeOf97
  v39 := Try.zeroValue97
  t45 := Try.underlying107
  a45 := Try.isAgg107
  z45 := Try.sizeOf107
  v45 := Try.zeroValue107
  t46 := Try.underlying108
  a46 := Try.isAgg108
  z46 := Try.sizeOf108
  v46 := Try.zeroValue108
  t50 := Try.underlying112
  a50 := Try.isAgg112
  z50 := Try.sizeOf112
  v50 := Try.zeroValue112
  t53 := Try.underlying115
  a53 := Try.isAgg115
  z53 := Try.sizeOf115
  v53 := Try.zeroValue115
  t55 := Try.underlying117
  a55 := Try.isAgg117
  z55 := Try.sizeOf117
  v55 := Try.zeroValue117
  t66 := Try.underlying124
  a66 := Try.isAgg124
  z66 := Try.sizeOf124
  v66 := Try.zeroValue124
  t70 := Try.underlying128
  a70 := Try.isAgg128
  z70 := Try.sizeOf128
  v70 := Try.zeroValue128
  t76 := Try.underlying132
  a76 := Try.isAgg132
  z76 := Try.sizeOf132
  v76 := Try.zeroValue132
  t77 := Try.underlying133
  a77 := Try.isAgg133
  z77 := Try.sizeOf133
  v77 := Try.zeroValue133 }
end Go.Proofs

