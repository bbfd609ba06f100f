/- 7 texts of the proof: Plain facts on histories: operations by their stamps, done one by one: runT (the tree), runS (the steps), srt (by rank, of like ranks the first one). Plain facts on chapter 3: what Fold, Check and Insert answer, of operations and steps as lists. history's small functions: has, byStamp; slices.ContainsFunc, IndexFunc, Clone at operations; orangeryref.rank. slices.Equal at places. Results that lie i -/
import Derived.Laws.StructEq
import Derived.OwnWalk
import Derived.Test.YthlhnokgcnieeadGreatP03
import Derived.Test.YthlhnokgcnieeadGreatP01
import Derived.Test.YthlhnokgcnieeadGreatP02
/- Plain facts on histories: operations by their stamps, done one by one: runT (the tree), runS (the steps), srt (by rank, of like ranks the first one). -/
namespace Orangery

/-- the rank of an operation's stamp -/
def rk (o : Mv) : Int := o.1 * 3 + o.2.1
abbrev byRk (l : List Mv) : Prop := l.Pairwise fun a b => rk a < rk b

/-- one operation, of a right tree -/
def dT (t : List Pl) (o : Mv) : List Pl := if ring t o = true then t else inL t o.2.2.1
def dS (t : List Pl) (o : Mv) : Stp := (o, !ring t o, find t o.2.2.1.1)
def runT : List Pl → List Mv → List Pl
  | t, [] => t
  | t, o :: l => runT (dT t o) l
def runS : List Pl → List Mv → List Stp
  | _, [] => []
  | t, o :: l => dS t o :: runS (dT t o) l

theorem runT_append (l m : List Mv) : ∀ t, runT t (l ++ m) = runT (runT t l) m := by
  induction l with
  | nil => intro t; rfl
  | cons o l ih => intro t; exact ih _
theorem runS_append (l m : List Mv) : ∀ t, runS t (l ++ m) = runS t l ++ runS (runT t l) m := by
  induction l with
  | nil => intro t; rfl
  | cons o l ih => intro t; show dS t o :: runS (dT t o) (l ++ m) = dS t o :: (runS (dT t o) l ++ runS (runT (dT t o) l) m); rw [ih]
theorem runS_ops (l : List Mv) : ∀ t, (runS t l).map (·.1) = l := by
  induction l with
  | nil => intro t; rfl
  | cons o l ih => intro t; show o :: (runS (dT t o) l).map (·.1) = o :: l; rw [ih]
theorem runS_len (l : List Mv) (t : List Pl) : (runS t l).length = l.length := by
  have := congrArg List.length (runS_ops l t)
  simpa using this

theorem dT_eq {t : List Pl} {o : Mv} (h : doE t o = 0) : doT t o = dT t o ∧ doS t o = dS t o := ⟨doT_eq h, doS_eq h⟩
theorem doE_of {t : List Pl} {o : Mv} (h1 : check t = 0) (h2 : checkOp o = 0) : doE t o = 0 := by
  unfold doE orI
  rw [if_neg (by simp [h1]), h2]
theorem dT_check {t : List Pl} {o : Mv} (h1 : check t = 0) (h2 : checkOp o = 0) : check (dT t o) = 0 := by
  have h := doE_of h1 h2
  rw [← (dT_eq h).1]
  exact doT_check h
theorem runT_check (l : List Mv) : ∀ t, check t = 0 → (∀ o ∈ l, checkOp o = 0) → check (runT t l) = 0 := by
  induction l with
  | nil => intro t h _; exact h
  | cons o l ih => intro t h hl; exact ih _ (dT_check h (hl o (by simp))) (fun p hp => hl p (by simp [hp]))
theorem check_empty : check [] = 0 := by decide

theorem snoc_ind {P : List Mv → Prop} (h0 : P []) (h1 : ∀ l o, P l → P (l ++ [o])) : ∀ l, P l := by
  have key : ∀ r : List Mv, P r.reverse := by
    intro r
    induction r with
    | nil => exact h0
    | cons o r ih => rw [List.reverse_cons]; exact h1 _ _ ih
  intro l
  have := key l.reverse
  rwa [List.reverse_reverse] at this

/-- an operation put in by its rank -/
def insO (o : Mv) (l : List Mv) : List Mv := (l.filter fun x => decide (rk x < rk o)) ++ o :: (l.filter fun x => decide (rk o < rk x))
def hasR (o : Mv) (l : List Mv) : Bool := l.any fun x => rk x == rk o
def addO (l : List Mv) (o : Mv) : List Mv := if hasR o l = true then l else insO o l
def srt (l : List Mv) : List Mv := l.foldl addO []

theorem srt_nil : srt [] = [] := rfl
theorem srt_snoc (l : List Mv) (o : Mv) : srt (l ++ [o]) = addO (srt l) o := by
  unfold srt
  rw [List.foldl_append]
  rfl

theorem hasR_iff (o : Mv) (l : List Mv) : hasR o l = true ↔ ∃ x ∈ l, rk x = rk o := by
  unfold hasR
  rw [List.any_eq_true]
  simp

theorem insO_sorted (o : Mv) (l : List Mv) (h : byRk l) : byRk (insO o l) := by
  unfold insO byRk
  rw [List.pairwise_append]
  refine ⟨h.filter _, ?_, ?_⟩
  · rw [List.pairwise_cons]
    exact ⟨by intro q hq; simp at hq; omega, h.filter _⟩
  · intro q hq r hr
    simp at hq hr
    rcases hr with rfl | hr <;> omega

theorem insO_mem (o : Mv) (l : List Mv) (h : hasR o l = false) (x : Mv) : x ∈ insO o l ↔ x = o ∨ x ∈ l := by
  have hn : ∀ y ∈ l, rk y ≠ rk o := by
    intro y hy e
    have := (hasR_iff o l).2 ⟨y, hy, e⟩
    rw [h] at this
    simp at this
  unfold insO
  rw [List.mem_append, List.mem_cons, List.mem_filter, List.mem_filter]
  simp only [decide_eq_true_eq]
  constructor
  · rintro (⟨h1, _⟩ | h1 | ⟨h1, _⟩)
    · exact Or.inr h1
    · exact Or.inl h1
    · exact Or.inr h1
  · rintro (h1 | h1)
    · exact Or.inr (Or.inl h1)
    · rcases Int.lt_or_gt_of_ne (hn x h1) with h2 | h2
      · exact Or.inl ⟨h1, h2⟩
      · exact Or.inr (Or.inr ⟨h1, h2⟩)

theorem filterM_or (f g : Mv → Bool) (hd : ∀ p, f p = true → g p = false) (l : List Mv) : (l.filter f ++ l.filter g).Perm (l.filter fun p => f p || g p) := by
  induction l with
  | nil => exact List.Perm.refl _
  | cons p l ih =>
    simp only [List.filter_cons]
    cases hf : f p
    · cases hg : g p
      · simpa using ih
      · simp only [Bool.or_true, if_true, Bool.false_eq_true, if_false]
        exact List.perm_middle.trans (List.Perm.cons _ ih)
    · have hg := hd p hf
      simp only [hg, Bool.or_false, if_true, Bool.false_eq_true, if_false, List.cons_append]
      exact List.Perm.cons _ ih

theorem insO_perm (o : Mv) (l : List Mv) (h : hasR o l = false) : (insO o l).Perm (l ++ [o]) := by
  have h1 := filterM_or (fun q => decide (rk q < rk o)) (fun q => decide (rk o < rk q)) (by intro q hq; simp at hq ⊢; omega) l
  have e : (l.filter fun q => decide (rk q < rk o) || decide (rk o < rk q)) = l := by
    rw [List.filter_eq_self]
    intro q hq
    have : rk q ≠ rk o := by
      intro e
      have := (hasR_iff o l).2 ⟨q, hq, e⟩
      rw [h] at this
      simp at this
    simp
    omega
  rw [e] at h1
  unfold insO
  refine List.perm_middle.trans ?_
  refine (List.Perm.cons o h1).trans ?_
  exact List.perm_append_comm (l₁ := [o])

theorem srt_sorted : ∀ l, byRk (srt l) := by
  refine snoc_ind ?_ ?_
  · exact List.Pairwise.nil
  · intro l o ih
    rw [srt_snoc]
    unfold addO
    split
    · exact ih
    · exact insO_sorted o _ ih

theorem srt_first : ∀ l, ∀ d ∈ srt l, l.find? (fun x => rk x == rk d) = some d := by
  refine snoc_ind ?_ ?_
  · intro d hd; simp [srt_nil] at hd
  · intro l o ih d hd
    rw [srt_snoc] at hd
    rw [List.find?_append]
    unfold addO at hd
    split at hd
    · rw [ih d hd]; rfl
    · rename_i hn
      have hn' : hasR o (srt l) = false := by simpa using hn
      rw [insO_mem o _ hn'] at hd
      rcases hd with rfl | hd
      · have : l.find? (fun x => rk x == rk d) = none := by
          rw [List.find?_eq_none]
          intro x hx he
          have he' : rk x = rk d := by simpa using he
          have key : ∀ l : List Mv, ∀ x ∈ l, ∃ y ∈ srt l, rk y = rk x := by
            refine snoc_ind ?_ ?_
            · intro x hx; simp at hx
            · intro l o ih x hx
              rw [srt_snoc]
              unfold addO
              split
              · rename_i hh
                rw [List.mem_append] at hx
                rcases hx with hx | hx
                · exact ih x hx
                · simp at hx
                  subst hx
                  exact (hasR_iff _ _).1 hh
              · rename_i hh
                have hh' : hasR o (srt l) = false := by simpa using hh
                rw [List.mem_append] at hx
                rcases hx with hx | hx
                · obtain ⟨y, hy, e⟩ := ih x hx
                  exact ⟨y, (insO_mem o _ hh' y).2 (Or.inr hy), e⟩
                · simp at hx
                  subst hx
                  exact ⟨x, (insO_mem x _ hh' x).2 (Or.inl rfl), rfl⟩
          obtain ⟨y, hy, e⟩ := key l x hx
          have := (hasR_iff d (srt l)).2 ⟨y, hy, by rw [e, he']⟩
          rw [hn'] at this
          simp at this
        rw [this]
        simp
      · rw [ih d hd]; rfl

theorem srt_all : ∀ l : List Mv, ∀ x ∈ l, ∃ y ∈ srt l, rk y = rk x := by
  refine snoc_ind ?_ ?_
  · intro x hx; simp at hx
  · intro l o ih x hx
    rw [srt_snoc]
    unfold addO
    split
    · rename_i hh
      rw [List.mem_append] at hx
      rcases hx with hx | hx
      · exact ih x hx
      · simp at hx
        subst hx
        exact (hasR_iff _ _).1 hh
    · rename_i hh
      have hh' : hasR o (srt l) = false := by simpa using hh
      rw [List.mem_append] at hx
      rcases hx with hx | hx
      · obtain ⟨y, hy, e⟩ := ih x hx
        exact ⟨y, (insO_mem o _ hh' y).2 (Or.inr hy), e⟩
      · simp at hx
        subst hx
        exact ⟨x, (insO_mem x _ hh' x).2 (Or.inl rfl), rfl⟩

theorem srt_mem (l : List Mv) (d : Mv) (h : d ∈ srt l) : d ∈ l := List.mem_of_find?_eq_some (srt_first l d h)

/-- no two of a like rank -/
abbrev noTwo (l : List Mv) : Prop := l.Pairwise fun a b => rk a ≠ rk b

theorem srt_len : ∀ l, (srt l).length ≤ l.length ∧ (noTwo l → (srt l).Perm l) ∧ (¬ noTwo l → (srt l).length < l.length) := by
  refine snoc_ind ?_ ?_
  · exact ⟨by simp [srt_nil], fun _ => by rw [srt_nil], fun h => absurd List.Pairwise.nil h⟩
  · intro l o ⟨h1, h2, h3⟩
    rw [srt_snoc]
    unfold addO
    have hlast : noTwo (l ++ [o]) ↔ noTwo l ∧ ∀ x ∈ l, rk x ≠ rk o := by
      unfold noTwo
      rw [List.pairwise_append]
      simp
    split
    · rename_i hh
      refine ⟨by simp; omega, fun hn => ?_, fun _ => by simp; omega⟩
      exfalso
      obtain ⟨x, hx, e⟩ := (hasR_iff _ _).1 hh
      exact (hlast.1 hn).2 x (srt_mem l x hx) e
    · rename_i hh
      have hh' : hasR o (srt l) = false := by simpa using hh
      have hp := insO_perm o (srt l) hh'
      have hl := hp.length_eq
      rw [List.length_append] at hl
      refine ⟨by rw [hl]; simp; exact h1, fun hn => ?_, fun hn => ?_⟩
      · exact hp.trans ((h2 (hlast.1 hn).1).append_right [o])
      · rw [hl]
        have : ¬ noTwo l := by
          intro hl'
          apply hn
          rw [hlast]
          refine ⟨hl', fun x hx e => ?_⟩
          obtain ⟨y, hy, e2⟩ := srt_all l x hx
          have := (hasR_iff o (srt l)).2 ⟨y, hy, by rw [e2, e]⟩
          rw [hh'] at this
          simp at this
        have := h3 this
        simp
        exact this

theorem rk_unique (l m : List Mv) (hl : byRk l) (hm : byRk m) (hp : l.Perm m) : l = m := by
  refine List.Perm.eq_of_pairwise (le := fun a b : Mv => rk a ≤ rk b) ?_ (hl.imp (by intro a b h; omega)) (hm.imp (by intro a b h; omega)) hp
  intro a b h1 h2 h3 h4
  have h5 : a ∈ m := hp.mem_iff.1 h1
  have key : ∀ m : List Mv, byRk m → a ∈ m → b ∈ m → rk a = rk b → a = b := by
    intro m
    induction m with
    | nil => intro _ h; simp at h
    | cons x m ih =>
      intro hb ha hbm e
      replace hb := List.pairwise_cons.1 hb
      simp at ha hbm
      rcases ha with rfl | ha <;> rcases hbm with rfl | hbm
      · rfl
      · have := hb.1 b hbm; omega
      · have := hb.1 a ha; omega
      · exact ih hb.2 ha hbm e
  exact key m hm h5 h2 (by omega)

theorem byRk_noTwo {l : List Mv} (h : byRk l) : noTwo l := h.imp (by intro a b h; omega)
theorem noTwo_perm {l m : List Mv} (h : l.Perm m) (hl : noTwo l) : noTwo m :=
  (h.pairwise_iff (by intro a b h e; exact h e.symm)).1 hl

/-- what is in order, and holds the same ones, is what is sorted -/
theorem srt_unique (l m : List Mv) (hm : byRk m) (hp : m.Perm l) : srt l = m :=
  rk_unique _ _ (srt_sorted l) hm (((srt_len l).2.1 (noTwo_perm hp (byRk_noTwo hm))).trans hp.symm)
theorem srt_self (l : List Mv) (h : byRk l) : srt l = l := srt_unique l l h (List.Perm.refl _)
theorem srt_perm (l m : List Mv) (hn : noTwo l) (hp : l.Perm m) : srt l = srt m :=
  srt_unique l (srt m) (srt_sorted m) (((srt_len m).2.1 (noTwo_perm hp hn)).trans hp.symm)
theorem srt_again (l : List Mv) : srt (srt l) = srt l := srt_self _ (srt_sorted l)

/-- the rank ahead of the k-th -/
def lastR (d : List Mv) (k : Nat) : Int := if h : 0 < k ∧ k - 1 < d.length then rk d[k - 1] else -1

/-- the least one above the last one is the next one -/
theorem srt_next (l : List Mv) (k : Nat) (hk : k ≤ (srt l).length) (hpos : ∀ o ∈ l, 0 ≤ rk o) (b : Mv) (hf : l.find? (fun x => rk x == rk b) = some b) (hb : lastR (srt l) k < rk b)
    (hmin : ∀ x ∈ l, lastR (srt l) k < rk x → rk b ≤ rk x) : ∃ h : k < (srt l).length, (srt l)[k] = b := by
  have hbl : b ∈ l := List.mem_of_find?_eq_some hf
  obtain ⟨d, hd, e⟩ := srt_all l b hbl
  have hdb : d = b := by
    have h1 := srt_first l d hd
    rw [e, hf] at h1
    exact (Option.some.inj h1).symm
  subst hdb
  obtain ⟨j, hj, hjd⟩ := List.getElem_of_mem hd
  have hs := List.pairwise_iff_getElem.1 (srt_sorted l)
  have hjk : k ≤ j := by
    rcases Nat.lt_or_ge j k with h | h
    · exfalso
      unfold lastR at hb
      rw [dif_pos ⟨by omega, by omega⟩, ← hjd] at hb
      rcases Nat.lt_or_ge j (k - 1) with h2 | h2
      · have := hs j (k - 1) hj (by omega) h2; omega
      · have e2 : j = k - 1 := by omega
        subst e2
        omega
    · exact h
  have hlt : k < (srt l).length := by omega
  refine ⟨hlt, ?_⟩
  rcases Nat.lt_or_ge k j with h | h
  · exfalso
    have h1 := hs k j hlt hj h
    have h2 : lastR (srt l) k < rk (srt l)[k] := by
      unfold lastR
      split
      · exact hs (k - 1) k (by omega) hlt (by omega)
      · have := hpos _ (srt_mem l _ (List.getElem_mem hlt)); omega
    have h3 := hmin _ (srt_mem l _ (List.getElem_mem hlt)) h2
    rw [hjd] at h1
    omega
  · have e2 : j = k := by omega
    subst e2
    exact hjd

/-- where none is above the last one, all are there -/
theorem srt_none (l : List Mv) (k : Nat) (hk : k ≤ (srt l).length) (hpos : ∀ o ∈ l, 0 ≤ rk o) (hno : ∀ x ∈ l, ¬ lastR (srt l) k < rk x) : k = (srt l).length := by
  rcases Nat.lt_or_ge k (srt l).length with h | h
  · exfalso
    have hs := List.pairwise_iff_getElem.1 (srt_sorted l)
    refine hno _ (srt_mem l _ (List.getElem_mem h)) ?_
    unfold lastR
    split
    · exact hs (k - 1) k (by omega) h (by omega)
    · have := hpos _ (srt_mem l _ (List.getElem_mem h)); omega
  · omega

/-- later ones come behind -/
theorem srt_late (d : List Mv) (o : Mv) (hd : byRk d) (h : ∀ x ∈ d, rk x < rk o) : srt (d ++ [o]) = d ++ [o] := by
  refine srt_self _ ?_
  unfold byRk
  rw [List.pairwise_append]
  refine ⟨hd, by simp, ?_⟩
  intro a ha b hb
  simp at hb
  subst hb
  exact h a ha

theorem rk_pos {o : Mv} (h : checkOp o = 0) : 0 ≤ rk o := by
  have := checkOp_zero h
  simp only [opOkB, decide_eq_true_eq] at this
  unfold rk
  omega
/-- like ranks are like stamps -/
theorem rk_eq {o p : Mv} (ho : checkOp o = 0) (hp : checkOp p = 0) : rk o = rk p ↔ o.1 = p.1 ∧ o.2.1 = p.2.1 := by
  have h1 := checkOp_zero ho
  have h2 := checkOp_zero hp
  simp only [opOkB, decide_eq_true_eq] at h1 h2
  unfold rk
  omega
theorem rk_lt {o p : Mv} (ho : checkOp o = 0) (hp : checkOp p = 0) : rk o < rk p ↔ o.1 < p.1 ∨ (o.1 = p.1 ∧ o.2.1 < p.2.1) := by
  have h1 := checkOp_zero ho
  have h2 := checkOp_zero hp
  simp only [opOkB, decide_eq_true_eq] at h1 h2
  unfold rk
  omega

/-- where the last step of a node that did anything put it -/
def wantAt (n : Int) : Pl → List Stp → Pl
  | p, [] => p
  | p, s :: l => wantAt n (if s.1.2.2.1.1 = n ∧ s.2.1 = true then (n, s.1.2.2.1.2.1, s.1.2.2.1.2.2) else p) l

theorem run_want (n : Int) (l : List Mv) : ∀ t, find (runT t l) n = wantAt n (find t n) (runS t l) := by
  induction l with
  | nil => intro t; rfl
  | cons o l ih =>
    intro t
    show find (runT (dT t o) l) n = wantAt n (if o.2.2.1.1 = n ∧ (!ring t o) = true then (n, o.2.2.1.2.1, o.2.2.1.2.2) else find t n) (runS (dT t o) l)
    rw [ih]
    congr 1
    unfold dT
    cases hr : ring t o
    · rw [if_neg (by simp), find_in]
      by_cases hn : n = o.2.2.1.1
      · subst hn
        simp
      · rw [if_neg hn, if_neg (fun h => hn h.1.symm)]
    · simp
end Orangery

/- Plain facts on chapter 3: what Fold, Check and Insert answer, of operations and steps as lists. -/
namespace Orangery

/-- the first error of operations -/
def firstE : List Mv → Int
  | [] => 0
  | o :: l => if checkOp o ≠ 0 then checkOp o else firstE l

theorem firstE_zero (l : List Mv) : firstE l = 0 ↔ ∀ o ∈ l, checkOp o = 0 := by
  induction l with
  | nil => simp [firstE]
  | cons o l ih =>
    unfold firstE
    by_cases h : checkOp o = 0
    · rw [if_neg (by simp [h]), ih]
      simp [h]
    · rw [if_pos h]
      constructor
      · intro h'; exact absurd h' h
      · intro h'; exact absurd (h' o (by simp)) h

/-- a look at operations one by one -/
theorem firstE_drop (l : List Mv) (k : Nat) (h : k < l.length) (hs : firstE (l.drop k) = firstE l) :
    (checkOp l[k] ≠ 0 → firstE l = checkOp l[k]) ∧ (checkOp l[k] = 0 → firstE (l.drop (k + 1)) = firstE l) := by
  rw [List.drop_eq_getElem_cons h] at hs
  have e : firstE (l[k] :: l.drop (k + 1)) = if checkOp l[k] ≠ 0 then checkOp l[k] else firstE (l.drop (k + 1)) := rfl
  rw [e] at hs
  constructor
  · intro h1; rw [if_pos h1] at hs; exact hs.symm
  · intro h1; rw [if_neg (by simp [h1])] at hs; exact hs

/-- history.Fold -/
def foldE (l : List Mv) : Int := if 30 < l.length then 2 else if firstE l ≠ 0 then firstE l else if (srt l).length < l.length then 6 else 0
def foldL (l : List Mv) : List Stp := if foldE l ≠ 0 then [] else runS [] (srt l)
def foldT (l : List Mv) : List Pl := if foldE l ≠ 0 then [] else runT [] (srt l)

theorem foldE_zero (l : List Mv) : foldE l = 0 ↔ l.length ≤ 30 ∧ (∀ o ∈ l, checkOp o = 0) ∧ noTwo l := by
  rw [← firstE_zero]
  unfold foldE
  have hs := srt_len l
  constructor
  · intro h
    split at h
    · omega
    · split at h
      · contradiction
      · split at h
        · omega
        · rename_i h1 h2 h3
          refine ⟨by omega, by simpa using h2, ?_⟩
          by_cases hn : noTwo l
          · exact hn
          · exact absurd (hs.2.2 hn) h3
  · rintro ⟨h1, h2, h3⟩
    rw [if_neg (by omega), if_neg (by simp [h2]), if_neg]
    have := (hs.2.1 h3).length_eq
    omega

theorem foldE_perm {l m : List Mv} (hp : l.Perm m) (h : foldE l = 0) : foldE m = 0 ∧ srt m = srt l := by
  obtain ⟨h1, h2, h3⟩ := (foldE_zero l).1 h
  exact ⟨(foldE_zero m).2 ⟨by rw [← hp.length_eq]; exact h1, fun o ho => h2 o (hp.mem_iff.2 ho), noTwo_perm hp h3⟩, (srt_perm l m h3 hp).symm⟩

theorem srt_ok {l : List Mv} (h : foldE l = 0) : foldE (srt l) = 0 ∧ (srt l).Perm l ∧ (srt l).length = l.length := by
  obtain ⟨h1, h2, h3⟩ := (foldE_zero l).1 h
  have hp := (srt_len l).2.1 h3
  exact ⟨(foldE_perm hp.symm h).1, hp, hp.length_eq⟩

theorem fold_ok {l : List Mv} (h : foldE l = 0) : foldL l = runS [] (srt l) ∧ foldT l = runT [] (srt l) ∧ (foldL l).map (·.1) = srt l ∧ (foldL l).length = l.length ∧ check (foldT l) = 0 := by
  obtain ⟨h1, h2, h3⟩ := (foldE_zero l).1 h
  have e1 : foldL l = runS [] (srt l) := by unfold foldL; rw [if_neg (by simp [h])]
  have e2 : foldT l = runT [] (srt l) := by unfold foldT; rw [if_neg (by simp [h])]
  refine ⟨e1, e2, by rw [e1, runS_ops], by rw [e1, runS_len]; exact (srt_ok h).2.2, ?_⟩
  rw [e2]
  exact runT_check _ _ check_empty (fun o ho => h2 o (srt_mem l o ho))

theorem fold_perm {l m : List Mv} (hp : l.Perm m) (h : foldE l = 0) : foldL m = foldL l ∧ foldT m = foldT l := by
  obtain ⟨h1, h2⟩ := foldE_perm hp h
  obtain ⟨a1, a2, _⟩ := fold_ok h
  obtain ⟨b1, b2, _⟩ := fold_ok h1
  rw [a1, a2, b1, b2, h2]
  exact ⟨rfl, rfl⟩

/-- a history: steps and a tree -/
def eqSts : List Stp → List Stp → Bool
  | [], [] => true
  | s :: l, t :: m => decide (s = t) && eqSts l m
  | _, _ => false
theorem eqSts_iff (l : List Stp) : ∀ m, eqSts l m = true ↔ l = m := by
  induction l with
  | nil => intro m; cases m <;> simp [eqSts]
  | cons s l ih =>
    intro m
    cases m with
    | nil => simp [eqSts]
    | cons t m =>
      show (decide (s = t) && eqSts l m) = true ↔ _
      rw [Bool.and_eq_true, ih, decide_eq_true_eq, List.cons.injEq]
def sameB (L M : List Stp) (T U : List Pl) : Bool := eqSts L M && decide (T = U)
theorem sameB_iff (L M : List Stp) (T U : List Pl) : sameB L M T U = true ↔ L = M ∧ T = U := by
  unfold sameB
  rw [Bool.and_eq_true, eqSts_iff, decide_eq_true_eq]
def histE (L : List Stp) (T : List Pl) : Int := if foldE (L.map (·.1)) ≠ 0 then foldE (L.map (·.1)) else if sameB (foldL (L.map (·.1))) L (foldT (L.map (·.1))) T = true then 0 else 4

/-- what Fold made is one -/
theorem hist_fold {l : List Mv} (h : foldE l = 0) : histE (foldL l) (foldT l) = 0 := by
  obtain ⟨_, _, h3, _, _⟩ := fold_ok h
  obtain ⟨h4, h5, _⟩ := srt_ok h
  obtain ⟨h6, h7⟩ := fold_perm h5 h4
  unfold histE
  rw [h3, if_neg (by simp [h4]), if_pos ((sameB_iff _ _ _ _).2 ⟨h6.symm, h7.symm⟩)]
theorem hist_empty : histE [] [] = 0 := by decide

/-- the stamp of an operation is there -/
def thereB (L : List Stp) (o : Mv) : Bool := L.any fun s => s.1.1 == o.1 && s.1.2.1 == o.2.1

/-- history.Insert -/
def insE (L : List Stp) (T : List Pl) (o : Mv) : Int :=
  if histE L T ≠ 0 then histE L T else if checkOp o ≠ 0 then checkOp o else if thereB L o = true then 6 else foldE (L.map (·.1) ++ [o])
def insL (L : List Stp) (T : List Pl) (o : Mv) : List Stp := if insE L T o ≠ 0 then [] else foldL (L.map (·.1) ++ [o])
def insT (L : List Stp) (T : List Pl) (o : Mv) : List Pl := if insE L T o ≠ 0 then [] else foldT (L.map (·.1) ++ [o])

theorem there_iff {l : List Mv} (L : List Stp) (hl : L.map (·.1) = l) (hok : ∀ x ∈ l, checkOp x = 0) (o : Mv) (ho : checkOp o = 0) : thereB L o = true ↔ ∃ x ∈ l, rk x = rk o := by
  unfold thereB
  rw [List.any_eq_true]
  subst hl
  constructor
  · rintro ⟨s, hs, he⟩
    have hm : s.1 ∈ L.map (·.1) := List.mem_map.2 ⟨s, hs, rfl⟩
    simp at he
    exact ⟨s.1, hm, (rk_eq (hok _ hm) ho).2 he⟩
  · rintro ⟨x, hx, he⟩
    obtain ⟨s, hs, rfl⟩ := List.mem_map.1 hx
    refine ⟨s, hs, ?_⟩
    have := (rk_eq (hok _ hx) ho).1 he
    simp [this]

/-- one more operation, put into what Fold made of the others -/
theorem ins_fold {l : List Mv} (h : foldE l = 0) (o : Mv) (h' : foldE (l ++ [o]) = 0) : insE (foldL l) (foldT l) o = 0 ∧ insL (foldL l) (foldT l) o = foldL (l ++ [o]) ∧ insT (foldL l) (foldT l) o = foldT (l ++ [o]) := by
  obtain ⟨_, _, h3, _, _⟩ := fold_ok h
  obtain ⟨_, hp, _⟩ := srt_ok h
  obtain ⟨g1, g2, g3⟩ := (foldE_zero _).1 h'
  obtain ⟨k1, k2, k3⟩ := (foldE_zero l).1 h
  have ho : checkOp o = 0 := g2 o (by simp)
  have hpo : (srt l ++ [o]).Perm (l ++ [o]) := hp.append_right [o]
  have hf := (foldE_perm hpo.symm h').1
  have hno : thereB (foldL l) o = false := by
    cases ht : thereB (foldL l) o
    · rfl
    · exfalso
      obtain ⟨x, hx, he⟩ := (there_iff (foldL l) h3 (fun x hx => k2 x (srt_mem l x hx)) o ho).1 ht
      have hxl := srt_mem l x hx
      unfold noTwo at g3
      rw [List.pairwise_append] at g3
      exact g3.2.2 x hxl o (by simp) he
  have e0 : insE (foldL l) (foldT l) o = 0 := by
    unfold insE
    rw [if_neg (by simp [hist_fold h]), if_neg (by simp [ho]), if_neg (by simp [hno]), h3]
    exact hf
  obtain ⟨e1, e2⟩ := fold_perm hpo.symm h'
  refine ⟨e0, ?_, ?_⟩
  · unfold insL; rw [if_neg (by simp [e0]), h3]; exact e1
  · unfold insT; rw [if_neg (by simp [e0]), h3]; exact e2

theorem fold_prefix {l m : List Mv} (h : foldE (l ++ m) = 0) : foldE l = 0 := by
  obtain ⟨h1, h2, h3⟩ := (foldE_zero _).1 h
  unfold noTwo at h3
  rw [List.pairwise_append] at h3
  exact (foldE_zero l).2 ⟨by rw [List.length_append] at h1; omega, fun o ho => h2 o (by simp [ho]), h3.1⟩

/-- an operation of a later stamp comes behind, and turns nothing -/
theorem ins_late {l : List Mv} (h : foldE l = 0) (o : Mv) (hl : ∀ x ∈ l, rk x < rk o) (h' : foldE (l ++ [o]) = 0) : ∃ s : Stp, s.1 = o ∧ foldL (l ++ [o]) = foldL l ++ [s] := by
  obtain ⟨e1, _, _⟩ := fold_ok h
  obtain ⟨e2, _, _⟩ := fold_ok h'
  obtain ⟨_, hp, _⟩ := srt_ok h
  have es : srt (l ++ [o]) = srt l ++ [o] := by
    have h1 := srt_late (srt l) o (srt_sorted l) (fun x hx => hl x (srt_mem l x hx))
    rw [← h1]
    exact ((foldE_perm (hp.symm.append_right [o]) h').2).symm
  refine ⟨dS (runT [] (srt l)) o, rfl, ?_⟩
  rw [e1, e2, es, runS_append]
  rfl
end Orangery

/- history's small functions: has, byStamp; slices.ContainsFunc, IndexFunc, Clone at operations; orangeryref.rank. -/
namespace Go.Proofs.YthlhnokgcnieeadGreat
open Go.ChangeShapes Go.WideShapes Go.ChangeAt Go.RowKit
open Orangery (Pl Mv Stp cmpI orI rk)

def sameS (t u : Int) (o : Mv) : Bool := decide (o.1 = t) && decide (o.2.1 = u)
def hasS (l : List Mv) (t u : Int) : Bool := l.any (sameS t u)

set_option maxHeartbeats 400000 in
theorem has1_any (w : World) (o : Mv) (t u : Int) (b : Nat) (hb : b < w.heap.size) (c0 : w.cell? ⟨b, 0, none⟩ = some (.int .i64 t)) (c1 : w.cell? ⟨b, 1, none⟩ = some (.int .i64 u)) :
    Calls Tryz.prog 83 #[opV o, .pointer (some ⟨b, 0, none⟩)] w fun e w' => e = .returned (.bool (sameS t u o)) ∧ Below w.heap.size w w' := by
  obtain ⟨o1, o2, ⟨o3, o4, o5⟩, o6, o7⟩ := o
  have he := run_eql_stamp
  have hg := guard_stamp
  have hne : ¬ w.heap.size = b := by omega
  go_enter Tryz.func83, Tryz.ntmps83
  go_wp2
  go_ret
  exact ⟨rfl, Go.Joins.below_alloc1 w _⟩

set_option maxHeartbeats 1000000 in
theorem indexFuncOps_any (w : World) (a : Option Addr) (c : Nat) (l : List Mv) (g : Nat) (v : Value) (f : Mv → Bool) (hl : l.length ≤ maxLen) (h : SlE opC w a l)
    (eg : ∀ args w, (callFunc g args).run Tryz.prog w = .ok (.enter g args) w)
    (hg : ∀ W p, Below w.heap.size w W → Calls Tryz.prog g #[opV p, v] W fun e w' => e = .returned (.bool (f p)) ∧ Below W.heap.size W w') :
    Calls Tryz.prog 103 #[.slice a l.length c, .func (.func g) #[] #[v]] w
      fun e w' => (∃ i : Int, e = .returned (.int .i64 i) ∧ (l.any f = true → 0 ≤ i) ∧ (l.any f = false → i = -1)) ∧ Below w.heap.size w w' := by
  have hl' : l.length ≤ 9223372036854775807 := hl
  go_enter Tryz.func103, Tryz.ntmps103
  go_wp2
  go_loopw [8] (fun i W => ∃ k : Nat, k ≤ l.length ∧ i = .int .i64 k ∧ (∀ j, (hj : j < l.length) → j < k → f l[j] = false) ∧ Below w.heap.size w W) (fun i _ => l.length - (intOf i).toNat)
  case atStart => exact ⟨0, Nat.zero_le _, rfl, fun j _ hj => absurd hj (Nat.not_lt_zero _), Below.refl _ _⟩
  case round =>
    obtain ⟨k, hk, rfl, hno, hb⟩ := hrel
    have HNO : Hid (∀ j, (hj : j < l.length) → j < k → f l[j] = false) := hno
    clear hno
    by_cases hlt : k < l.length
    · obtain ⟨b, off, rfl, hbl, hr⟩ := h.at opC_len k hlt
      have hr1 : wr.rangeAt b (off + k * 7) (opC l[k]) := fun j v hv => by rw [hb.cell (by exact hbl)]; exact hr j v hv
      obtain ⟨g0, g1, g2, g3, g4, g5, g6⟩ := op_cells hr1
      have HQ : Hid (l.any f = true ↔ ∃ x ∈ l, f x = true) := List.any_eq_true
      have HM : Hid (l[k] ∈ l) := List.getElem_mem hlt
      clear hr hr1
      go_wp2_with fail
      refine (hg wr l[k] hb).mono ?_
      rintro e w1 ⟨rfl, hb1⟩
      have hb2 : Below w.heap.size w w1 := hb.trans (hb1.mono hb.size)
      cases hr : f l[k]
      · go_wp2
        go_roundw
        case rel =>
          refine ⟨k + 1, hlt, by go_num, fun j hj hjk => ?_, hb2⟩
          by_cases hjk' : j < k
          · exact HNO.out j hj hjk'
          · have : j = k := by omega
            subst this
            exact hr
        case measure => simp [intOf]; omega
      · go_wp2
        go_ret
        refine ⟨⟨k, rfl, fun _ => by omega, fun hn => ?_⟩, hb2⟩
        have := HQ.out.2 ⟨_, HM.out, hr⟩
        rw [hn] at this
        simp at this
    · go_wp2
      go_ret
      refine ⟨⟨-1, rfl, fun hm => ?_, fun _ => rfl⟩, hb⟩
      obtain ⟨x, hx, e⟩ := List.any_eq_true.1 hm
      obtain ⟨j, hj, rfl⟩ := List.getElem_of_mem hx
      rw [HNO.out j hj (by omega)] at e
      simp at e

set_option maxHeartbeats 1000000 in
theorem containsFuncOps_any (w : World) (a : Option Addr) (c : Nat) (l : List Mv) (g : Nat) (v : Value) (f : Mv → Bool) (hl : l.length ≤ maxLen) (h : SlE opC w a l)
    (eg : ∀ args w, (callFunc g args).run Tryz.prog w = .ok (.enter g args) w)
    (hg : ∀ W p, Below w.heap.size w W → Calls Tryz.prog g #[opV p, v] W fun e w' => e = .returned (.bool (f p)) ∧ Below W.heap.size W w') :
    Calls Tryz.prog 82 #[.slice a l.length c, .func (.func g) #[] #[v]] w
      fun e w' => e = .returned (.bool (l.any f)) ∧ Below w.heap.size w w' := by
  have hc := indexFuncOps_any w a c l g v f hl h eg hg
  clear hg eg h
  go_enter Tryz.func82, Tryz.ntmps82
  go_wp2_with fail
  refine hc.mono ?_
  rintro e w' ⟨⟨i, rfl, hi1, hi2⟩, hb⟩
  cases hm : l.any f
  · have h0 := hi2 hm
    subst h0
    clear hi1 hi2
    go_wp2
    go_ret
    exact ⟨ret_bool hm.symm, hb⟩
  · have h0 := hi1 hm
    clear hi1 hi2
    go_wp2
    go_ret
    exact ⟨ret_bool hm.symm, hb⟩

set_option maxHeartbeats 1000000 in
theorem has_any (w : World) (a : Option Addr) (c : Nat) (l : List Mv) (t u : Int) (hl : l.length ≤ maxLen) (h : SlE opC w a l) :
    Calls Tryz.prog 53 #[.slice a l.length c, .agg #[.int .i64 t, .int .i64 u]] w
      fun e w' => e = .returned (.bool (hasS l t u)) ∧ Below w.heap.size w w' := by
  go_enter Tryz.func53, Tryz.ntmps53
  go_wp2_with fail
  have hN := Blk.new w [Value.int IntKind.i64 t, Value.int IntKind.i64 u] 33
  have hB := Go.Joins.below_alloc1 w (Obj.cells #[Value.int IntKind.i64 t, Value.int IntKind.i64 u] 33)
  have hP := h.below hB
  clear h
  refine (containsFuncOps_any _ a c l 83 (.pointer (some ⟨w.heap.size, 0, none⟩)) (sameS t u) hl hP (Go.Proofs.enters_of Tryz.func83 (by kernel_rfl) rfl) ?_).mono ?_
  · intro W p hb
    have hN1 := hN.keep hb
    exact has1_any W p t u w.heap.size hN1.lt (hN1.at 0 rfl) (hN1.at 1 rfl)
  rintro e w1 ⟨rfl, hb⟩
  have hb2 : Below w.heap.size w w1 := hB.trans (hb.mono (by simp))
  clear hN hB hP hb
  go_wp2
  go_ret
  exact ⟨rfl, hb2⟩

def byS (o p : Mv) : Int := orI (cmpI o.1 p.1) (cmpI o.2.1 p.2.1)

set_option maxHeartbeats 1000000 in
theorem byStamp_any (w : World) (o p : Mv) :
    Calls Tryz.prog 56 #[opV o, opV p] w fun e w' => e = .returned (.int .i64 (byS o p)) ∧ ∃ n os, w' = Go.Sort.grow (w.drewN n) os := by
  obtain ⟨o1, o2, ⟨o3, o4, o5⟩, o6, o7⟩ := o
  obtain ⟨p1, p2, ⟨p3, p4, p5⟩, p6, p7⟩ := p
  have HE : Hid (byS (o1, o2, (o3, o4, o5), o6, o7) (p1, p2, (p3, p4, p5), p6, p7) = orI (cmpI o1 p1) (cmpI o2 p2)) := rfl
  go_enter Tryz.func56, Tryz.ntmps56
  go_wp2
  have hG : ∃ os, ((w.alloc (Obj.cells (opC (o1, o2, (o3, o4, o5), o6, o7)).toArray 35)).alloc (Obj.cells (opC (p1, p2, (p3, p4, p5), p6, p7)).toArray 35)) = Go.Sort.grow w os := ⟨_, by rw [Go.Sort.alloc_eq_grow, Go.Sort.alloc_eq_grow, Go.Sort.grow_grow]⟩
  obtain ⟨W2, hW, hO, hP, _, hS⟩ := laid2 w (opC (o1, o2, (o3, o4, o5), o6, o7)) 35 (opC (p1, p2, (p3, p4, p5), p6, p7)) 35
  rw [hW] at hG
  change ((w.alloc (Obj.cells #[Value.int IntKind.i64 o1, Value.int IntKind.i64 o2, Value.int IntKind.i64 o3, Value.int IntKind.i64 o4, Value.int IntKind.i64 o5, Value.int IntKind.i64 o6, Value.int IntKind.i64 o7] 35)).alloc (Obj.cells #[Value.int IntKind.i64 p1, Value.int IntKind.i64 p2, Value.int IntKind.i64 p3, Value.int IntKind.i64 p4, Value.int IntKind.i64 p5, Value.int IntKind.i64 p6, Value.int IntKind.i64 p7] 35)) = W2 at hW
  rw [hW]
  clear hW
  have y0 := hO.at 0 rfl
  have y1 := hO.at 1 rfl
  have y2 := hP.at 0 rfl
  have y3 := hP.at 1 rfl
  have HG : Hid (∃ os, W2 = Go.Sort.grow w os) := hG
  clear hG hO hP
  have n0 := World.new_ne W2 ⟨w.heap.size, 0, none⟩ y0
  have n1 := World.new_ne W2 ⟨w.heap.size, 1, none⟩ y1
  have n2 := World.new_ne W2 ⟨w.heap.size + 1, 0, none⟩ y2
  have n3 := World.new_ne W2 ⟨w.heap.size + 1, 1, none⟩ y3
  have F0 : Hid ((W2.alloc (Obj.cells #[Value.int IntKind.i64 (cmpI o1 p1), Value.int IntKind.i64 (cmpI o2 p2)] 3)).cell? ⟨w.heap.size + 2, 0, none⟩ = some (.int .i64 (cmpI o1 p1))) := by
    show World.cell? _ _ = _
    rw [← hS]; simp
  have F1 : Hid ((W2.alloc (Obj.cells #[Value.int IntKind.i64 (cmpI o1 p1), Value.int IntKind.i64 (cmpI o2 p2)] 3)).cell? ⟨w.heap.size + 2, 1, none⟩ = some (.int .i64 (cmpI o2 p2))) := by
    show World.cell? _ _ = _
    rw [← hS]; simp
  go_region_held3 (fun w' => w'.cell? ⟨w.heap.size, 0, none⟩ = some (.int .i64 o1) ∧ w'.cell? ⟨w.heap.size, 1, none⟩ = some (.int .i64 o2) ∧ w'.cell? ⟨w.heap.size + 1, 0, none⟩ = some (.int .i64 p1) ∧ w'.cell? ⟨w.heap.size + 1, 1, none⟩ = some (.int .i64 p2)) (go_keep)
    (first | (go_at_call 87; refine (compare_any _ _ _).mono ?_; rintro e w' ⟨rfl, rfl⟩) | (go_at_call 86; refine (or_any _ _ _ (cmpI o1 p1) (cmpI o2 p2) ?_ ?_).mono ?_; exact F0.out; exact F1.out; rintro e w' ⟨rfl, rfl⟩))
  go_wp2
  go_ret
  refine ⟨ret_int HE.out.symm, ?_⟩
  obtain ⟨os, hos⟩ := HG.out
  subst hos
  exact ⟨1, _, by rw [Go.Sort.alloc_eq_grow, Go.Sort.grow_grow]; rfl⟩

set_option maxHeartbeats 1000000 in
theorem cloneOps_any (w : World) (a : Option Addr) (c : Nat) (l : List Mv) (hl : l.length ≤ 1000) (h : SlE opC w a l) :
    Calls Tryz.prog 54 #[.slice a l.length c] w
      fun e w' => ∃ v, e = .returned v ∧ OwnE opC 7 35 w' w.heap.size v l ∧ Below w.heap.size w w' := by
  obtain ⟨i0, hi, hz0, hz1, hz2⟩ := info_parts infoOp
  have hq := fun (W : World) (a : Option Addr) (n c : Nat) => Lib.run_eql_slice_nil (P := Tryz.prog) W 58 35 a n c 0 0 Tryz.underlying58
  cases a with
  | none =>
    have hl0 : l = [] := by
      rcases h with h | ⟨b, off, h, _⟩
      · exact h
      · simp at h
    subst hl0
    go_enter Tryz.func54, Tryz.ntmps54
    go_wp2
    go_ret
    exact ⟨_, rfl, OwnE.nil _ _, Below.refl _ _⟩
  | some ad =>
    have hB := Go.Joins.below_alloc1 w (Obj.cells #[] 35)
    have hP := h.below hB
    have hown : (w.alloc (Obj.cells #[] 35)).ownsRow w.heap.size 35 7 (.slice (some ⟨w.heap.size, 0, none⟩) 0 0) 0 [] :=
      ⟨rfl, Or.inr ⟨w.heap.size, 0, #[], rfl, Nat.le_refl _, blk_new rfl, Nat.le_refl _, by unfold maxLen; omega, rfl, rfl⟩⟩
    have hnews : ∀ j u, (l.flatMap opC)[j]? = some u → (w.alloc (Obj.cells #[] 35)).cell? (ad.add j) = some u := by
      rcases hP with hP | ⟨b, off, ha, _, hp⟩
      · intro j u hj; subst hP; simp at hj
      · simp at ha
        subst ha
        intro j u hj
        rw [Addr.add_mid]
        exact hp j u hj
    have HN : Hid (∀ j u, (l.flatMap opC)[j]? = some u → (w.alloc (Obj.cells #[] 35)).cell? (ad.add j) = some u) := hnews
    clear hP h hnews
    go_enter Tryz.func54, Tryz.ntmps54
    go_wp2_with (at_builtin; refine wpList_append_own _ rfl _ _ 58 rfl w.heap.size 35 i0 _ 7 56 Tryz.underlying58 hi hz0 hz1 hz2 rfl (by decide) _ _ _ rfl hown ad l.length c (l.flatMap opC) rfl (flatE_len opC_len l) ?c1 ?c2 ?c3 ?c4 ?c5 ?_)
    case c1 => exact HN.out
    case c2 => exact flat_oneE opC_one l
    case c3 => unfold maxLen; omega
    case c4 => omega
    case c5 => exact hB.size
    · intro v' w1 hown' hgrow _
      have hb1 := hB.trans (below_grown hown hB.size hgrow)
      have hO : OwnE opC 7 35 w1 w.heap.size v' l := by simpa [OwnE] using hown'
      clear hgrow hown hown'
      go_wp2
      go_ret
      exact ⟨_, rfl, hO, hb1⟩
end Go.Proofs.YthlhnokgcnieeadGreat

/- slices.Equal at places. -/
namespace Go.Proofs.YthlhnokgcnieeadGreat
open Go.ChangeShapes Go.WideShapes Go.ChangeAt Go.RowKit
open Orangery (Pl)

def eqPl (x y : Pl) : Bool := decide (x = y)

theorem run_neq_pl (x0 x1 x2 y0 y1 y2 : Int) (w : World) :
    (binOp .neq 64 (.agg #[.int .i64 x0, .int .i64 x1, .int .i64 x2]) (.agg #[.int .i64 y0, .int .i64 y1, .int .i64 y2])).run Tryz.prog w = .ok (.bool (!eqPl (x0, x1, x2) (y0, y1, y2))) w := by
  have u3 := Tryz.underlying3
  have a3 := Tryz.isAgg3
  have z3 := Tryz.sizeOf3
  have hS : Tryz.prog.underlying 64 = some (.struct (Tryz.prog.fieldsOf 64)) := by kernel_rfl
  have hp : Tryz.prog.stoodInHeld 64 = false := by kernel_rfl
  rw [run_neq_struct, show (10000 : Nat) = 9999 + 1 from rfl, run_equalIn_agg w 9999 64 _ _ hS hp]
  simp only [Program.fieldsOf, Tryz.underlying64]
  go_simp
  by_cases h1 : x0 = y0 <;> by_cases h2 : x1 = y1 <;> by_cases h3 : x2 = y2 <;> simp [h1, h2, h3, eqPl]

theorem run_eql_pl (x0 x1 x2 y0 y1 y2 : Int) (w : World) :
    (binOp .eql 64 (.agg #[.int .i64 x0, .int .i64 x1, .int .i64 x2]) (.agg #[.int .i64 y0, .int .i64 y1, .int .i64 y2])).run Tryz.prog w = .ok (.bool (eqPl (x0, x1, x2) (y0, y1, y2))) w := by
  have u3 := Tryz.underlying3
  have a3 := Tryz.isAgg3
  have z3 := Tryz.sizeOf3
  have hS : Tryz.prog.underlying 64 = some (.struct (Tryz.prog.fieldsOf 64)) := by kernel_rfl
  have hp : Tryz.prog.stoodInHeld 64 = false := by kernel_rfl
  rw [run_eql_struct, show (10000 : Nat) = 9999 + 1 from rfl, run_equalIn_agg w 9999 64 _ _ hS hp]
  simp only [Program.fieldsOf, Tryz.underlying64]
  go_simp
  by_cases h1 : x0 = y0 <;> by_cases h2 : x1 = y1 <;> by_cases h3 : x2 = y2 <;> simp [h1, h2, h3, eqPl]

theorem guard_pl (op : BinOp) (x y : Operand) (xs ys : Array Value) (w : World) : (eqGuard op 64 x y (.agg xs) (.agg ys)).run Tryz.prog w = .ok () w :=
  run_eqGuard_agg w op 64 x y xs ys (by kernel_rfl)

def eqPls (l m : List Pl) : Bool := decide (l = m)

set_option maxHeartbeats 1000000 in
theorem equal_pls (w : World) (a a' : Option Addr) (c c' : Nat) (l m : List Pl) (hl : l.length ≤ maxLen) (h1 : SlP w a l) (h2 : SlP w a' m) :
    Calls Tryz.prog 49 #[.slice a l.length c, .slice a' m.length c'] w
      fun e w' => e = .returned (.bool (eqPls l m)) ∧ ∃ n, w' = w.drewN n := by
  have hl' : l.length ≤ 9223372036854775807 := hl
  by_cases hlen : l.length = m.length
  · have hne := run_neq_pl
    have hgd := guard_pl
    have hlen' : ((l.length : Int) != (m.length : Int)) = false := by simp [hlen]
    go_enter Tryz.func49, Tryz.ntmps49
    go_wp2
    go_loopw [13] (fun i w' => ∃ k n : Nat, k ≤ l.length ∧ i = .int .i64 k ∧ w' = w.drewN n ∧ l.take k = m.take k) (fun i _ => l.length - (intOf i).toNat)
    case atStart => exact ⟨0, 0, Nat.zero_le _, rfl, rfl, rfl⟩
    case round =>
      obtain ⟨k, n, hk, rfl, rfl, hpre⟩ := hrel
      have HP : Hid (l.take k = m.take k) := hpre
      clear hpre
      by_cases hlt : k < l.length
      · have hlt2 : k < m.length := by omega
        rcases h1 with h1 | ⟨b, off, rfl, hbl, hp⟩
        · exact absurd hlt (by simp [h1])
        rcases h2 with h2 | ⟨b', off', rfl, hbl', hp'⟩
        · exact absurd hlt2 (by simp [h2])
        obtain ⟨g0, g1, g2⟩ := hp k hlt
        obtain ⟨x0, x1, x2⟩ := hp' k hlt2
        have hlti : (k : Int) < (m.length : Int) := by omega
        go_wp2
        go_quiet (fail)
        cases hq : eqPl l[k] m[k]
        · have HQ : Hid (l[k] ≠ m[k]) := by show _ ≠ _; simpa [eqPl] using hq
          go_wp2
          go_ret
          exact ⟨ret_bool (by symm; simp only [eqPls, decide_eq_false_iff_not]; intro e; subst e; exact HQ.out rfl), n + nq, by simp⟩
        · have HQ : Hid (l[k] = m[k]) := by show _ = _; simpa [eqPl] using hq
          go_wp2
          go_roundw
          case rel => exact ⟨k + 1, _, by omega, by go_num, rfl, by rw [List.take_succ_eq_append_getElem hlt, List.take_succ_eq_append_getElem hlt2, HP.out, HQ.out]⟩
          case measure => simp [intOf]; omega
      · go_wp2
        go_ret
        refine ⟨ret_bool ?_, n, rfl⟩
        symm
        have e := HP.out
        rw [List.take_of_length_le (by omega), List.take_of_length_le (by omega)] at e
        simp [eqPls, e]
  · have hlen' : ((l.length : Int) != (m.length : Int)) = true := by simp; omega
    have HL : Hid (l.length ≠ m.length) := hlen
    clear hlen
    go_enter Tryz.func49, Tryz.ntmps49
    go_wp2
    go_ret
    exact ⟨ret_bool (by symm; simp only [eqPls, decide_eq_false_iff_not]; intro e; subst e; exact HL.out rfl), 0, rfl⟩
end Go.Proofs.YthlhnokgcnieeadGreat

/- Results that lie in cells: how a call hands them back. -/
namespace Go.Proofs.YthlhnokgcnieeadGreat
open Go.ChangeShapes Go.WideShapes Go.ChangeAt Go.RowKit

theorem Blk.range {w : World} {b : Nat} {vs : List Value} (h : Blk w b vs) : w.rangeAt b 0 vs := fun j v hv => by rw [Nat.zero_add]; exact h.at j hv
theorem Blk.there {w : World} {b : Nat} {vs : List Value} (h : Blk w b vs) : w.there b 0 vs.length := fun j hj =>
  ⟨by rw [Nat.zero_add, h.at j (List.getElem?_eq_getElem hj)]; rfl, by rw [Nat.zero_add]; exact h.frz j⟩

theorem Blk.load {w : World} {b : Nat} {vs : List Value} {ty : TypeId} {d : TypeDesc} (h : Blk w b vs) (hu : Tryz.prog.underlying ty = some d) (hd : d.isRow = true)
    (hi : (Tryz.prog.info? ty).map (·.size) = some vs.length) : (loadVar ty ⟨b, 0, none⟩).run Tryz.prog w = .ok (.agg vs.toArray) w :=
  run_loadVar_mid w b 0 ty vs d h.range hu hd hi

theorem ret_cell {fn : Func} {R : Ending → World → Prop} {tmps : Array Value} {W : World} {p : Tmp} {ty : TypeId} {b : Nat} {vs : List Value}
    (h : fn.results = #[.cell p ty]) (hp : tmps.getD p undef = .pointer (some ⟨b, 0, none⟩)) (hl : (loadVar ty ⟨b, 0, none⟩).run Tryz.prog W = .ok (.agg vs.toArray) W)
    (hR : R (.returned (.agg vs.toArray)) W) : bodyPost Tryz.prog fn R .ret { tmps := tmps, defers := [] } W := by
  refine bodyPost_ret ?_ rfl hR
  have hp' : tmps[p]?.getD undef = .pointer (some ⟨b, 0, none⟩) := by simpa using hp
  simp [results, h, hp', asAddr, hl]

theorem ret_cell_tmp {fn : Func} {R : Ending → World → Prop} {tmps : Array Value} {W : World} {p u : Tmp} {ty : TypeId} {b : Nat} {vs : List Value} {v : Value}
    (h : fn.results = #[.cell p ty, .tmp u]) (hp : tmps.getD p undef = .pointer (some ⟨b, 0, none⟩)) (hv : tmps.getD u undef = v) (hl : (loadVar ty ⟨b, 0, none⟩).run Tryz.prog W = .ok (.agg vs.toArray) W)
    (hR : R (.returned (.tuple #[.agg vs.toArray, v])) W) : bodyPost Tryz.prog fn R .ret { tmps := tmps, defers := [] } W := by
  refine bodyPost_ret ?_ rfl hR
  have hp' : tmps[p]?.getD undef = .pointer (some ⟨b, 0, none⟩) := by simpa using hp
  have hv' : tmps[u]?.getD undef = v := by simpa using hv
  simp [results, h, hp', hv', asAddr, hl]

theorem ret_tmp_cell {fn : Func} {R : Ending → World → Prop} {tmps : Array Value} {W : World} {p u : Tmp} {ty : TypeId} {b : Nat} {vs : List Value} {v : Value}
    (h : fn.results = #[.tmp u, .cell p ty]) (hp : tmps.getD p undef = .pointer (some ⟨b, 0, none⟩)) (hv : tmps.getD u undef = v) (hl : (loadVar ty ⟨b, 0, none⟩).run Tryz.prog W = .ok (.agg vs.toArray) W)
    (hR : R (.returned (.tuple #[v, .agg vs.toArray])) W) : bodyPost Tryz.prog fn R .ret { tmps := tmps, defers := [] } W := by
  refine bodyPost_ret ?_ rfl hR
  have hp' : tmps[p]?.getD undef = .pointer (some ⟨b, 0, none⟩) := by simpa using hp
  have hv' : tmps[u]?.getD undef = v := by simpa using hv
  simp [results, h, hp', hv', asAddr, hl]

theorem ret_cell_cell_tmp {fn : Func} {R : Ending → World → Prop} {tmps : Array Value} {W : World} {p q u : Tmp} {ty tz : TypeId} {b b' : Nat} {vs us : List Value} {v : Value}
    (h : fn.results = #[.cell p ty, .cell q tz, .tmp u]) (hp : tmps.getD p undef = .pointer (some ⟨b, 0, none⟩)) (hq : tmps.getD q undef = .pointer (some ⟨b', 0, none⟩)) (hv : tmps.getD u undef = v)
    (hl : (loadVar ty ⟨b, 0, none⟩).run Tryz.prog W = .ok (.agg vs.toArray) W) (hm : (loadVar tz ⟨b', 0, none⟩).run Tryz.prog W = .ok (.agg us.toArray) W)
    (hR : R (.returned (.tuple #[.agg vs.toArray, .agg us.toArray, v])) W) : bodyPost Tryz.prog fn R .ret { tmps := tmps, defers := [] } W := by
  refine bodyPost_ret ?_ rfl hR
  have hp' : tmps[p]?.getD undef = .pointer (some ⟨b, 0, none⟩) := by simpa using hp
  have hq' : tmps[q]?.getD undef = .pointer (some ⟨b', 0, none⟩) := by simpa using hq
  have hv' : tmps[u]?.getD undef = v := by simpa using hv
  simp [results, h, hp', hq', hv', asAddr, hl, hm]

theorem sizeTree : (Tryz.prog.info? 25).map (·.size) = some 1 := by kernel_rfl
theorem sizeStep : (Tryz.prog.info? 95).map (·.size) = some 11 := by kernel_rfl
theorem sizeOp : (Tryz.prog.info? 35).map (·.size) = some 7 := by kernel_rfl
theorem Blk.tree {w : World} {b : Nat} {v : Value} (h : Blk w b [v]) : (loadVar 25 ⟨b, 0, none⟩).run Tryz.prog w = .ok (.agg [v].toArray) w := h.load Tryz.underlying25 rfl sizeTree
end Go.Proofs.YthlhnokgcnieeadGreat

/- slices.Equal at steps; history.Same, orangeryref.SameHistory; history.operations, orangeryref.OpsOf, orangeryref.rank. -/
namespace Go.Proofs.YthlhnokgcnieeadGreat
open Go.ChangeShapes Go.WideShapes Go.ChangeAt Go.RowKit
open Orangery (Pl Mv Stp eqSts sameB rk)

theorem below_drewN_any (B : Nat) (w : World) (n : Nat) : Below B w (w.drewN n) := ⟨rfl, rfl, rfl, Nat.le_refl _, fun _ _ => rfl⟩

theorem eqSts_no {l m : List Stp} (h : l ≠ m) : eqSts l m = false := by
  cases hq : eqSts l m
  · rfl
  · exact absurd ((Orangery.eqSts_iff l m).1 hq) h
theorem eqSts_yes {l m : List Stp} (h : l = m) : eqSts l m = true := (Orangery.eqSts_iff l m).2 h

theorem ne_stp {s t : Stp} (hq : decide (s = t) = false) : s ≠ t := by simpa using hq
theorem eq_stp {s t : Stp} (hq : decide (s = t) = true) : s = t := by simpa using hq

set_option maxHeartbeats 1000000 in
theorem equal_sts (w : World) (a a' : Option Addr) (c c' : Nat) (l m : List Stp) (hl : l.length ≤ maxLen) (h1 : SlE stC w a l) (h2 : SlE stC w a' m) :
    Calls Tryz.prog 58 #[.slice a l.length c, .slice a' m.length c'] w
      fun e w' => e = .returned (.bool (eqSts l m)) ∧ ∃ n, w' = w.drewN n := by
  have hl' : l.length ≤ 9223372036854775807 := hl
  by_cases hlen : l.length = m.length
  · have hne := run_neq_stepg
    have hgd := guard_step
    have hlen' : ((l.length : Int) != (m.length : Int)) = false := by simp [hlen]
    go_enter Tryz.func58, Tryz.ntmps58
    go_wp2
    go_loopw [13] (fun i w' => ∃ k n : Nat, k ≤ l.length ∧ i = .int .i64 k ∧ w' = w.drewN n ∧ l.take k = m.take k) (fun i _ => l.length - (intOf i).toNat)
    case atStart => exact ⟨0, 0, Nat.zero_le _, rfl, rfl, rfl⟩
    case round =>
      obtain ⟨k, n, hk, rfl, rfl, hpre⟩ := hrel
      have HP : Hid (l.take k = m.take k) := hpre
      clear hpre
      by_cases hlt : k < l.length
      · have hlt2 : k < m.length := by omega
        obtain ⟨b, off, rfl, hbl, hr⟩ := h1.at stC_len k hlt
        obtain ⟨b', off', rfl, hbl', hr'⟩ := h2.at stC_len k hlt2
        obtain ⟨g0, g1, g2, g3, g4, g5, g6, g7, g8, g9, g10⟩ := st_cells hr
        obtain ⟨x0, x1, x2, x3, x4, x5, x6, x7, x8, x9, x10⟩ := st_cells hr'
        have hlti : (k : Int) < (m.length : Int) := by omega
        have HT1 : Hid (l.take (k + 1) = l.take k ++ [l[k]]) := List.take_succ_eq_append_getElem hlt
        have HT2 : Hid (m.take (k + 1) = m.take k ++ [m[k]]) := List.take_succ_eq_append_getElem hlt2
        have HG : Hid (l = m → l[k] = m[k]) := fun e => by subst e; rfl
        clear hr hr'
        generalize l[k] = s at *
        generalize m[k] = t at *
        go_wp2
        go_quiet (fail)
        cases hq : decide (s = t)
        · have HQ : Hid (s ≠ t) := ne_stp hq
          go_wp2
          go_ret
          exact ⟨ret_bool ((eqSts_no (fun e => HQ.out (HG.out e))).symm), n + nq, by simp⟩
        · have HQ : Hid (s = t) := eq_stp hq
          go_wp2
          go_roundw
          case rel => exact ⟨k + 1, _, by omega, by go_num, rfl, by rw [HT1.out, HT2.out, HP.out, HQ.out]⟩
          case measure => simp [intOf]; omega
      · go_wp2
        go_ret
        refine ⟨ret_bool ?_, n, rfl⟩
        have e := HP.out
        rw [List.take_of_length_le (by omega), List.take_of_length_le (by omega)] at e
        exact (eqSts_yes e).symm
  · have hlen' : ((l.length : Int) != (m.length : Int)) = true := by simp; omega
    have HL : Hid (l.length ≠ m.length) := hlen
    clear hlen
    go_enter Tryz.func58, Tryz.ntmps58
    go_wp2
    go_ret
    exact ⟨ret_bool ((eqSts_no (by intro e; subst e; exact HL.out rfl)).symm), 0, rfl⟩

set_option maxHeartbeats 1000000 in
theorem same_any (w : World) (a a' p p' : Option Addr) (c c' d d' : Nat) (l m : List Stp) (t u : List Pl) (hl : l.length ≤ maxLen) (ht : t.length ≤ maxLen) (h1 : SlE stC w a l) (h2 : SlE stC w a' m) (h3 : SlP w p t) (h4 : SlP w p' u) :
    Calls Tryz.prog 22 #[hiV (.slice a l.length c) (.slice p t.length d), hiV (.slice a' m.length c') (.slice p' u.length d')] w
      fun e w' => e = .returned (.bool (sameB l m t u)) ∧ Below w.heap.size w w' := by
  have HS : Hid (sameB l m t u = (eqSts l m && eqPls t u)) := rfl
  go_enter Tryz.func22, Tryz.ntmps22
  go_wp2_with fail
  obtain ⟨W0, hW, hA, hC, hB, _⟩ := laid2 w [Value.slice a l.length c, Value.slice p t.length d] 27 [Value.slice a' m.length c', Value.slice p' u.length d'] 27
  rw [hW]
  clear hW
  refine (equal_sts W0 a a' c c' l m hl (h1.below hB) (h2.below hB)).mono ?_
  rintro e w1 ⟨rfl, n, rfl⟩
  have hb1 : Below W0.heap.size W0 (W0.drewN n) := below_drewN_any _ _ _
  have hA1 := hA.keep hb1
  have hC1 := hC.keep hb1
  have hP1 := (h3.below hB).below hb1
  have hP2 := (h4.below hB).below hb1
  have HB1 : Hid (Below w.heap.size w (W0.drewN n)) := hB.trans (hb1.mono hB.size)
  clear hA hC hB hb1 h1 h2 h3 h4
  generalize W0.drewN n = W1 at *
  have x1 := hA1.at 1 rfl
  have y1 := hC1.at 1 rfl
  cases hq : eqSts l m
  · go_wp2
    go_ret
    exact ⟨ret_bool (by rw [HS.out, hq]; rfl), HB1.out⟩
  · go_wp2_with fail
    refine (equal_pls W1 p p' d d' t u ht hP1 hP2).mono ?_
    rintro e w2 ⟨rfl, n2, rfl⟩
    have HB2 : Hid (Below w.heap.size w (W1.drewN n2)) := HB1.out.trans (below_drewN_any _ _ _)
    generalize W1.drewN n2 = W2 at *
    go_wp2
    go_ret
    exact ⟨ret_bool (by rw [HS.out, hq]; rfl), HB2.out⟩

set_option maxHeartbeats 1000000 in
theorem rsame_any (w : World) (a a' p p' : Option Addr) (c c' d d' : Nat) (l m : List Stp) (t u : List Pl) (hl : l.length ≤ maxLen) (ht : t.length ≤ maxLen) (h1 : SlE stC w a l) (h2 : SlE stC w a' m) (h3 : SlP w p t) (h4 : SlP w p' u) :
    Calls Tryz.prog 47 #[hiV (.slice a l.length c) (.slice p t.length d), hiV (.slice a' m.length c') (.slice p' u.length d')] w
      fun e w' => e = .returned (.bool (sameB l m t u)) ∧ Below w.heap.size w w' := by
  have HS : Hid (sameB l m t u = (eqSts l m && eqPls t u)) := rfl
  go_enter Tryz.func47, Tryz.ntmps47
  go_wp2_with fail
  obtain ⟨W0, hW, hA, hC, hB, _⟩ := laid2 w [Value.slice a l.length c, Value.slice p t.length d] 27 [Value.slice a' m.length c', Value.slice p' u.length d'] 27
  rw [hW]
  clear hW
  refine (equal_sts W0 a a' c c' l m hl (h1.below hB) (h2.below hB)).mono ?_
  rintro e w1 ⟨rfl, n, rfl⟩
  have hb1 : Below W0.heap.size W0 (W0.drewN n) := below_drewN_any _ _ _
  have hA1 := hA.keep hb1
  have hC1 := hC.keep hb1
  have hP1 := (h3.below hB).below hb1
  have hP2 := (h4.below hB).below hb1
  have HB1 : Hid (Below w.heap.size w (W0.drewN n)) := hB.trans (hb1.mono hB.size)
  clear hA hC hB hb1 h1 h2 h3 h4
  generalize W0.drewN n = W1 at *
  have x1 := hA1.at 1 rfl
  have y1 := hC1.at 1 rfl
  cases hq : eqSts l m
  · go_wp2
    go_ret
    exact ⟨ret_bool (by rw [HS.out, hq]; rfl), HB1.out⟩
  · go_wp2_with fail
    refine (equal_pls W1 p p' d d' t u ht hP1 hP2).mono ?_
    rintro e w2 ⟨rfl, n2, rfl⟩
    have HB2 : Hid (Below w.heap.size w (W1.drewN n2)) := HB1.out.trans (below_drewN_any _ _ _)
    generalize W1.drewN n2 = W2 at *
    go_wp2
    go_ret
    exact ⟨ret_bool (by rw [HS.out, hq]; rfl), HB2.out⟩

set_option maxHeartbeats 400000 in
theorem rank_any (w : World) (o : Mv) (h : Orangery.checkOp o = 0) :
    Calls Tryz.prog 99 #[.agg #[.int .i64 o.1, .int .i64 o.2.1]] w fun e w' => e = .returned (.int .i64 (rk o)) ∧ Below w.heap.size w w' := by
  have h1 := Orangery.checkOp_zero h
  simp only [Orangery.opOkB, decide_eq_true_eq] at h1
  obtain ⟨a1, a2, a3, a4, _⟩ := h1
  clear h
  go_enter Tryz.func99, Tryz.ntmps99
  go_wp2
  go_ret
  exact ⟨rfl, Go.Joins.below_alloc1 w _⟩
end Go.Proofs.YthlhnokgcnieeadGreat

/- orangeryref.chain: a node, its parent, and so on; orangeryref.IsUnder. -/
namespace Go.Proofs.YthlhnokgcnieeadGreat
open Go.ChangeShapes Go.WideShapes Go.ChangeAt Go.RowKit
open Orangery (Pl find isNodeB inRangeB meetsN scan ringAt check idxF chain chainN hasB outOk)

theorem infoInt : (Tryz.prog.info? 3).map (fun i => (i.zero, i.size, i.bytes)) = some (some (.int .i64 0), 1, 8) := by kernel_rfl

set_option maxHeartbeats 2000000 in
theorem chain_any (w : World) (a : Option Addr) (c : Nat) (l : List Pl) (n : Int) (hl : l.length ≤ maxLen) (h : SlP w a l)
    (hr : ∀ p ∈ l, 0 ≤ p.2.1 ∧ p.2.1 ≤ 16) (hn0 : 0 ≤ n) (hn1 : n ≤ 16) :
    Calls Tryz.prog 51 #[.slice a l.length c, .int .i64 n] w
      fun e w' => ∃ v, e = .returned v ∧ w'.ownsRow w.heap.size 3 1 v (chain l n).length ((chain l n).map (Value.int .i64)) ∧ outOk (chain l n) ∧ Below w.heap.size w w' := by
  obtain ⟨i0, hi, hz0, hz1, hz2⟩ := info_parts infoInt
  have HR : Hid (∀ p ∈ l, 0 ≤ p.2.1 ∧ p.2.1 ≤ 16) := hr
  clear hr
  go_enter Tryz.func51, Tryz.ntmps51
  go_wp2
  have hown : (w.alloc (Obj.cells #[Value.int IntKind.i64 n] 3)).ownsRow w.heap.size 3 1 (.slice (some ⟨w.heap.size, 0, none⟩) 1 1) 1 [.int .i64 n] :=
    ⟨rfl, Or.inr ⟨w.heap.size, 1, #[.int .i64 n], rfl, Nat.le_refl _, blk_new rfl, Nat.le_refl _, by unfold maxLen; omega, rfl, rfl⟩⟩
  have hB := Go.Joins.below_alloc1 w (Obj.cells #[Value.int IntKind.i64 n] 3)
  generalize hW : w.alloc (Obj.cells #[Value.int IntKind.i64 n] 3) = W0 at hB hown
  clear hW
  go_loopw [1, 5] (fun x v W => ∃ (m : Int) (out : List Int), x = .int .i64 m ∧ W.ownsRow w.heap.size 3 1 v out.length (out.map (Value.int .i64)) ∧ outOk out ∧ chainN l (18 - out.length) out m = chain l n ∧ Below w.heap.size w W) (fun _ v _ => 18 - lenOf v)
  case atStart => exact ⟨n, [n], rfl, hown, Orangery.outOk_one hn0 hn1, rfl, hB⟩
  case round =>
    obtain ⟨m, out, rfl, hown, hok, hch, hb⟩ := hrel
    have HOK : Hid (outOk out) := hok
    have hlen := Orangery.outOk_len hok
    have HCH : Hid (chainN l (18 - out.length) out m = chain l n) := hch
    have S1 := Orangery.chainN_stop l out m hok
    have S2 := Orangery.chainN_go l out m HR.out hok
    have hpos : 1 ≤ out.length := hok.2.2
    clear hok hch
    go_wp2_with fail
    refine (findIn_any wr a c l m hl (h.below hb)).mono ?_
    rintro e w1 ⟨rfl, hb1⟩
    generalize hq : find l m = q at *
    obtain ⟨q0, q1, q2⟩ := q
    have HQ : Hid (find l m = (q0, q1, q2)) := hq
    clear hq
    simp only at S1 S2
    have H1 : Hid (q0 = 0 ∨ q1 ∈ out → chainN l (18 - out.length) out m = out) := S1
    have H2 : Hid (q0 ≠ 0 → q1 ∉ out → outOk (out ++ [q1]) ∧ chainN l (18 - out.length) out m = chainN l (18 - (out ++ [q1]).length) (out ++ [q1]) q1) := S2
    clear S1 S2
    obtain ⟨_, hv⟩ := own_ints hown
    rcases hv with ⟨rfl, hv⟩ | ⟨g, cap, rfl, hgb, hgl, hints⟩
    · exact absurd hpos (by omega)
    have hown1 := own_below hown hb1
    have hints1 : IntsAt w1 g 0 out := fun i hi => by rw [hb1.cell hgl]; exact hints i hi
    have hgl1 : g < w1.heap.size := Nat.lt_of_lt_of_le hgl hb1.size
    have hb2 : Below w.heap.size w w1 := hb.trans (hb1.mono hb.size)
    clear hints hgl hown hb1 hb
    by_cases hz : q0 = 0
    · have hz' : (q0 == 0) = true := by simpa using hz
      have e := H1.out (Or.inl hz)
      have HE : Hid (chainN l (18 - out.length) out m = out) := e
      clear hz e
      go_wp2
      go_ret
      refine ⟨_, rfl, ?_, ?_, hb2.alloc hb2.size _⟩
      · rw [← HCH.out, HE.out]; exact hown1.alloc _
      · rw [← HCH.out, HE.out]; exact HOK.out
    · have hz' : (q0 == 0) = false := by simpa using hz
      have HZ : Hid (q0 ≠ 0) := hz
      clear hz
      go_wp2_with fail
      refine (contains_ints _ g 0 cap out.length q1 out rfl (by unfold maxLen; omega) ?_).mono ?_
      · intro i hi
        rw [(Go.Joins.below_alloc1 w1 _).cell hgl1]
        exact hints1 i hi
      rintro e w2 ⟨rfl, rfl⟩
      by_cases hm : q1 ∈ out
      · have e : hasB q1 out = true := by simp [hasB, hm]
        have e2 := H1.out (Or.inr hm)
        have HE : Hid (chainN l (18 - out.length) out m = out) := e2
        rw [e]
        clear hm e e2
        go_wp2
        go_ret
        refine ⟨_, rfl, ?_, ?_, hb2.alloc hb2.size _⟩
        · rw [← HCH.out, HE.out]; exact hown1.alloc _
        · rw [← HCH.out, HE.out]; exact HOK.out
      · have e : hasB q1 out = false := by simp [hasB, hm]
        have e2 := H2.out HZ.out hm
        have HE : Hid (outOk (out ++ [q1]) ∧ chainN l (18 - out.length) out m = chainN l (18 - (out ++ [q1]).length) (out ++ [q1]) q1) := e2
        rw [e]
        clear hm e e2
        have hown2 := (hown1.alloc (Obj.cells #[Value.int IntKind.i64 q0, Value.int IntKind.i64 q1, Value.int IntKind.i64 q2] 64)).alloc (Obj.cells #[Value.int IntKind.i64 q1] 3)
        have hb3 := (hb2.alloc hb2.size (Obj.cells #[Value.int IntKind.i64 q0, Value.int IntKind.i64 q1, Value.int IntKind.i64 q2] 64)).alloc (by simp; exact Nat.le_succ_of_le hb2.size) (Obj.cells #[Value.int IntKind.i64 q1] 3)
        go_wp2_with (at_builtin; refine wpList_append_own _ rfl _ _ 31 rfl w.heap.size 3 i0 (.int .i64 0) 1 8 Tryz.underlying31 hi hz0 hz1 hz2 rfl (by decide) _ _ _ rfl hown2 ⟨w1.heap.size + 1, 0, none⟩ 1 1 [.int .i64 q1] rfl rfl ?c1 ?c2 ?c3 ?c4 ?c5 ?_)
        case c1 =>
          intro j u hj
          match j, hj with
          | 0, hj => simp at hj; subst hj; simp [Addr.add]
        case c2 => intro u hu; simp at hu; subst hu; rfl
        case c3 => unfold maxLen; omega
        case c4 => omega
        case c5 => exact hb3.size
        · intro v' w4 hown' hgrow _
          have hb4 := hb3.trans (below_grown hown2 hb3.size hgrow)
          clear hgrow hown2
          go_wp2
          go_roundw
          case rel => exact ⟨q1, out ++ [q1], rfl, by simpa using hown', HE.out.1, by rw [← HCH.out, HE.out.2], hb4⟩
          case measure =>
            have : lenOf v' = out.length + 1 := by
              obtain ⟨_, hv'⟩ := own_ints (l := out ++ [q1]) (by simpa using hown')
              rcases hv' with ⟨_, hv'⟩ | ⟨g', cap', rfl, _⟩
              · exact absurd hv' (by omega)
              · rfl
            show 18 - lenOf v' < 18 - out.length
            rw [this]
            omega

set_option maxHeartbeats 400000 in
theorem isUnder_any (w : World) (a : Option Addr) (c : Nat) (l : List Pl) (n t : Int) (hl : l.length ≤ maxLen) (h : SlP w a l)
    (hr : ∀ p ∈ l, 0 ≤ p.2.1 ∧ p.2.1 ≤ 16) (hn0 : 0 ≤ n) (hn1 : n ≤ 16) :
    Calls Tryz.prog 118 #[.slice a l.length c, .int .i64 n, .int .i64 t] w
      fun e w' => e = .returned (.bool (hasB t (chain l n))) ∧ Below w.heap.size w w' := by
  have hc := chain_any w a c l n hl h hr hn0 hn1
  clear hr
  go_enter Tryz.func118, Tryz.ntmps118
  go_wp2_with fail
  refine hc.mono ?_
  rintro e w1 ⟨v, rfl, hown, hok, hb⟩
  have hlen := Orangery.outOk_len hok
  have hpos := hok.2.2
  obtain ⟨_, hv⟩ := own_ints hown
  rcases hv with ⟨rfl, hv⟩ | ⟨g, cap, rfl, hgb, hgl, hints⟩
  · exact absurd hpos (by omega)
  clear hown hok hc
  generalize hch : chain l n = ch at *
  have HC : Hid (chain l n = ch) := hch
  clear hch
  go_wp2_with fail
  refine (contains_ints _ g 0 cap ch.length t ch rfl (by unfold maxLen; omega) hints).mono ?_
  rintro e w2 ⟨rfl, rfl⟩
  go_wp2
  go_ret
  exact ⟨by rw [HC.out]; rfl, hb⟩
end Go.Proofs.YthlhnokgcnieeadGreat

