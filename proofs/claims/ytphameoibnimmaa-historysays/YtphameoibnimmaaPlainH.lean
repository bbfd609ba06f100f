/- Plain facts on histories: operations by their stamps, done one by one: runT (the tree), runS (the steps), srt (by rank, of like ranks the first one). -/
import Derived.Test.YtphameoibnimmaaPlainO
namespace Orangery

/-- the rank of an operation's stamp -/
def rk (o : Mv) : Int := o.1 * 3 + o.2.1
abbrev byRk (l : List Mv) : Prop := l.Pairwise fun a b => rk a < rk b

/-- one operation, of a right tree -/
def dT (t : List Pl) (o : Mv) : List Pl := if ring t o = true then t else inL t o.2.2.1
def dS (t : List Pl) (o : Mv) : Stp := (o, !ring t o, find t o.2.2.1.1)
def runT : List Pl → List Mv → List Pl
  | t, [] => t
  | t, o :: l => runT (dT t o) l
def runS : List Pl → List Mv → List Stp
  | _, [] => []
  | t, o :: l => dS t o :: runS (dT t o) l

theorem runT_append (l m : List Mv) : ∀ t, runT t (l ++ m) = runT (runT t l) m := by
  induction l with
  | nil => intro t; rfl
  | cons o l ih => intro t; exact ih _
theorem runS_append (l m : List Mv) : ∀ t, runS t (l ++ m) = runS t l ++ runS (runT t l) m := by
  induction l with
  | nil => intro t; rfl
  | cons o l ih => intro t; show dS t o :: runS (dT t o) (l ++ m) = dS t o :: (runS (dT t o) l ++ runS (runT (dT t o) l) m); rw [ih]
theorem runS_ops (l : List Mv) : ∀ t, (runS t l).map (·.1) = l := by
  induction l with
  | nil => intro t; rfl
  | cons o l ih => intro t; show o :: (runS (dT t o) l).map (·.1) = o :: l; rw [ih]
theorem runS_len (l : List Mv) (t : List Pl) : (runS t l).length = l.length := by
  have := congrArg List.length (runS_ops l t)
  simpa using this

theorem dT_eq {t : List Pl} {o : Mv} (h : doE t o = 0) : doT t o = dT t o ∧ doS t o = dS t o := ⟨doT_eq h, doS_eq h⟩
theorem doE_of {t : List Pl} {o : Mv} (h1 : check t = 0) (h2 : checkOp o = 0) : doE t o = 0 := by
  unfold doE orI
  rw [if_neg (by simp [h1]), h2]
theorem dT_check {t : List Pl} {o : Mv} (h1 : check t = 0) (h2 : checkOp o = 0) : check (dT t o) = 0 := by
  have h := doE_of h1 h2
  rw [← (dT_eq h).1]
  exact doT_check h
theorem runT_check (l : List Mv) : ∀ t, check t = 0 → (∀ o ∈ l, checkOp o = 0) → check (runT t l) = 0 := by
  induction l with
  | nil => intro t h _; exact h
  | cons o l ih => intro t h hl; exact ih _ (dT_check h (hl o (by simp))) (fun p hp => hl p (by simp [hp]))
theorem check_empty : check [] = 0 := by decide

theorem snoc_ind {P : List Mv → Prop} (h0 : P []) (h1 : ∀ l o, P l → P (l ++ [o])) : ∀ l, P l := by
  have key : ∀ r : List Mv, P r.reverse := by
    intro r
    induction r with
    | nil => exact h0
    | cons o r ih => rw [List.reverse_cons]; exact h1 _ _ ih
  intro l
  have := key l.reverse
  rwa [List.reverse_reverse] at this

/-- an operation put in by its rank -/
def insO (o : Mv) (l : List Mv) : List Mv := (l.filter fun x => decide (rk x < rk o)) ++ o :: (l.filter fun x => decide (rk o < rk x))
def hasR (o : Mv) (l : List Mv) : Bool := l.any fun x => rk x == rk o
def addO (l : List Mv) (o : Mv) : List Mv := if hasR o l = true then l else insO o l
def srt (l : List Mv) : List Mv := l.foldl addO []

theorem srt_nil : srt [] = [] := rfl
theorem srt_snoc (l : List Mv) (o : Mv) : srt (l ++ [o]) = addO (srt l) o := by
  unfold srt
  rw [List.foldl_append]
  rfl

theorem hasR_iff (o : Mv) (l : List Mv) : hasR o l = true ↔ ∃ x ∈ l, rk x = rk o := by
  unfold hasR
  rw [List.any_eq_true]
  simp

theorem insO_sorted (o : Mv) (l : List Mv) (h : byRk l) : byRk (insO o l) := by
  unfold insO byRk
  rw [List.pairwise_append]
  refine ⟨h.filter _, ?_, ?_⟩
  · rw [List.pairwise_cons]
    exact ⟨by intro q hq; simp at hq; omega, h.filter _⟩
  · intro q hq r hr
    simp at hq hr
    rcases hr with rfl | hr <;> omega

theorem insO_mem (o : Mv) (l : List Mv) (h : hasR o l = false) (x : Mv) : x ∈ insO o l ↔ x = o ∨ x ∈ l := by
  have hn : ∀ y ∈ l, rk y ≠ rk o := by
    intro y hy e
    have := (hasR_iff o l).2 ⟨y, hy, e⟩
    rw [h] at this
    simp at this
  unfold insO
  rw [List.mem_append, List.mem_cons, List.mem_filter, List.mem_filter]
  simp only [decide_eq_true_eq]
  constructor
  · rintro (⟨h1, _⟩ | h1 | ⟨h1, _⟩)
    · exact Or.inr h1
    · exact Or.inl h1
    · exact Or.inr h1
  · rintro (h1 | h1)
    · exact Or.inr (Or.inl h1)
    · rcases Int.lt_or_gt_of_ne (hn x h1) with h2 | h2
      · exact Or.inl ⟨h1, h2⟩
      · exact Or.inr (Or.inr ⟨h1, h2⟩)

theorem filterM_or (f g : Mv → Bool) (hd : ∀ p, f p = true → g p = false) (l : List Mv) : (l.filter f ++ l.filter g).Perm (l.filter fun p => f p || g p) := by
  induction l with
  | nil => exact List.Perm.refl _
  | cons p l ih =>
    simp only [List.filter_cons]
    cases hf : f p
    · cases hg : g p
      · simpa using ih
      · simp only [Bool.or_true, if_true, Bool.false_eq_true, if_false]
        exact List.perm_middle.trans (List.Perm.cons _ ih)
    · have hg := hd p hf
      simp only [hg, Bool.or_false, if_true, Bool.false_eq_true, if_false, List.cons_append]
      exact List.Perm.cons _ ih

theorem insO_perm (o : Mv) (l : List Mv) (h : hasR o l = false) : (insO o l).Perm (l ++ [o]) := by
  have h1 := filterM_or (fun q => decide (rk q < rk o)) (fun q => decide (rk o < rk q)) (by intro q hq; simp at hq ⊢; omega) l
  have e : (l.filter fun q => decide (rk q < rk o) || decide (rk o < rk q)) = l := by
    rw [List.filter_eq_self]
    intro q hq
    have : rk q ≠ rk o := by
      intro e
      have := (hasR_iff o l).2 ⟨q, hq, e⟩
      rw [h] at this
      simp at this
    simp
    omega
  rw [e] at h1
  unfold insO
  refine List.perm_middle.trans ?_
  refine (List.Perm.cons o h1).trans ?_
  exact List.perm_append_comm (l₁ := [o])

theorem srt_sorted : ∀ l, byRk (srt l) := by
  refine snoc_ind ?_ ?_
  · exact List.Pairwise.nil
  · intro l o ih
    rw [srt_snoc]
    unfold addO
    split
    · exact ih
    · exact insO_sorted o _ ih

theorem srt_first : ∀ l, ∀ d ∈ srt l, l.find? (fun x => rk x == rk d) = some d := by
  refine snoc_ind ?_ ?_
  · intro d hd; simp [srt_nil] at hd
  · intro l o ih d hd
    rw [srt_snoc] at hd
    rw [List.find?_append]
    unfold addO at hd
    split at hd
    · rw [ih d hd]; rfl
    · rename_i hn
      have hn' : hasR o (srt l) = false := by simpa using hn
      rw [insO_mem o _ hn'] at hd
      rcases hd with rfl | hd
      · have : l.find? (fun x => rk x == rk d) = none := by
          rw [List.find?_eq_none]
          intro x hx he
          have he' : rk x = rk d := by simpa using he
          have key : ∀ l : List Mv, ∀ x ∈ l, ∃ y ∈ srt l, rk y = rk x := by
            refine snoc_ind ?_ ?_
            · intro x hx; simp at hx
            · intro l o ih x hx
              rw [srt_snoc]
              unfold addO
              split
              · rename_i hh
                rw [List.mem_append] at hx
                rcases hx with hx | hx
                · exact ih x hx
                · simp at hx
                  subst hx
                  exact (hasR_iff _ _).1 hh
              · rename_i hh
                have hh' : hasR o (srt l) = false := by simpa using hh
                rw [List.mem_append] at hx
                rcases hx with hx | hx
                · obtain ⟨y, hy, e⟩ := ih x hx
                  exact ⟨y, (insO_mem o _ hh' y).2 (Or.inr hy), e⟩
                · simp at hx
                  subst hx
                  exact ⟨x, (insO_mem x _ hh' x).2 (Or.inl rfl), rfl⟩
          obtain ⟨y, hy, e⟩ := key l x hx
          have := (hasR_iff d (srt l)).2 ⟨y, hy, by rw [e, he']⟩
          rw [hn'] at this
          simp at this
        rw [this]
        simp
      · rw [ih d hd]; rfl

theorem srt_all : ∀ l : List Mv, ∀ x ∈ l, ∃ y ∈ srt l, rk y = rk x := by
  refine snoc_ind ?_ ?_
  · intro x hx; simp at hx
  · intro l o ih x hx
    rw [srt_snoc]
    unfold addO
    split
    · rename_i hh
      rw [List.mem_append] at hx
      rcases hx with hx | hx
      · exact ih x hx
      · simp at hx
        subst hx
        exact (hasR_iff _ _).1 hh
    · rename_i hh
      have hh' : hasR o (srt l) = false := by simpa using hh
      rw [List.mem_append] at hx
      rcases hx with hx | hx
      · obtain ⟨y, hy, e⟩ := ih x hx
        exact ⟨y, (insO_mem o _ hh' y).2 (Or.inr hy), e⟩
      · simp at hx
        subst hx
        exact ⟨x, (insO_mem x _ hh' x).2 (Or.inl rfl), rfl⟩

theorem srt_mem (l : List Mv) (d : Mv) (h : d ∈ srt l) : d ∈ l := List.mem_of_find?_eq_some (srt_first l d h)

/-- no two of a like rank -/
abbrev noTwo (l : List Mv) : Prop := l.Pairwise fun a b => rk a ≠ rk b

theorem srt_len : ∀ l, (srt l).length ≤ l.length ∧ (noTwo l → (srt l).Perm l) ∧ (¬ noTwo l → (srt l).length < l.length) := by
  refine snoc_ind ?_ ?_
  · exact ⟨by simp [srt_nil], fun _ => by rw [srt_nil], fun h => absurd List.Pairwise.nil h⟩
  · intro l o ⟨h1, h2, h3⟩
    rw [srt_snoc]
    unfold addO
    have hlast : noTwo (l ++ [o]) ↔ noTwo l ∧ ∀ x ∈ l, rk x ≠ rk o := by
      unfold noTwo
      rw [List.pairwise_append]
      simp
    split
    · rename_i hh
      refine ⟨by simp; omega, fun hn => ?_, fun _ => by simp; omega⟩
      exfalso
      obtain ⟨x, hx, e⟩ := (hasR_iff _ _).1 hh
      exact (hlast.1 hn).2 x (srt_mem l x hx) e
    · rename_i hh
      have hh' : hasR o (srt l) = false := by simpa using hh
      have hp := insO_perm o (srt l) hh'
      have hl := hp.length_eq
      rw [List.length_append] at hl
      refine ⟨by rw [hl]; simp; exact h1, fun hn => ?_, fun hn => ?_⟩
      · exact hp.trans ((h2 (hlast.1 hn).1).append_right [o])
      · rw [hl]
        have : ¬ noTwo l := by
          intro hl'
          apply hn
          rw [hlast]
          refine ⟨hl', fun x hx e => ?_⟩
          obtain ⟨y, hy, e2⟩ := srt_all l x hx
          have := (hasR_iff o (srt l)).2 ⟨y, hy, by rw [e2, e]⟩
          rw [hh'] at this
          simp at this
        have := h3 this
        simp
        exact this

theorem rk_unique (l m : List Mv) (hl : byRk l) (hm : byRk m) (hp : l.Perm m) : l = m := by
  refine List.Perm.eq_of_pairwise (le := fun a b : Mv => rk a ≤ rk b) ?_ (hl.imp (by intro a b h; omega)) (hm.imp (by intro a b h; omega)) hp
  intro a b h1 h2 h3 h4
  have h5 : a ∈ m := hp.mem_iff.1 h1
  have key : ∀ m : List Mv, byRk m → a ∈ m → b ∈ m → rk a = rk b → a = b := by
    intro m
    induction m with
    | nil => intro _ h; simp at h
    | cons x m ih =>
      intro hb ha hbm e
      replace hb := List.pairwise_cons.1 hb
      simp at ha hbm
      rcases ha with rfl | ha <;> rcases hbm with rfl | hbm
      · rfl
      · have := hb.1 b hbm; omega
      · have := hb.1 a ha; omega
      · exact ih hb.2 ha hbm e
  exact key m hm h5 h2 (by omega)

theorem byRk_noTwo {l : List Mv} (h : byRk l) : noTwo l := h.imp (by intro a b h; omega)
theorem noTwo_perm {l m : List Mv} (h : l.Perm m) (hl : noTwo l) : noTwo m :=
  (h.pairwise_iff (by intro a b h e; exact h e.symm)).1 hl

/-- what is in order, and holds the same ones, is what is sorted -/
theorem srt_unique (l m : List Mv) (hm : byRk m) (hp : m.Perm l) : srt l = m :=
  rk_unique _ _ (srt_sorted l) hm (((srt_len l).2.1 (noTwo_perm hp (byRk_noTwo hm))).trans hp.symm)
theorem srt_self (l : List Mv) (h : byRk l) : srt l = l := srt_unique l l h (List.Perm.refl _)
theorem srt_perm (l m : List Mv) (hn : noTwo l) (hp : l.Perm m) : srt l = srt m :=
  srt_unique l (srt m) (srt_sorted m) (((srt_len m).2.1 (noTwo_perm hp hn)).trans hp.symm)
theorem srt_again (l : List Mv) : srt (srt l) = srt l := srt_self _ (srt_sorted l)

/-- the rank ahead of the k-th -/
def lastR (d : List Mv) (k : Nat) : Int := if h : 0 < k ∧ k - 1 < d.length then rk d[k - 1] else -1

/-- the least one above the last one is the next one -/
theorem srt_next (l : List Mv) (k : Nat) (hk : k ≤ (srt l).length) (hpos : ∀ o ∈ l, 0 ≤ rk o) (b : Mv) (hf : l.find? (fun x => rk x == rk b) = some b) (hb : lastR (srt l) k < rk b)
    (hmin : ∀ x ∈ l, lastR (srt l) k < rk x → rk b ≤ rk x) : ∃ h : k < (srt l).length, (srt l)[k] = b := by
  have hbl : b ∈ l := List.mem_of_find?_eq_some hf
  obtain ⟨d, hd, e⟩ := srt_all l b hbl
  have hdb : d = b := by
    have h1 := srt_first l d hd
    rw [e, hf] at h1
    exact (Option.some.inj h1).symm
  subst hdb
  obtain ⟨j, hj, hjd⟩ := List.getElem_of_mem hd
  have hs := List.pairwise_iff_getElem.1 (srt_sorted l)
  have hjk : k ≤ j := by
    rcases Nat.lt_or_ge j k with h | h
    · exfalso
      unfold lastR at hb
      rw [dif_pos ⟨by omega, by omega⟩, ← hjd] at hb
      rcases Nat.lt_or_ge j (k - 1) with h2 | h2
      · have := hs j (k - 1) hj (by omega) h2; omega
      · have e2 : j = k - 1 := by omega
        subst e2
        omega
    · exact h
  have hlt : k < (srt l).length := by omega
  refine ⟨hlt, ?_⟩
  rcases Nat.lt_or_ge k j with h | h
  · exfalso
    have h1 := hs k j hlt hj h
    have h2 : lastR (srt l) k < rk (srt l)[k] := by
      unfold lastR
      split
      · exact hs (k - 1) k (by omega) hlt (by omega)
      · have := hpos _ (srt_mem l _ (List.getElem_mem hlt)); omega
    have h3 := hmin _ (srt_mem l _ (List.getElem_mem hlt)) h2
    rw [hjd] at h1
    omega
  · have e2 : j = k := by omega
    subst e2
    exact hjd

/-- where none is above the last one, all are there -/
theorem srt_none (l : List Mv) (k : Nat) (hk : k ≤ (srt l).length) (hpos : ∀ o ∈ l, 0 ≤ rk o) (hno : ∀ x ∈ l, ¬ lastR (srt l) k < rk x) : k = (srt l).length := by
  rcases Nat.lt_or_ge k (srt l).length with h | h
  · exfalso
    have hs := List.pairwise_iff_getElem.1 (srt_sorted l)
    refine hno _ (srt_mem l _ (List.getElem_mem h)) ?_
    unfold lastR
    split
    · exact hs (k - 1) k (by omega) h (by omega)
    · have := hpos _ (srt_mem l _ (List.getElem_mem h)); omega
  · omega

/-- later ones come behind -/
theorem srt_late (d : List Mv) (o : Mv) (hd : byRk d) (h : ∀ x ∈ d, rk x < rk o) : srt (d ++ [o]) = d ++ [o] := by
  refine srt_self _ ?_
  unfold byRk
  rw [List.pairwise_append]
  refine ⟨hd, by simp, ?_⟩
  intro a ha b hb
  simp at hb
  subst hb
  exact h a ha

theorem rk_pos {o : Mv} (h : checkOp o = 0) : 0 ≤ rk o := by
  have := checkOp_zero h
  simp only [opOkB, decide_eq_true_eq] at this
  unfold rk
  omega
/-- like ranks are like stamps -/
theorem rk_eq {o p : Mv} (ho : checkOp o = 0) (hp : checkOp p = 0) : rk o = rk p ↔ o.1 = p.1 ∧ o.2.1 = p.2.1 := by
  have h1 := checkOp_zero ho
  have h2 := checkOp_zero hp
  simp only [opOkB, decide_eq_true_eq] at h1 h2
  unfold rk
  omega
theorem rk_lt {o p : Mv} (ho : checkOp o = 0) (hp : checkOp p = 0) : rk o < rk p ↔ o.1 < p.1 ∨ (o.1 = p.1 ∧ o.2.1 < p.2.1) := by
  have h1 := checkOp_zero ho
  have h2 := checkOp_zero hp
  simp only [opOkB, decide_eq_true_eq] at h1 h2
  unfold rk
  omega

/-- where the last step of a node that did anything put it -/
def wantAt (n : Int) : Pl → List Stp → Pl
  | p, [] => p
  | p, s :: l => wantAt n (if s.1.2.2.1.1 = n ∧ s.2.1 = true then (n, s.1.2.2.1.2.1, s.1.2.2.1.2.2) else p) l

theorem run_want (n : Int) (l : List Mv) : ∀ t, find (runT t l) n = wantAt n (find t n) (runS t l) := by
  induction l with
  | nil => intro t; rfl
  | cons o l ih =>
    intro t
    show find (runT (dT t o) l) n = wantAt n (if o.2.2.1.1 = n ∧ (!ring t o) = true then (n, o.2.2.1.2.1, o.2.2.1.2.2) else find t n) (runS (dT t o) l)
    rw [ih]
    congr 1
    unfold dT
    cases hr : ring t o
    · rw [if_neg (by simp), find_in]
      by_cases hn : n = o.2.2.1.1
      · subst hn
        simp
      · rw [if_neg hn, if_neg (fun h => hn h.1.symm)]
    · simp
end Orangery
