/- Plain facts on chapter 3, further: stamps that are there, and what sorting by stamps makes. -/
import Derived.Test.YtphameoibnimmaaPlainI
namespace Orangery

/-- an operation of these has this stamp -/
def hasM (l : List Mv) (t u : Int) : Bool := l.any fun o => decide (o.1 = t) && decide (o.2.1 = u)

theorem hasM_iff (l : List Mv) (t u : Int) : hasM l t u = true ↔ ∃ x ∈ l, x.1 = t ∧ x.2.1 = u := by
  unfold hasM
  rw [List.any_eq_true]
  simp

theorem hasM_rk {l : List Mv} (hl : ∀ x ∈ l, checkOp x = 0) {o : Mv} (ho : checkOp o = 0) : hasM l o.1 o.2.1 = true ↔ ∃ x ∈ l, rk x = rk o := by
  rw [hasM_iff]
  constructor
  · rintro ⟨x, hx, h⟩; exact ⟨x, hx, (rk_eq (hl x hx) ho).2 h⟩
  · rintro ⟨x, hx, h⟩; exact ⟨x, hx, (rk_eq (hl x hx) ho).1 h⟩

theorem noTwo_take {l : List Mv} (hl : ∀ x ∈ l, checkOp x = 0) (k : Nat) (hk : k < l.length) (hn : noTwo (l.take k)) :
    (hasM (l.take k) l[k].1 l[k].2.1 = false → noTwo (l.take (k + 1))) ∧ (hasM (l.take k) l[k].1 l[k].2.1 = true → ¬ noTwo l) := by
  have ho := hl l[k] (List.getElem_mem hk)
  have hlk : ∀ x ∈ l.take k, checkOp x = 0 := fun x hx => hl x (List.mem_of_mem_take hx)
  constructor
  · intro h
    rw [List.take_succ_eq_append_getElem hk]
    unfold noTwo
    rw [List.pairwise_append]
    refine ⟨hn, by simp, ?_⟩
    intro x hx y hy e
    simp at hy
    subst hy
    have := (hasM_rk hlk ho).2 ⟨x, hx, e⟩
    rw [h] at this
    simp at this
  · intro h hno
    obtain ⟨x, hx, e⟩ := (hasM_rk hlk ho).1 h
    have h2 : noTwo (l.take (k + 1)) := List.Pairwise.sublist (List.take_sublist _ _) hno
    rw [List.take_succ_eq_append_getElem hk] at h2
    unfold noTwo at h2
    rw [List.pairwise_append] at h2
    exact h2.2.2 x hx l[k] (by simp) e

/-- what sorting by stamps makes -/
theorem srt_of_stamps {l l' : List Mv} (hl : ∀ x ∈ l, checkOp x = 0) (hn : noTwo l) (hp : l'.Perm l) (hs : l'.Pairwise fun p q => ¬ (q.1 < p.1 ∨ (q.1 = p.1 ∧ q.2.1 < p.2.1))) : srt l = l' := by
  refine srt_unique l l' ?_ hp
  have hn' := noTwo_perm hp.symm hn
  have hl' : ∀ x ∈ l', checkOp x = 0 := fun x hx => hl x (hp.mem_iff.1 hx)
  have h2 := hs.and hn'
  refine h2.imp_of_mem ?_
  intro a b ha hb h
  have e1 := rk_lt (hl' b hb) (hl' a ha)
  obtain ⟨h3, h4⟩ := h
  rw [← e1] at h3
  omega

theorem fold_err {l : List Mv} (h : foldE l ≠ 0) : foldL l = [] ∧ foldT l = [] := by
  unfold foldL foldT
  rw [if_pos h, if_pos h]
  exact ⟨rfl, rfl⟩
theorem foldE_many {l : List Mv} (h : 30 < l.length) : foldE l = 2 := by unfold foldE; rw [if_pos h]
theorem foldE_first {l : List Mv} (h : l.length ≤ 30) (h2 : firstE l ≠ 0) : foldE l = firstE l := by unfold foldE; rw [if_neg (by omega), if_pos h2]
theorem foldE_twice {l : List Mv} (h : l.length ≤ 30) (h2 : firstE l = 0) (h3 : ¬ noTwo l) : foldE l = 6 := by
  unfold foldE
  rw [if_neg (by omega), if_neg (by simp [h2]), if_pos ((srt_len l).2.2 h3)]
theorem foldE_ok {l : List Mv} (h : l.length ≤ 30) (h2 : firstE l = 0) (h3 : noTwo l) : foldE l = 0 := (foldE_zero l).2 ⟨h, (firstE_zero l).1 h2, h3⟩
end Orangery
