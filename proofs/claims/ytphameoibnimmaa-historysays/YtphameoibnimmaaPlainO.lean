/- Plain facts: what an operation leaves of a tree. -/
import Derived.Test.YtphameoibnimmaaPlainN
namespace Orangery

theorem doT_eq {l : List Pl} {o : Mv} (h : doE l o = 0) : doT l o = if ring l o = true then l else inL l o.2.2.1 := by
  unfold doT; rw [if_neg (by simp [h])]
theorem doS_eq {l : List Pl} {o : Mv} (h : doE l o = 0) : doS l o = (o, !ring l o, find l o.2.2.1.1) := by
  unfold doS; rw [if_neg (by simp [h])]

theorem doT_check {l : List Pl} {o : Mv} (h : doE l o = 0) : check (doT l o) = 0 := by
  obtain ⟨h1, h2⟩ := doE_zero h
  obtain ⟨hr, _, _⟩ := opOk_place (checkOp_zero h2)
  rw [doT_eq h]
  cases hring : ring l o
  · exact check_in l _ h1 hr hring
  · exact h1

theorem doT_find {l : List Pl} {o : Mv} (h : doE l o = 0) (n : Int) (hn : n ≠ o.2.2.1.1) : find (doT l o) n = find l n := by
  rw [doT_eq h]
  split
  · rfl
  · rw [find_in, if_neg hn]

theorem doT_moved {l : List Pl} {o : Mv} (h : doE l o = 0) (hr : ring l o = false) : find (doT l o) o.2.2.1.1 = o.2.2.1 := by
  rw [doT_eq h, hr]
  simp [find_in]
end Orangery
