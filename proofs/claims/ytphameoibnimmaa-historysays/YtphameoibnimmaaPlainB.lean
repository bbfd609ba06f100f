/- Plain functions: tree.Under; a small tree. -/
import Derived.Test.YtphameoibnimmaaPlain
namespace Orangery

/-- tree.Under -/
def underE (l : List Pl) (n t : Int) : Int := if check l ≠ 0 then check l else if isNodeB n = true ∧ isNodeB t = true then 0 else 5
def underB (l : List Pl) (n t : Int) : Bool := if underE l n t ≠ 0 then false else (n == t) || meetsN l (fun m => m == t) l.length n

theorem underE_bad (l : List Pl) (n t : Int) (h : check l ≠ 0) : underE l n t = check l ∧ underB l n t = false := by
  have : underE l n t = check l := by simp [underE, h]
  exact ⟨this, by simp [underB, this, h]⟩
theorem underE_who (l : List Pl) (n t : Int) (h : check l = 0) (hn : ¬ (isNodeB n = true ∧ isNodeB t = true)) : underE l n t = 5 ∧ underB l n t = false := by
  have : underE l n t = 5 := by simp only [underE, h, ne_eq, not_true_eq_false, if_false, if_neg hn]
  exact ⟨this, by simp [underB, this]⟩
theorem underE_ok (l : List Pl) (n t : Int) (h : check l = 0) (h1 : isNodeB n = true) (h2 : isNodeB t = true) : underE l n t = 0 ∧ underB l n t = ((n == t) || meetsN l (fun m => m == t) l.length n) := by
  have : underE l n t = 0 := by simp [underE, h, h1, h2]
  exact ⟨this, by simp [underB, this]⟩

def smallL : List Pl := [(1, 0, 5), (2, 1, 7), (3, 1, 6), (4, 2, 0)]
def ringL : List Pl := [(1, 2, 0), (2, 1, 0)]
def cmpI (x y : Int) : Int := if x < y then -1 else if y < x then 1 else 0
def orI (x y : Int) : Int := if x ≠ 0 then x else y
/-- tree.byName -/
def byN (p q : Pl) : Int := orI (cmpI p.2.2 q.2.2) (cmpI p.1 q.1)
end Orangery
