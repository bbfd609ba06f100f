/- slices.SortFunc by history.byStamp. -/
import Derived.Test.YtphameoibnimmaaHistA
import Derived.Test.YtphameoibnimmaaSlabSort
import Derived.Test.YtphameoibnimmaaShelfO
import Derived.Test.YtphameoibnimmaaPlainJ
namespace Go.Proofs.Ytphameoibnimmaa
open Go.ChangeShapes Go.WideShapes Go.ChangeAt Go.RowKit
open Orangery (Pl Mv Stp cmpI orI)

theorem byS_lt (o p : Mv) : byS o p < 0 ↔ o.1 < p.1 ∨ (o.1 = p.1 ∧ o.2.1 < p.2.1) := by
  unfold byS orI cmpI
  by_cases h1 : o.1 < p.1
  · simp [h1]
  · by_cases h2 : p.1 < o.1
    · simp [h1, h2]; omega
    · by_cases h3 : o.2.1 < p.2.1
      · simp [h1, h2, h3]; omega
      · by_cases h4 : p.2.1 < o.2.1 <;> simp [h1, h2, h3, h4]
theorem swoStamp : Go.Sort.SWO (Go.Proofs.ltOf byS) := by
  refine ⟨fun x => ?_, fun x y z h1 h2 => ?_, fun x y z h1 h2 => ?_⟩
  · have : ¬ byS x x < 0 := by rw [byS_lt]; omega
    simpa [Go.Proofs.ltOf] using this
  · simp only [Go.Proofs.ltOf, decide_eq_true_eq, byS_lt] at *
    omega
  · simp only [Go.Proofs.ltOf, decide_eq_false_iff_not, byS_lt] at *
    omega

theorem sortOps_any (w : World) (base : Nat) (v : Value) (l : List Mv) (hl : l.length ≤ 1000) (hbase : base ≤ w.heap.size) (h : OwnE opC 7 49 w base v l) :
    Calls Try.prog 64 #[v, .func (.func 65) #[] #[]] w
      fun e w' => e = .returned (.tuple #[]) ∧ ∃ l', l'.Perm l ∧ (l'.Pairwise fun p q => ¬ (q.1 < p.1 ∨ (q.1 = p.1 ∧ q.2.1 < p.2.1))) ∧ OwnE opC 7 49 w' base v l' ∧ Below base w w' := by
  have hn := sortE Try.sortOp Try.isAgg49 Try.sizeOf49 opC_len (by omega) opC_one byS swoStamp 65 (Go.Proofs.enters_of Try.func65 (by kernel_rfl) rfl) (fun w x y => byStamp_any w x y) w base 49 v l hl hbase h
  change Calls Try.prog 64 _ _ _ at hn
  refine hn.mono ?_
  rintro e w' ⟨rfl, l', h1, h2, h3, h4, _⟩
  exact ⟨rfl, l', h1, h2.imp (fun {p q} hh => by rw [byS_lt] at hh; exact hh), h3, h4⟩
end Go.Proofs.Ytphameoibnimmaa
