/- orangerylaw.op; an own slice is read. -/
import Derived.Test.YtphameoibnimmaaOwn
import Derived.Test.YtphameoibnimmaaMoveA
namespace Go.Proofs.Ytphameoibnimmaa
open Go.ChangeShapes Go.WideShapes Go.ChangeAt Go.RowKit
open Orangery (Pl Mv Stp)

/-- orangerylaw.op -/
def lopO (t u n p : Int) : Mv := (t, u, (n, p, 0), 1, t)

set_option maxHeartbeats 400000 in
theorem lop_any (w : World) (t u n p : Int) :
    Calls Try.prog 59 #[.int .i64 t, .int .i64 u, .int .i64 n, .int .i64 p] w fun e w' => e = .returned (opV (lopO t u n p)) ∧ Below w.heap.size w w' := by
  go_enter Try.func59, Try.ntmps59
  go_wp2
  refine bodyPost_ret (v := opV (lopO t u n p)) (by simp [results, Try.results59, go_sem, lopO]) rfl ⟨rfl, Go.Joins.below_alloc1 w _⟩

theorem OwnS.read {w : World} {base : Nat} {a : Option Addr} {n c : Nat} {l : List Pl} (h : OwnS w base (.slice a n c) l) : SlP w a l := by
  obtain ⟨a', c', e, h'⟩ := h.slp
  obtain ⟨rfl, _⟩ : a = a' ∧ _ := by simpa using e
  exact h'

end Go.Proofs.Ytphameoibnimmaa
