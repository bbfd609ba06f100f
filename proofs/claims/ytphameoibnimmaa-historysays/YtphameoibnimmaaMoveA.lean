/- move's small functions: within, Check, target, the closures; orangeryref.CheckOp. -/
import Derived.Test.YtphameoibnimmaaRefA
import Derived.Test.YtphameoibnimmaaPlainN
namespace Go.Proofs.Ytphameoibnimmaa
open Go.ChangeShapes Go.WideShapes Go.ChangeAt Go.RowKit
open Orangery (Pl Mv Stp opOkB checkOp orI cmpI inRangeB)

/-- the value of an operation -/
abbrev opV (o : Mv) : Value := .agg #[.int .i64 o.1, .int .i64 o.2.1, .int .i64 o.2.2.1.1, .int .i64 o.2.2.1.2.1, .int .i64 o.2.2.1.2.2, .int .i64 o.2.2.2.1, .int .i64 o.2.2.2.2]
/-- the value of a step -/
abbrev stV (s : Stp) : Value := .agg #[.int .i64 s.1.1, .int .i64 s.1.2.1, .int .i64 s.1.2.2.1.1, .int .i64 s.1.2.2.1.2.1, .int .i64 s.1.2.2.1.2.2, .int .i64 s.1.2.2.2.1, .int .i64 s.1.2.2.2.2, .bool s.2.1, .int .i64 s.2.2.1, .int .i64 s.2.2.2.1, .int .i64 s.2.2.2.2]

/-- the cells of an operation, of a step -/
def opC (o : Mv) : List Value := [.int .i64 o.1, .int .i64 o.2.1, .int .i64 o.2.2.1.1, .int .i64 o.2.2.1.2.1, .int .i64 o.2.2.1.2.2, .int .i64 o.2.2.2.1, .int .i64 o.2.2.2.2]
def stC (s : Stp) : List Value := [.int .i64 s.1.1, .int .i64 s.1.2.1, .int .i64 s.1.2.2.1.1, .int .i64 s.1.2.2.1.2.1, .int .i64 s.1.2.2.1.2.2, .int .i64 s.1.2.2.2.1, .int .i64 s.1.2.2.2.2, .bool s.2.1, .int .i64 s.2.2.1, .int .i64 s.2.2.2.1, .int .i64 s.2.2.2.2]
theorem stC_len (s : Stp) : (stC s).length = 11 := rfl
theorem stC_one (s : Stp) : ∀ v ∈ stC s, v.oneCell' = true := by
  intro v hv
  simp [stC] at hv
  rcases hv with rfl | rfl | rfl | rfl | rfl | rfl | rfl | rfl | rfl | rfl | rfl <;> rfl

def inB (n a b : Int) : Bool := decide (a ≤ n ∧ n ≤ b)

set_option maxHeartbeats 400000 in
theorem within_any (w : World) (n a b : Int) :
    Calls Try.prog 60 #[.int .i64 n, .int .i64 a, .int .i64 b] w fun e w' => e = .returned (.bool (inB n a b)) ∧ w' = w := by
  by_cases h1 : a ≤ n
  all_goals by_cases h2 : n ≤ b
  all_goals
    go_enter Try.func60, Try.ntmps60
    go_wp2
    go_ret
    exact ⟨ret_bool (by simp [inB]; try omega), rfl⟩

theorem checkOp_in (o : Mv) : opOkB o = (inB o.1 1 10000 && inB o.2.1 0 2 && inB o.2.2.1.1 1 15 && inB o.2.2.1.2.1 0 16 && inB o.2.2.1.2.2 0 99 && inB o.2.2.2.1 1 50 && inB o.2.2.2.2 1 30) := by
  rw [Bool.eq_iff_iff]
  simp [opOkB, inB]
  omega

set_option maxHeartbeats 2000000 in
theorem moveCheck_any (w : World) (o : Mv) :
    Calls Try.prog 27 #[opV o] w fun e w' => e = .returned (.int .i64 (checkOp o)) ∧ Below w.heap.size w w' := by
  have hk := checkOp_in o
  obtain ⟨o1, o2, ⟨o3, o4, o5⟩, o6, o7⟩ := o
  have HE : Hid (checkOp (o1, o2, (o3, o4, o5), o6, o7) = if opOkB (o1, o2, (o3, o4, o5), o6, o7) = true then 0 else 3) := rfl
  have HK : Hid (opOkB (o1, o2, (o3, o4, o5), o6, o7) = (inB o1 1 10000 && inB o2 0 2 && inB o3 1 15 && inB o4 0 16 && inB o5 0 99 && inB o6 1 50 && inB o7 1 30)) := hk
  clear hk
  go_enter Try.func27, Try.ntmps27
  go_wp2_with fail
  refine (within_any _ o1 _ _).mono ?_
  rintro e w1 ⟨rfl, rfl⟩
  cases h1 : inB o1 1 10000
  · go_wp2
    go_ret
    exact ⟨ret_int (by rw [HE.out, HK.out]; simp [h1]), Go.Joins.below_alloc1 w _⟩
  go_wp2_with fail
  refine (within_any _ o2 _ _).mono ?_
  rintro e w1 ⟨rfl, rfl⟩
  cases h2 : inB o2 0 2
  · go_wp2
    go_ret
    exact ⟨ret_int (by rw [HE.out, HK.out]; simp [h2]), Go.Joins.below_alloc1 w _⟩
  go_wp2_with fail
  refine (within_any _ o3 _ _).mono ?_
  rintro e w1 ⟨rfl, rfl⟩
  cases h3 : inB o3 1 15
  · go_wp2
    go_ret
    exact ⟨ret_int (by rw [HE.out, HK.out]; simp [h3]), Go.Joins.below_alloc1 w _⟩
  go_wp2_with fail
  refine (within_any _ o4 _ _).mono ?_
  rintro e w1 ⟨rfl, rfl⟩
  cases h4 : inB o4 0 16
  · go_wp2
    go_ret
    exact ⟨ret_int (by rw [HE.out, HK.out]; simp [h4]), Go.Joins.below_alloc1 w _⟩
  go_wp2_with fail
  refine (within_any _ o5 _ _).mono ?_
  rintro e w1 ⟨rfl, rfl⟩
  cases h5 : inB o5 0 99
  · go_wp2
    go_ret
    exact ⟨ret_int (by rw [HE.out, HK.out]; simp [h5]), Go.Joins.below_alloc1 w _⟩
  go_wp2_with fail
  refine (within_any _ o6 _ _).mono ?_
  rintro e w1 ⟨rfl, rfl⟩
  cases h6 : inB o6 1 50
  · go_wp2
    go_ret
    exact ⟨ret_int (by rw [HE.out, HK.out]; simp [h6]), Go.Joins.below_alloc1 w _⟩
  go_wp2_with fail
  refine (within_any _ o7 _ _).mono ?_
  rintro e w1 ⟨rfl, rfl⟩
  cases h7 : inB o7 1 30
  · go_wp2
    go_ret
    exact ⟨ret_int (by rw [HE.out, HK.out]; simp [h7]), Go.Joins.below_alloc1 w _⟩
  go_wp2
  go_ret
  exact ⟨ret_int (by rw [HE.out, HK.out]; simp [h1, h2, h3, h4, h5, h6, h7]), Go.Joins.below_alloc1 w _⟩

theorem without1_any (w : World) (p : Pl) (n : Int) (b : Nat) (hb : b < w.heap.size) (hc : w.cell? ⟨b, 0, none⟩ = some (.int .i64 n)) :
    Calls Try.prog 77 #[plV p, .pointer (some ⟨b, 0, none⟩)] w fun e w' => e = .returned (.bool (p.1 == n)) ∧ Below w.heap.size w w' := by
  go_enter Try.func77, Try.ntmps77
  have hne : ¬ w.heap.size = b := by omega
  go_wp2
  go_ret
  exact ⟨rfl, Go.Joins.below_alloc1 w _⟩

set_option maxHeartbeats 400000 in
theorem target_any (w : World) (o : Mv) :
    Calls Try.prog 56 #[opV o] w fun e w' => e = .returned (plV o.2.2.1) ∧ Below w.heap.size w w' := by
  obtain ⟨o1, o2, ⟨o3, o4, o5⟩, o6, o7⟩ := o
  go_enter Try.func56, Try.ntmps56
  go_wp2
  refine bodyPost_ret (v := plV (o3, o4, o5)) (by simp [results, Try.results56, go_sem]) rfl ⟨rfl, Go.Joins.below_alloc2 w _ _⟩

theorem ref_in (o : Mv) : opOkB o = (inB o.1 1 10000 && inB o.2.1 0 2 && inRangeB o.2.2.1 && inB o.2.2.2.1 1 50 && inB o.2.2.2.2 1 30) := by
  rw [Bool.eq_iff_iff]
  simp [opOkB, inB, inRangeB]
  omega

set_option maxHeartbeats 400000 in
theorem rin_any (w : World) (n a b : Int) :
    Calls Try.prog 61 #[.int .i64 n, .int .i64 a, .int .i64 b] w fun e w' => e = .returned (.bool (inB n a b)) ∧ w' = w := by
  by_cases h1 : a ≤ n
  all_goals by_cases h2 : n ≤ b
  all_goals
    go_enter Try.func61, Try.ntmps61
    go_wp2
    go_ret
    exact ⟨ret_bool (by simp [inB]; try omega), rfl⟩

set_option maxHeartbeats 2000000 in
theorem refCheckOp_any (w : World) (o : Mv) :
    Calls Try.prog 28 #[opV o] w fun e w' => e = .returned (.int .i64 (checkOp o)) ∧ Below w.heap.size w w' := by
  have hk := ref_in o
  obtain ⟨o1, o2, ⟨o3, o4, o5⟩, o6, o7⟩ := o
  have HE : Hid (checkOp (o1, o2, (o3, o4, o5), o6, o7) = if opOkB (o1, o2, (o3, o4, o5), o6, o7) = true then 0 else 3) := rfl
  have HK : Hid (opOkB (o1, o2, (o3, o4, o5), o6, o7) = (inB o1 1 10000 && inB o2 0 2 && inRangeB (o3, o4, o5) && inB o6 1 50 && inB o7 1 30)) := hk
  clear hk
  go_enter Try.func28, Try.ntmps28
  go_wp2_with fail
  refine (rin_any _ o1 _ _).mono ?_
  rintro e w1 ⟨rfl, rfl⟩
  cases h1 : inB o1 1 10000
  · go_wp2
    go_ret
    exact ⟨ret_int (by rw [HE.out, HK.out]; simp [h1]), Go.Joins.below_alloc1 w _⟩
  go_wp2_with fail
  refine (rin_any _ o2 _ _).mono ?_
  rintro e w1 ⟨rfl, rfl⟩
  cases h2 : inB o2 0 2
  · go_wp2
    go_ret
    exact ⟨ret_int (by rw [HE.out, HK.out]; simp [h2]), Go.Joins.below_alloc1 w _⟩
  go_wp2_with fail
  refine (checkPlace_any _ (o3, o4, o5)).mono ?_
  rintro e w1 ⟨rfl, hb⟩
  have hb1 : Below w.heap.size w w1 := (Go.Joins.below_alloc1 w _).trans (hb.mono (by simp))
  have c6 : w1.cell? ⟨w.heap.size, 5, none⟩ = some (.int .i64 o6) := by rw [hb.cell (by simp)]; simp
  have c7 : w1.cell? ⟨w.heap.size, 6, none⟩ = some (.int .i64 o7) := by rw [hb.cell (by simp)]; simp
  have HC : Hid (cpE (o3, o4, o5) = if inRangeB (o3, o4, o5) = true then 0 else 3) := rfl
  clear hb
  cases h3 : inRangeB (o3, o4, o5)
  · rw [show cpE (o3, o4, o5) = 3 by rw [HC.out, h3]; rfl]
    go_wp2
    go_ret
    exact ⟨ret_int (by rw [HE.out, HK.out]; simp [h3]), hb1⟩
  rw [show cpE (o3, o4, o5) = 0 by rw [HC.out, h3]; rfl]
  go_wp2_with fail
  refine (rin_any _ o6 _ _).mono ?_
  rintro e w2 ⟨rfl, rfl⟩
  cases h4 : inB o6 1 50
  · go_wp2
    go_ret
    exact ⟨ret_int (by rw [HE.out, HK.out]; simp [h4]), hb1⟩
  go_wp2_with fail
  refine (rin_any _ o7 _ _).mono ?_
  rintro e w2 ⟨rfl, rfl⟩
  cases h5 : inB o7 1 30
  · go_wp2
    go_ret
    exact ⟨ret_int (by rw [HE.out, HK.out]; simp [h5]), hb1⟩
  go_wp2
  go_ret
  exact ⟨ret_int (by rw [HE.out, HK.out]; simp [h1, h2, h3, h4, h5]), hb1⟩
end Go.Proofs.Ytphameoibnimmaa
