/- history's small functions: has, byStamp; slices.ContainsFunc, IndexFunc, Clone at operations; orangeryref.rank. -/
import Derived.Test.YtphameoibnimmaaOwnE
import Derived.Test.YtphameoibnimmaaByName
import Derived.Test.YtphameoibnimmaaStepNeq
import Derived.Test.YtphameoibnimmaaPlainI
namespace Go.Proofs.Ytphameoibnimmaa
open Go.ChangeShapes Go.WideShapes Go.ChangeAt Go.RowKit
open Orangery (Pl Mv Stp cmpI orI rk)

def sameS (t u : Int) (o : Mv) : Bool := decide (o.1 = t) && decide (o.2.1 = u)
def hasS (l : List Mv) (t u : Int) : Bool := l.any (sameS t u)

set_option maxHeartbeats 400000 in
theorem has1_any (w : World) (o : Mv) (t u : Int) (b : Nat) (hb : b < w.heap.size) (c0 : w.cell? ⟨b, 0, none⟩ = some (.int .i64 t)) (c1 : w.cell? ⟨b, 1, none⟩ = some (.int .i64 u)) :
    Calls Try.prog 81 #[opV o, .pointer (some ⟨b, 0, none⟩)] w fun e w' => e = .returned (.bool (sameS t u o)) ∧ Below w.heap.size w w' := by
  obtain ⟨o1, o2, ⟨o3, o4, o5⟩, o6, o7⟩ := o
  have he := run_eql_stamp
  have hg := guard_stamp
  have hne : ¬ w.heap.size = b := by omega
  go_enter Try.func81, Try.ntmps81
  go_wp2
  go_ret
  exact ⟨rfl, Go.Joins.below_alloc1 w _⟩

set_option maxHeartbeats 1000000 in
theorem indexFuncOps_any (w : World) (a : Option Addr) (c : Nat) (l : List Mv) (g : Nat) (v : Value) (f : Mv → Bool) (hl : l.length ≤ maxLen) (h : SlE opC w a l)
    (eg : ∀ args w, (callFunc g args).run Try.prog w = .ok (.enter g args) w)
    (hg : ∀ W p, Below w.heap.size w W → Calls Try.prog g #[opV p, v] W fun e w' => e = .returned (.bool (f p)) ∧ Below W.heap.size W w') :
    Calls Try.prog 94 #[.slice a l.length c, .func (.func g) #[] #[v]] w
      fun e w' => (∃ i : Int, e = .returned (.int .i64 i) ∧ (l.any f = true → 0 ≤ i) ∧ (l.any f = false → i = -1)) ∧ Below w.heap.size w w' := by
  have hl' : l.length ≤ 9223372036854775807 := hl
  go_enter Try.func94, Try.ntmps94
  go_wp2
  go_loopw [8] (fun i W => ∃ k : Nat, k ≤ l.length ∧ i = .int .i64 k ∧ (∀ j, (hj : j < l.length) → j < k → f l[j] = false) ∧ Below w.heap.size w W) (fun i _ => l.length - (intOf i).toNat)
  case atStart => exact ⟨0, Nat.zero_le _, rfl, fun j _ hj => absurd hj (Nat.not_lt_zero _), Below.refl _ _⟩
  case round =>
    obtain ⟨k, hk, rfl, hno, hb⟩ := hrel
    have HNO : Hid (∀ j, (hj : j < l.length) → j < k → f l[j] = false) := hno
    clear hno
    by_cases hlt : k < l.length
    · obtain ⟨b, off, rfl, hbl, hr⟩ := h.at opC_len k hlt
      have hr1 : wr.rangeAt b (off + k * 7) (opC l[k]) := fun j v hv => by rw [hb.cell (by exact hbl)]; exact hr j v hv
      obtain ⟨g0, g1, g2, g3, g4, g5, g6⟩ := op_cells hr1
      have HQ : Hid (l.any f = true ↔ ∃ x ∈ l, f x = true) := List.any_eq_true
      have HM : Hid (l[k] ∈ l) := List.getElem_mem hlt
      clear hr hr1
      go_wp2_with fail
      refine (hg wr l[k] hb).mono ?_
      rintro e w1 ⟨rfl, hb1⟩
      have hb2 : Below w.heap.size w w1 := hb.trans (hb1.mono hb.size)
      cases hr : f l[k]
      · go_wp2
        go_roundw
        case rel =>
          refine ⟨k + 1, hlt, by go_num, fun j hj hjk => ?_, hb2⟩
          by_cases hjk' : j < k
          · exact HNO.out j hj hjk'
          · have : j = k := by omega
            subst this
            exact hr
        case measure => simp [intOf]; omega
      · go_wp2
        go_ret
        refine ⟨⟨k, rfl, fun _ => by omega, fun hn => ?_⟩, hb2⟩
        have := HQ.out.2 ⟨_, HM.out, hr⟩
        rw [hn] at this
        simp at this
    · go_wp2
      go_ret
      refine ⟨⟨-1, rfl, fun hm => ?_, fun _ => rfl⟩, hb⟩
      obtain ⟨x, hx, e⟩ := List.any_eq_true.1 hm
      obtain ⟨j, hj, rfl⟩ := List.getElem_of_mem hx
      rw [HNO.out j hj (by omega)] at e
      simp at e

set_option maxHeartbeats 1000000 in
theorem containsFuncOps_any (w : World) (a : Option Addr) (c : Nat) (l : List Mv) (g : Nat) (v : Value) (f : Mv → Bool) (hl : l.length ≤ maxLen) (h : SlE opC w a l)
    (eg : ∀ args w, (callFunc g args).run Try.prog w = .ok (.enter g args) w)
    (hg : ∀ W p, Below w.heap.size w W → Calls Try.prog g #[opV p, v] W fun e w' => e = .returned (.bool (f p)) ∧ Below W.heap.size W w') :
    Calls Try.prog 80 #[.slice a l.length c, .func (.func g) #[] #[v]] w
      fun e w' => e = .returned (.bool (l.any f)) ∧ Below w.heap.size w w' := by
  have hc := indexFuncOps_any w a c l g v f hl h eg hg
  clear hg eg h
  go_enter Try.func80, Try.ntmps80
  go_wp2_with fail
  refine hc.mono ?_
  rintro e w' ⟨⟨i, rfl, hi1, hi2⟩, hb⟩
  cases hm : l.any f
  · have h0 := hi2 hm
    subst h0
    clear hi1 hi2
    go_wp2
    go_ret
    exact ⟨ret_bool hm.symm, hb⟩
  · have h0 := hi1 hm
    clear hi1 hi2
    go_wp2
    go_ret
    exact ⟨ret_bool hm.symm, hb⟩

set_option maxHeartbeats 1000000 in
theorem has_any (w : World) (a : Option Addr) (c : Nat) (l : List Mv) (t u : Int) (hl : l.length ≤ maxLen) (h : SlE opC w a l) :
    Calls Try.prog 62 #[.slice a l.length c, .agg #[.int .i64 t, .int .i64 u]] w
      fun e w' => e = .returned (.bool (hasS l t u)) ∧ Below w.heap.size w w' := by
  go_enter Try.func62, Try.ntmps62
  go_wp2_with fail
  have hN := Blk.new w [Value.int IntKind.i64 t, Value.int IntKind.i64 u] 47
  have hB := Go.Joins.below_alloc1 w (Obj.cells #[Value.int IntKind.i64 t, Value.int IntKind.i64 u] 47)
  have hP := h.below hB
  clear h
  refine (containsFuncOps_any _ a c l 81 (.pointer (some ⟨w.heap.size, 0, none⟩)) (sameS t u) hl hP (Go.Proofs.enters_of Try.func81 (by kernel_rfl) rfl) ?_).mono ?_
  · intro W p hb
    have hN1 := hN.keep hb
    exact has1_any W p t u w.heap.size hN1.lt (hN1.at 0 rfl) (hN1.at 1 rfl)
  rintro e w1 ⟨rfl, hb⟩
  have hb2 : Below w.heap.size w w1 := hB.trans (hb.mono (by simp))
  clear hN hB hP hb
  go_wp2
  go_ret
  exact ⟨rfl, hb2⟩

def byS (o p : Mv) : Int := orI (cmpI o.1 p.1) (cmpI o.2.1 p.2.1)

set_option maxHeartbeats 1000000 in
theorem byStamp_any (w : World) (o p : Mv) :
    Calls Try.prog 65 #[opV o, opV p] w fun e w' => e = .returned (.int .i64 (byS o p)) ∧ ∃ n os, w' = Go.Sort.grow (w.drewN n) os := by
  obtain ⟨o1, o2, ⟨o3, o4, o5⟩, o6, o7⟩ := o
  obtain ⟨p1, p2, ⟨p3, p4, p5⟩, p6, p7⟩ := p
  have HE : Hid (byS (o1, o2, (o3, o4, o5), o6, o7) (p1, p2, (p3, p4, p5), p6, p7) = orI (cmpI o1 p1) (cmpI o2 p2)) := rfl
  go_enter Try.func65, Try.ntmps65
  go_wp2
  have hG : ∃ os, ((w.alloc (Obj.cells (opC (o1, o2, (o3, o4, o5), o6, o7)).toArray 49)).alloc (Obj.cells (opC (p1, p2, (p3, p4, p5), p6, p7)).toArray 49)) = Go.Sort.grow w os := ⟨_, by rw [Go.Sort.alloc_eq_grow, Go.Sort.alloc_eq_grow, Go.Sort.grow_grow]⟩
  obtain ⟨W2, hW, hO, hP, _, hS⟩ := laid2 w (opC (o1, o2, (o3, o4, o5), o6, o7)) 49 (opC (p1, p2, (p3, p4, p5), p6, p7)) 49
  rw [hW] at hG
  change ((w.alloc (Obj.cells #[Value.int IntKind.i64 o1, Value.int IntKind.i64 o2, Value.int IntKind.i64 o3, Value.int IntKind.i64 o4, Value.int IntKind.i64 o5, Value.int IntKind.i64 o6, Value.int IntKind.i64 o7] 49)).alloc (Obj.cells #[Value.int IntKind.i64 p1, Value.int IntKind.i64 p2, Value.int IntKind.i64 p3, Value.int IntKind.i64 p4, Value.int IntKind.i64 p5, Value.int IntKind.i64 p6, Value.int IntKind.i64 p7] 49)) = W2 at hW
  rw [hW]
  clear hW
  have y0 := hO.at 0 rfl
  have y1 := hO.at 1 rfl
  have y2 := hP.at 0 rfl
  have y3 := hP.at 1 rfl
  have HG : Hid (∃ os, W2 = Go.Sort.grow w os) := hG
  clear hG hO hP
  have n0 := World.new_ne W2 ⟨w.heap.size, 0, none⟩ y0
  have n1 := World.new_ne W2 ⟨w.heap.size, 1, none⟩ y1
  have n2 := World.new_ne W2 ⟨w.heap.size + 1, 0, none⟩ y2
  have n3 := World.new_ne W2 ⟨w.heap.size + 1, 1, none⟩ y3
  have F0 : Hid ((W2.alloc (Obj.cells #[Value.int IntKind.i64 (cmpI o1 p1), Value.int IntKind.i64 (cmpI o2 p2)] 3)).cell? ⟨w.heap.size + 2, 0, none⟩ = some (.int .i64 (cmpI o1 p1))) := by
    show World.cell? _ _ = _
    rw [← hS]; simp
  have F1 : Hid ((W2.alloc (Obj.cells #[Value.int IntKind.i64 (cmpI o1 p1), Value.int IntKind.i64 (cmpI o2 p2)] 3)).cell? ⟨w.heap.size + 2, 1, none⟩ = some (.int .i64 (cmpI o2 p2))) := by
    show World.cell? _ _ = _
    rw [← hS]; simp
  go_region_held3 (fun w' => w'.cell? ⟨w.heap.size, 0, none⟩ = some (.int .i64 o1) ∧ w'.cell? ⟨w.heap.size, 1, none⟩ = some (.int .i64 o2) ∧ w'.cell? ⟨w.heap.size + 1, 0, none⟩ = some (.int .i64 p1) ∧ w'.cell? ⟨w.heap.size + 1, 1, none⟩ = some (.int .i64 p2)) (go_keep)
    (first | (go_at_call 74; refine (compare_any _ _ _).mono ?_; rintro e w' ⟨rfl, rfl⟩) | (go_at_call 73; refine (or_any _ _ _ (cmpI o1 p1) (cmpI o2 p2) ?_ ?_).mono ?_; exact F0.out; exact F1.out; rintro e w' ⟨rfl, rfl⟩))
  go_wp2
  go_ret
  refine ⟨ret_int HE.out.symm, ?_⟩
  obtain ⟨os, hos⟩ := HG.out
  subst hos
  exact ⟨1, _, by rw [Go.Sort.alloc_eq_grow, Go.Sort.grow_grow]; rfl⟩

set_option maxHeartbeats 1000000 in
theorem cloneOps_any (w : World) (a : Option Addr) (c : Nat) (l : List Mv) (hl : l.length ≤ 1000) (h : SlE opC w a l) :
    Calls Try.prog 63 #[.slice a l.length c] w
      fun e w' => ∃ v, e = .returned v ∧ OwnE opC 7 49 w' w.heap.size v l ∧ Below w.heap.size w w' := by
  obtain ⟨i0, hi, hz0, hz1, hz2⟩ := info_parts infoOp
  have hq := fun (W : World) (a : Option Addr) (n c : Nat) => Lib.run_eql_slice_nil (P := Try.prog) W 59 49 a n c 0 0 Try.underlying59
  cases a with
  | none =>
    have hl0 : l = [] := by
      rcases h with h | ⟨b, off, h, _⟩
      · exact h
      · simp at h
    subst hl0
    go_enter Try.func63, Try.ntmps63
    go_wp2
    go_ret
    exact ⟨_, rfl, OwnE.nil _ _, Below.refl _ _⟩
  | some ad =>
    have hB := Go.Joins.below_alloc1 w (Obj.cells #[] 49)
    have hP := h.below hB
    have hown : (w.alloc (Obj.cells #[] 49)).ownsRow w.heap.size 49 7 (.slice (some ⟨w.heap.size, 0, none⟩) 0 0) 0 [] :=
      ⟨rfl, Or.inr ⟨w.heap.size, 0, #[], rfl, Nat.le_refl _, blk_new rfl, Nat.le_refl _, by unfold maxLen; omega, rfl, rfl⟩⟩
    have hnews : ∀ j u, (l.flatMap opC)[j]? = some u → (w.alloc (Obj.cells #[] 49)).cell? (ad.add j) = some u := by
      rcases hP with hP | ⟨b, off, ha, _, hp⟩
      · intro j u hj; subst hP; simp at hj
      · simp at ha
        subst ha
        intro j u hj
        rw [Addr.add_mid]
        exact hp j u hj
    have HN : Hid (∀ j u, (l.flatMap opC)[j]? = some u → (w.alloc (Obj.cells #[] 49)).cell? (ad.add j) = some u) := hnews
    clear hP h hnews
    go_enter Try.func63, Try.ntmps63
    go_wp2_with (at_builtin; refine wpList_append_own _ rfl _ _ 59 rfl w.heap.size 49 i0 _ 7 56 Try.underlying59 hi hz0 hz1 hz2 rfl (by decide) _ _ _ rfl hown ad l.length c (l.flatMap opC) rfl (flatE_len opC_len l) ?c1 ?c2 ?c3 ?c4 ?c5 ?_)
    case c1 => exact HN.out
    case c2 => exact flat_oneE opC_one l
    case c3 => unfold maxLen; omega
    case c4 => omega
    case c5 => exact hB.size
    · intro v' w1 hown' hgrow _
      have hb1 := hB.trans (below_grown hown hB.size hgrow)
      have hO : OwnE opC 7 49 w1 w.heap.size v' l := by simpa [OwnE] using hown'
      clear hgrow hown hown'
      go_wp2
      go_ret
      exact ⟨_, rfl, hO, hb1⟩
end Go.Proofs.Ytphameoibnimmaa
