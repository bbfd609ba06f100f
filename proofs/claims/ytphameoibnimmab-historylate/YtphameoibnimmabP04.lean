/- 8 texts of the proof: Plain facts on chapter 3: what Fold, Check and Insert answer, of operations and steps as lists. history's small functions: has, byStamp; slices.ContainsFunc, IndexFunc, Clone at operations; orangeryref.rank. slices.DeleteFunc at places, on a slice of the call's own. move.without, move.with$1. slices.SortFunc at places is the library's, by its own laws. slices.SortFunc by tree.byName, on a slice of -/
import Derived.Shelf.SlSortFuncK.RowK2
import Derived.Shelf.SlSortCmp.NoneTotal
import Derived.Shelf.SlGeneric
import Derived.Ground.SlsfProg
import Derived.Test.YtphameoibnimmabProg
import Derived.Shelf.SlSortCmp.WholeK
import Derived.Test.YtphameoibnimmabP03
import Derived.Test.YtphameoibnimmabP01
import Derived.Test.YtphameoibnimmabP02
/- Plain facts on chapter 3: what Fold, Check and Insert answer, of operations and steps as lists. -/
namespace Orangery

/-- the first error of operations -/
def firstE : List Mv → Int
  | [] => 0
  | o :: l => if checkOp o ≠ 0 then checkOp o else firstE l

theorem firstE_zero (l : List Mv) : firstE l = 0 ↔ ∀ o ∈ l, checkOp o = 0 := by
  induction l with
  | nil => simp [firstE]
  | cons o l ih =>
    unfold firstE
    by_cases h : checkOp o = 0
    · rw [if_neg (by simp [h]), ih]
      simp [h]
    · rw [if_pos h]
      constructor
      · intro h'; exact absurd h' h
      · intro h'; exact absurd (h' o (by simp)) h

/-- a look at operations one by one -/
theorem firstE_drop (l : List Mv) (k : Nat) (h : k < l.length) (hs : firstE (l.drop k) = firstE l) :
    (checkOp l[k] ≠ 0 → firstE l = checkOp l[k]) ∧ (checkOp l[k] = 0 → firstE (l.drop (k + 1)) = firstE l) := by
  rw [List.drop_eq_getElem_cons h] at hs
  have e : firstE (l[k] :: l.drop (k + 1)) = if checkOp l[k] ≠ 0 then checkOp l[k] else firstE (l.drop (k + 1)) := rfl
  rw [e] at hs
  constructor
  · intro h1; rw [if_pos h1] at hs; exact hs.symm
  · intro h1; rw [if_neg (by simp [h1])] at hs; exact hs

/-- history.Fold -/
def foldE (l : List Mv) : Int := if 30 < l.length then 2 else if firstE l ≠ 0 then firstE l else if (srt l).length < l.length then 6 else 0
def foldL (l : List Mv) : List Stp := if foldE l ≠ 0 then [] else runS [] (srt l)
def foldT (l : List Mv) : List Pl := if foldE l ≠ 0 then [] else runT [] (srt l)

theorem foldE_zero (l : List Mv) : foldE l = 0 ↔ l.length ≤ 30 ∧ (∀ o ∈ l, checkOp o = 0) ∧ noTwo l := by
  rw [← firstE_zero]
  unfold foldE
  have hs := srt_len l
  constructor
  · intro h
    split at h
    · omega
    · split at h
      · contradiction
      · split at h
        · omega
        · rename_i h1 h2 h3
          refine ⟨by omega, by simpa using h2, ?_⟩
          by_cases hn : noTwo l
          · exact hn
          · exact absurd (hs.2.2 hn) h3
  · rintro ⟨h1, h2, h3⟩
    rw [if_neg (by omega), if_neg (by simp [h2]), if_neg]
    have := (hs.2.1 h3).length_eq
    omega

theorem foldE_perm {l m : List Mv} (hp : l.Perm m) (h : foldE l = 0) : foldE m = 0 ∧ srt m = srt l := by
  obtain ⟨h1, h2, h3⟩ := (foldE_zero l).1 h
  exact ⟨(foldE_zero m).2 ⟨by rw [← hp.length_eq]; exact h1, fun o ho => h2 o (hp.mem_iff.2 ho), noTwo_perm hp h3⟩, (srt_perm l m h3 hp).symm⟩

theorem srt_ok {l : List Mv} (h : foldE l = 0) : foldE (srt l) = 0 ∧ (srt l).Perm l ∧ (srt l).length = l.length := by
  obtain ⟨h1, h2, h3⟩ := (foldE_zero l).1 h
  have hp := (srt_len l).2.1 h3
  exact ⟨(foldE_perm hp.symm h).1, hp, hp.length_eq⟩

theorem fold_ok {l : List Mv} (h : foldE l = 0) : foldL l = runS [] (srt l) ∧ foldT l = runT [] (srt l) ∧ (foldL l).map (·.1) = srt l ∧ (foldL l).length = l.length ∧ check (foldT l) = 0 := by
  obtain ⟨h1, h2, h3⟩ := (foldE_zero l).1 h
  have e1 : foldL l = runS [] (srt l) := by unfold foldL; rw [if_neg (by simp [h])]
  have e2 : foldT l = runT [] (srt l) := by unfold foldT; rw [if_neg (by simp [h])]
  refine ⟨e1, e2, by rw [e1, runS_ops], by rw [e1, runS_len]; exact (srt_ok h).2.2, ?_⟩
  rw [e2]
  exact runT_check _ _ check_empty (fun o ho => h2 o (srt_mem l o ho))

theorem fold_perm {l m : List Mv} (hp : l.Perm m) (h : foldE l = 0) : foldL m = foldL l ∧ foldT m = foldT l := by
  obtain ⟨h1, h2⟩ := foldE_perm hp h
  obtain ⟨a1, a2, _⟩ := fold_ok h
  obtain ⟨b1, b2, _⟩ := fold_ok h1
  rw [a1, a2, b1, b2, h2]
  exact ⟨rfl, rfl⟩

/-- a history: steps and a tree -/
def eqSts : List Stp → List Stp → Bool
  | [], [] => true
  | s :: l, t :: m => decide (s = t) && eqSts l m
  | _, _ => false
theorem eqSts_iff (l : List Stp) : ∀ m, eqSts l m = true ↔ l = m := by
  induction l with
  | nil => intro m; cases m <;> simp [eqSts]
  | cons s l ih =>
    intro m
    cases m with
    | nil => simp [eqSts]
    | cons t m =>
      show (decide (s = t) && eqSts l m) = true ↔ _
      rw [Bool.and_eq_true, ih, decide_eq_true_eq, List.cons.injEq]
def sameB (L M : List Stp) (T U : List Pl) : Bool := eqSts L M && decide (T = U)
theorem sameB_iff (L M : List Stp) (T U : List Pl) : sameB L M T U = true ↔ L = M ∧ T = U := by
  unfold sameB
  rw [Bool.and_eq_true, eqSts_iff, decide_eq_true_eq]
def histE (L : List Stp) (T : List Pl) : Int := if foldE (L.map (·.1)) ≠ 0 then foldE (L.map (·.1)) else if sameB (foldL (L.map (·.1))) L (foldT (L.map (·.1))) T = true then 0 else 4

/-- what Fold made is one -/
theorem hist_fold {l : List Mv} (h : foldE l = 0) : histE (foldL l) (foldT l) = 0 := by
  obtain ⟨_, _, h3, _, _⟩ := fold_ok h
  obtain ⟨h4, h5, _⟩ := srt_ok h
  obtain ⟨h6, h7⟩ := fold_perm h5 h4
  unfold histE
  rw [h3, if_neg (by simp [h4]), if_pos ((sameB_iff _ _ _ _).2 ⟨h6.symm, h7.symm⟩)]
theorem hist_empty : histE [] [] = 0 := by decide

/-- the stamp of an operation is there -/
def thereB (L : List Stp) (o : Mv) : Bool := L.any fun s => s.1.1 == o.1 && s.1.2.1 == o.2.1

/-- history.Insert -/
def insE (L : List Stp) (T : List Pl) (o : Mv) : Int :=
  if histE L T ≠ 0 then histE L T else if checkOp o ≠ 0 then checkOp o else if thereB L o = true then 6 else foldE (L.map (·.1) ++ [o])
def insL (L : List Stp) (T : List Pl) (o : Mv) : List Stp := if insE L T o ≠ 0 then [] else foldL (L.map (·.1) ++ [o])
def insT (L : List Stp) (T : List Pl) (o : Mv) : List Pl := if insE L T o ≠ 0 then [] else foldT (L.map (·.1) ++ [o])

theorem there_iff {l : List Mv} (L : List Stp) (hl : L.map (·.1) = l) (hok : ∀ x ∈ l, checkOp x = 0) (o : Mv) (ho : checkOp o = 0) : thereB L o = true ↔ ∃ x ∈ l, rk x = rk o := by
  unfold thereB
  rw [List.any_eq_true]
  subst hl
  constructor
  · rintro ⟨s, hs, he⟩
    have hm : s.1 ∈ L.map (·.1) := List.mem_map.2 ⟨s, hs, rfl⟩
    simp at he
    exact ⟨s.1, hm, (rk_eq (hok _ hm) ho).2 he⟩
  · rintro ⟨x, hx, he⟩
    obtain ⟨s, hs, rfl⟩ := List.mem_map.1 hx
    refine ⟨s, hs, ?_⟩
    have := (rk_eq (hok _ hx) ho).1 he
    simp [this]

/-- one more operation, put into what Fold made of the others -/
theorem ins_fold {l : List Mv} (h : foldE l = 0) (o : Mv) (h' : foldE (l ++ [o]) = 0) : insE (foldL l) (foldT l) o = 0 ∧ insL (foldL l) (foldT l) o = foldL (l ++ [o]) ∧ insT (foldL l) (foldT l) o = foldT (l ++ [o]) := by
  obtain ⟨_, _, h3, _, _⟩ := fold_ok h
  obtain ⟨_, hp, _⟩ := srt_ok h
  obtain ⟨g1, g2, g3⟩ := (foldE_zero _).1 h'
  obtain ⟨k1, k2, k3⟩ := (foldE_zero l).1 h
  have ho : checkOp o = 0 := g2 o (by simp)
  have hpo : (srt l ++ [o]).Perm (l ++ [o]) := hp.append_right [o]
  have hf := (foldE_perm hpo.symm h').1
  have hno : thereB (foldL l) o = false := by
    cases ht : thereB (foldL l) o
    · rfl
    · exfalso
      obtain ⟨x, hx, he⟩ := (there_iff (foldL l) h3 (fun x hx => k2 x (srt_mem l x hx)) o ho).1 ht
      have hxl := srt_mem l x hx
      unfold noTwo at g3
      rw [List.pairwise_append] at g3
      exact g3.2.2 x hxl o (by simp) he
  have e0 : insE (foldL l) (foldT l) o = 0 := by
    unfold insE
    rw [if_neg (by simp [hist_fold h]), if_neg (by simp [ho]), if_neg (by simp [hno]), h3]
    exact hf
  obtain ⟨e1, e2⟩ := fold_perm hpo.symm h'
  refine ⟨e0, ?_, ?_⟩
  · unfold insL; rw [if_neg (by simp [e0]), h3]; exact e1
  · unfold insT; rw [if_neg (by simp [e0]), h3]; exact e2

theorem fold_prefix {l m : List Mv} (h : foldE (l ++ m) = 0) : foldE l = 0 := by
  obtain ⟨h1, h2, h3⟩ := (foldE_zero _).1 h
  unfold noTwo at h3
  rw [List.pairwise_append] at h3
  exact (foldE_zero l).2 ⟨by rw [List.length_append] at h1; omega, fun o ho => h2 o (by simp [ho]), h3.1⟩

/-- an operation of a later stamp comes behind, and turns nothing -/
theorem ins_late {l : List Mv} (h : foldE l = 0) (o : Mv) (hl : ∀ x ∈ l, rk x < rk o) (h' : foldE (l ++ [o]) = 0) : ∃ s : Stp, s.1 = o ∧ foldL (l ++ [o]) = foldL l ++ [s] := by
  obtain ⟨e1, _, _⟩ := fold_ok h
  obtain ⟨e2, _, _⟩ := fold_ok h'
  obtain ⟨_, hp, _⟩ := srt_ok h
  have es : srt (l ++ [o]) = srt l ++ [o] := by
    have h1 := srt_late (srt l) o (srt_sorted l) (fun x hx => hl x (srt_mem l x hx))
    rw [← h1]
    exact ((foldE_perm (hp.symm.append_right [o]) h').2).symm
  refine ⟨dS (runT [] (srt l)) o, rfl, ?_⟩
  rw [e1, e2, es, runS_append]
  rfl
end Orangery

/- history's small functions: has, byStamp; slices.ContainsFunc, IndexFunc, Clone at operations; orangeryref.rank. -/
namespace Go.Proofs.Ytphameoibnimmab
open Go.ChangeShapes Go.WideShapes Go.ChangeAt Go.RowKit
open Orangery (Pl Mv Stp cmpI orI rk)

def sameS (t u : Int) (o : Mv) : Bool := decide (o.1 = t) && decide (o.2.1 = u)
def hasS (l : List Mv) (t u : Int) : Bool := l.any (sameS t u)

set_option maxHeartbeats 400000 in
theorem has1_any (w : World) (o : Mv) (t u : Int) (b : Nat) (hb : b < w.heap.size) (c0 : w.cell? ⟨b, 0, none⟩ = some (.int .i64 t)) (c1 : w.cell? ⟨b, 1, none⟩ = some (.int .i64 u)) :
    Calls Try.prog 35 #[opV o, .pointer (some ⟨b, 0, none⟩)] w fun e w' => e = .returned (.bool (sameS t u o)) ∧ Below w.heap.size w w' := by
  obtain ⟨o1, o2, ⟨o3, o4, o5⟩, o6, o7⟩ := o
  have he := run_eql_stamp
  have hg := guard_stamp
  have hne : ¬ w.heap.size = b := by omega
  go_enter Try.func35, Try.ntmps35
  go_wp2
  go_ret
  exact ⟨rfl, Go.Joins.below_alloc1 w _⟩

set_option maxHeartbeats 1000000 in
theorem indexFuncOps_any (w : World) (a : Option Addr) (c : Nat) (l : List Mv) (g : Nat) (v : Value) (f : Mv → Bool) (hl : l.length ≤ maxLen) (h : SlE opC w a l)
    (eg : ∀ args w, (callFunc g args).run Try.prog w = .ok (.enter g args) w)
    (hg : ∀ W p, Below w.heap.size w W → Calls Try.prog g #[opV p, v] W fun e w' => e = .returned (.bool (f p)) ∧ Below W.heap.size W w') :
    Calls Try.prog 42 #[.slice a l.length c, .func (.func g) #[] #[v]] w
      fun e w' => (∃ i : Int, e = .returned (.int .i64 i) ∧ (l.any f = true → 0 ≤ i) ∧ (l.any f = false → i = -1)) ∧ Below w.heap.size w w' := by
  have hl' : l.length ≤ 9223372036854775807 := hl
  go_enter Try.func42, Try.ntmps42
  go_wp2
  go_loopw [8] (fun i W => ∃ k : Nat, k ≤ l.length ∧ i = .int .i64 k ∧ (∀ j, (hj : j < l.length) → j < k → f l[j] = false) ∧ Below w.heap.size w W) (fun i _ => l.length - (intOf i).toNat)
  case atStart => exact ⟨0, Nat.zero_le _, rfl, fun j _ hj => absurd hj (Nat.not_lt_zero _), Below.refl _ _⟩
  case round =>
    obtain ⟨k, hk, rfl, hno, hb⟩ := hrel
    have HNO : Hid (∀ j, (hj : j < l.length) → j < k → f l[j] = false) := hno
    clear hno
    by_cases hlt : k < l.length
    · obtain ⟨b, off, rfl, hbl, hr⟩ := h.at opC_len k hlt
      have hr1 : wr.rangeAt b (off + k * 7) (opC l[k]) := fun j v hv => by rw [hb.cell (by exact hbl)]; exact hr j v hv
      obtain ⟨g0, g1, g2, g3, g4, g5, g6⟩ := op_cells hr1
      have HQ : Hid (l.any f = true ↔ ∃ x ∈ l, f x = true) := List.any_eq_true
      have HM : Hid (l[k] ∈ l) := List.getElem_mem hlt
      clear hr hr1
      go_wp2_with fail
      refine (hg wr l[k] hb).mono ?_
      rintro e w1 ⟨rfl, hb1⟩
      have hb2 : Below w.heap.size w w1 := hb.trans (hb1.mono hb.size)
      cases hr : f l[k]
      · go_wp2
        go_roundw
        case rel =>
          refine ⟨k + 1, hlt, by go_num, fun j hj hjk => ?_, hb2⟩
          by_cases hjk' : j < k
          · exact HNO.out j hj hjk'
          · have : j = k := by omega
            subst this
            exact hr
        case measure => simp [intOf]; omega
      · go_wp2
        go_ret
        refine ⟨⟨k, rfl, fun _ => by omega, fun hn => ?_⟩, hb2⟩
        have := HQ.out.2 ⟨_, HM.out, hr⟩
        rw [hn] at this
        simp at this
    · go_wp2
      go_ret
      refine ⟨⟨-1, rfl, fun hm => ?_, fun _ => rfl⟩, hb⟩
      obtain ⟨x, hx, e⟩ := List.any_eq_true.1 hm
      obtain ⟨j, hj, rfl⟩ := List.getElem_of_mem hx
      rw [HNO.out j hj (by omega)] at e
      simp at e

set_option maxHeartbeats 1000000 in
theorem containsFuncOps_any (w : World) (a : Option Addr) (c : Nat) (l : List Mv) (g : Nat) (v : Value) (f : Mv → Bool) (hl : l.length ≤ maxLen) (h : SlE opC w a l)
    (eg : ∀ args w, (callFunc g args).run Try.prog w = .ok (.enter g args) w)
    (hg : ∀ W p, Below w.heap.size w W → Calls Try.prog g #[opV p, v] W fun e w' => e = .returned (.bool (f p)) ∧ Below W.heap.size W w') :
    Calls Try.prog 34 #[.slice a l.length c, .func (.func g) #[] #[v]] w
      fun e w' => e = .returned (.bool (l.any f)) ∧ Below w.heap.size w w' := by
  have hc := indexFuncOps_any w a c l g v f hl h eg hg
  clear hg eg h
  go_enter Try.func34, Try.ntmps34
  go_wp2_with fail
  refine hc.mono ?_
  rintro e w' ⟨⟨i, rfl, hi1, hi2⟩, hb⟩
  cases hm : l.any f
  · have h0 := hi2 hm
    subst h0
    clear hi1 hi2
    go_wp2
    go_ret
    exact ⟨ret_bool hm.symm, hb⟩
  · have h0 := hi1 hm
    clear hi1 hi2
    go_wp2
    go_ret
    exact ⟨ret_bool hm.symm, hb⟩

set_option maxHeartbeats 1000000 in
theorem has_any (w : World) (a : Option Addr) (c : Nat) (l : List Mv) (t u : Int) (hl : l.length ≤ maxLen) (h : SlE opC w a l) :
    Calls Try.prog 18 #[.slice a l.length c, .agg #[.int .i64 t, .int .i64 u]] w
      fun e w' => e = .returned (.bool (hasS l t u)) ∧ Below w.heap.size w w' := by
  go_enter Try.func18, Try.ntmps18
  go_wp2_with fail
  have hN := Blk.new w [Value.int IntKind.i64 t, Value.int IntKind.i64 u] 36
  have hB := Go.Joins.below_alloc1 w (Obj.cells #[Value.int IntKind.i64 t, Value.int IntKind.i64 u] 36)
  have hP := h.below hB
  clear h
  refine (containsFuncOps_any _ a c l 35 (.pointer (some ⟨w.heap.size, 0, none⟩)) (sameS t u) hl hP (Go.Proofs.enters_of Try.func35 (by kernel_rfl) rfl) ?_).mono ?_
  · intro W p hb
    have hN1 := hN.keep hb
    exact has1_any W p t u w.heap.size hN1.lt (hN1.at 0 rfl) (hN1.at 1 rfl)
  rintro e w1 ⟨rfl, hb⟩
  have hb2 : Below w.heap.size w w1 := hB.trans (hb.mono (by simp))
  clear hN hB hP hb
  go_wp2
  go_ret
  exact ⟨rfl, hb2⟩

def byS (o p : Mv) : Int := orI (cmpI o.1 p.1) (cmpI o.2.1 p.2.1)

set_option maxHeartbeats 1000000 in
theorem byStamp_any (w : World) (o p : Mv) :
    Calls Try.prog 21 #[opV o, opV p] w fun e w' => e = .returned (.int .i64 (byS o p)) ∧ ∃ n os, w' = Go.Sort.grow (w.drewN n) os := by
  obtain ⟨o1, o2, ⟨o3, o4, o5⟩, o6, o7⟩ := o
  obtain ⟨p1, p2, ⟨p3, p4, p5⟩, p6, p7⟩ := p
  have HE : Hid (byS (o1, o2, (o3, o4, o5), o6, o7) (p1, p2, (p3, p4, p5), p6, p7) = orI (cmpI o1 p1) (cmpI o2 p2)) := rfl
  go_enter Try.func21, Try.ntmps21
  go_wp2
  have hG : ∃ os, ((w.alloc (Obj.cells (opC (o1, o2, (o3, o4, o5), o6, o7)).toArray 38)).alloc (Obj.cells (opC (p1, p2, (p3, p4, p5), p6, p7)).toArray 38)) = Go.Sort.grow w os := ⟨_, by rw [Go.Sort.alloc_eq_grow, Go.Sort.alloc_eq_grow, Go.Sort.grow_grow]⟩
  obtain ⟨W2, hW, hO, hP, _, hS⟩ := laid2 w (opC (o1, o2, (o3, o4, o5), o6, o7)) 38 (opC (p1, p2, (p3, p4, p5), p6, p7)) 38
  rw [hW] at hG
  change ((w.alloc (Obj.cells #[Value.int IntKind.i64 o1, Value.int IntKind.i64 o2, Value.int IntKind.i64 o3, Value.int IntKind.i64 o4, Value.int IntKind.i64 o5, Value.int IntKind.i64 o6, Value.int IntKind.i64 o7] 38)).alloc (Obj.cells #[Value.int IntKind.i64 p1, Value.int IntKind.i64 p2, Value.int IntKind.i64 p3, Value.int IntKind.i64 p4, Value.int IntKind.i64 p5, Value.int IntKind.i64 p6, Value.int IntKind.i64 p7] 38)) = W2 at hW
  rw [hW]
  clear hW
  have y0 := hO.at 0 rfl
  have y1 := hO.at 1 rfl
  have y2 := hP.at 0 rfl
  have y3 := hP.at 1 rfl
  have HG : Hid (∃ os, W2 = Go.Sort.grow w os) := hG
  clear hG hO hP
  have n0 := World.new_ne W2 ⟨w.heap.size, 0, none⟩ y0
  have n1 := World.new_ne W2 ⟨w.heap.size, 1, none⟩ y1
  have n2 := World.new_ne W2 ⟨w.heap.size + 1, 0, none⟩ y2
  have n3 := World.new_ne W2 ⟨w.heap.size + 1, 1, none⟩ y3
  have F0 : Hid ((W2.alloc (Obj.cells #[Value.int IntKind.i64 (cmpI o1 p1), Value.int IntKind.i64 (cmpI o2 p2)] 3)).cell? ⟨w.heap.size + 2, 0, none⟩ = some (.int .i64 (cmpI o1 p1))) := by
    show World.cell? _ _ = _
    rw [← hS]; simp
  have F1 : Hid ((W2.alloc (Obj.cells #[Value.int IntKind.i64 (cmpI o1 p1), Value.int IntKind.i64 (cmpI o2 p2)] 3)).cell? ⟨w.heap.size + 2, 1, none⟩ = some (.int .i64 (cmpI o2 p2))) := by
    show World.cell? _ _ = _
    rw [← hS]; simp
  go_region_held3 (fun w' => w'.cell? ⟨w.heap.size, 0, none⟩ = some (.int .i64 o1) ∧ w'.cell? ⟨w.heap.size, 1, none⟩ = some (.int .i64 o2) ∧ w'.cell? ⟨w.heap.size + 1, 0, none⟩ = some (.int .i64 p1) ∧ w'.cell? ⟨w.heap.size + 1, 1, none⟩ = some (.int .i64 p2)) (go_keep)
    (first | (go_at_call 39; refine (compare_any _ _ _).mono ?_; rintro e w' ⟨rfl, rfl⟩) | (go_at_call 38; refine (or_any _ _ _ (cmpI o1 p1) (cmpI o2 p2) ?_ ?_).mono ?_; exact F0.out; exact F1.out; rintro e w' ⟨rfl, rfl⟩))
  go_wp2
  go_ret
  refine ⟨ret_int HE.out.symm, ?_⟩
  obtain ⟨os, hos⟩ := HG.out
  subst hos
  exact ⟨1, _, by rw [Go.Sort.alloc_eq_grow, Go.Sort.grow_grow]; rfl⟩

set_option maxHeartbeats 1000000 in
theorem cloneOps_any (w : World) (a : Option Addr) (c : Nat) (l : List Mv) (hl : l.length ≤ 1000) (h : SlE opC w a l) :
    Calls Try.prog 19 #[.slice a l.length c] w
      fun e w' => ∃ v, e = .returned v ∧ OwnE opC 7 38 w' w.heap.size v l ∧ Below w.heap.size w w' := by
  obtain ⟨i0, hi, hz0, hz1, hz2⟩ := info_parts infoOp
  have hq := fun (W : World) (a : Option Addr) (n c : Nat) => Lib.run_eql_slice_nil (P := Try.prog) W 22 38 a n c 0 0 Try.underlying22
  cases a with
  | none =>
    have hl0 : l = [] := by
      rcases h with h | ⟨b, off, h, _⟩
      · exact h
      · simp at h
    subst hl0
    go_enter Try.func19, Try.ntmps19
    go_wp2
    go_ret
    exact ⟨_, rfl, OwnE.nil _ _, Below.refl _ _⟩
  | some ad =>
    have hB := Go.Joins.below_alloc1 w (Obj.cells #[] 38)
    have hP := h.below hB
    have hown : (w.alloc (Obj.cells #[] 38)).ownsRow w.heap.size 38 7 (.slice (some ⟨w.heap.size, 0, none⟩) 0 0) 0 [] :=
      ⟨rfl, Or.inr ⟨w.heap.size, 0, #[], rfl, Nat.le_refl _, blk_new rfl, Nat.le_refl _, by unfold maxLen; omega, rfl, rfl⟩⟩
    have hnews : ∀ j u, (l.flatMap opC)[j]? = some u → (w.alloc (Obj.cells #[] 38)).cell? (ad.add j) = some u := by
      rcases hP with hP | ⟨b, off, ha, _, hp⟩
      · intro j u hj; subst hP; simp at hj
      · simp at ha
        subst ha
        intro j u hj
        rw [Addr.add_mid]
        exact hp j u hj
    have HN : Hid (∀ j u, (l.flatMap opC)[j]? = some u → (w.alloc (Obj.cells #[] 38)).cell? (ad.add j) = some u) := hnews
    clear hP h hnews
    go_enter Try.func19, Try.ntmps19
    go_wp2_with (at_builtin; refine wpList_append_own _ rfl _ _ 22 rfl w.heap.size 38 i0 _ 7 56 Try.underlying22 hi hz0 hz1 hz2 rfl (by decide) _ _ _ rfl hown ad l.length c (l.flatMap opC) rfl (flatE_len opC_len l) ?c1 ?c2 ?c3 ?c4 ?c5 ?_)
    case c1 => exact HN.out
    case c2 => exact flat_oneE opC_one l
    case c3 => unfold maxLen; omega
    case c4 => omega
    case c5 => exact hB.size
    · intro v' w1 hown' hgrow _
      have hb1 := hB.trans (below_grown hown hB.size hgrow)
      have hO : OwnE opC 7 38 w1 w.heap.size v' l := by simpa [OwnE] using hown'
      clear hgrow hown hown'
      go_wp2
      go_ret
      exact ⟨_, rfl, hO, hb1⟩
end Go.Proofs.Ytphameoibnimmab

/- slices.DeleteFunc at places, on a slice of the call's own. -/
namespace Go.Proofs.Ytphameoibnimmab
open Go.ChangeShapes Go.WideShapes Go.ChangeAt Go.RowKit
open Orangery (Pl idxF Kept)

theorem HoldsP.set {w : World} {g : Nat} {m : List Pl} (h : HoldsP w g m) (i : Nat) (hi : i < m.length) (x : Pl) :
    HoldsP (((w.setCell ⟨g, i * 3, none⟩ (.int .i64 x.1)).setCell ⟨g, i * 3 + 1, none⟩ (.int .i64 x.2.1)).setCell ⟨g, i * 3 + 2, none⟩ (.int .i64 x.2.2)) g (m.set i x) := by
  obtain ⟨hp, hf⟩ := h
  refine ⟨?_, ?_⟩
  · intro k hk
    have hk' : k < m.length := by simpa using hk
    have h0 := hp i hi
    have h1 := hp k hk'
    simp only [Nat.zero_add] at h0 h1 ⊢
    by_cases hik : i = k
    · subst hik
      simp only [List.getElem_set_self]
      refine ⟨?_, ?_, ?_⟩
      · rw [World.cell?_setCell_other _ _ _ _ (by simp), World.cell?_setCell_other _ _ _ _ (by simp), World.cell?_setCell_same _ _ _ h0.1]
      · rw [World.cell?_setCell_other _ _ _ _ (by simp), World.cell?_setCell_same _ _ _ (u := .int .i64 m[i].2.1)]
        rw [World.cell?_setCell_other _ _ _ _ (by simp), h0.2.1]
      · rw [World.cell?_setCell_same _ _ _ (u := .int .i64 m[i].2.2)]
        rw [World.cell?_setCell_other _ _ _ _ (by simp), World.cell?_setCell_other _ _ _ _ (by simp), h0.2.2]
    · rw [List.getElem_set_ne hik]
      refine ⟨?_, ?_, ?_⟩
      all_goals
        rw [World.cell?_setCell_other _ _ _ _ (by simp <;> omega), World.cell?_setCell_other _ _ _ _ (by simp <;> omega), World.cell?_setCell_other _ _ _ _ (by simp <;> omega)]
      · exact h1.1
      · exact h1.2.1
      · exact h1.2.2
  · intro k hk
    simp only [World.frozen?_setCell]
    exact hf k (by simpa using hk)

theorem HoldsP.below {w w' : World} {g : Nat} {m : List Pl} (h : HoldsP w g m) (hg : g < w.heap.size) (hb : Below w.heap.size w w') : HoldsP w' g m :=
  ⟨fun i hi => by rw [hb.cell hg, hb.cell hg, hb.cell hg]; exact h.1 i hi, fun i hi => by rw [hb.frozen hg]; exact h.2 i hi⟩

theorem zeroPlaces (n : Nat) : ∀ v ∈ (Builtin.zeroCells #[Value.int IntKind.i64 0, Value.int IntKind.i64 0, Value.int IntKind.i64 0] n).toList, v.oneCell' = true := by
  intro v hv
  simp [Builtin.zeroCells] at hv
  obtain ⟨a, _, rfl⟩ := hv
  have : a % 3 = 0 ∨ a % 3 = 1 ∨ a % 3 = 2 := by omega
  rcases this with h | h | h <;> rw [h] <;> rfl

/-- 'clear' of the end of a row -/
theorem run_clear_places (w : World) (ty : TypeId) (g i n c : Nat) (m : List Pl) (h : HoldsP w g m) (hn : i + n = m.length) (hp : 0 < n) :
    ∃ vs, vs.length = n * 3 ∧ (Builtin.clear_ #[24] ty #[.slice (some ⟨g, i * 3, none⟩) n c]).run Try.prog w = .ok (.tuple #[]) (w.setCells g (i * 3) vs) := by
  refine ⟨(Builtin.zeroCells #[Value.int IntKind.i64 0, Value.int IntKind.i64 0, Value.int IntKind.i64 0] n).toList, by simp [size_zeroCells], ?_⟩
  have hst := run_storeCells_cells (P := Try.prog) g (i * 3) (Builtin.zeroCells #[Value.int IntKind.i64 0, Value.int IntKind.i64 0, Value.int IntKind.i64 0] n).toList 0 w
    (by
      intro j hj
      have hj' : j < n * 3 := by simpa [size_zeroCells] using hj
      have hc := h.1 ((i * 3 + j) / 3) (by omega)
      have hm : (i * 3 + j) % 3 = 0 ∨ (i * 3 + j) % 3 = 1 ∨ (i * 3 + j) % 3 = 2 := by omega
      rcases hm with hm | hm | hm
      · rw [show i * 3 + 0 + j = 0 + (i * 3 + j) / 3 * 3 by omega, hc.1]; rfl
      · rw [show i * 3 + 0 + j = 0 + (i * 3 + j) / 3 * 3 + 1 by omega, hc.2.1]; rfl
      · rw [show i * 3 + 0 + j = 0 + (i * 3 + j) / 3 * 3 + 2 by omega, hc.2.2]; rfl)
    (by
      intro j hj
      have hj' : j < n * 3 := by simpa [size_zeroCells] using hj
      exact h.2 _ (by omega))
    (zeroPlaces n)
  simp only [Nat.add_zero] at hst
  obtain ⟨k, rfl⟩ : ∃ k, n = k + 1 := ⟨n - 1, by omega⟩
  have hz := Try.zeroValue45
  simp [Builtin.clear_, run_underlying Try.underlying24, hz, Value.cells, hst]

theorem HoldsP.cleared {w : World} {g i : Nat} {m : List Pl} (h : HoldsP w g m) (vs : List Value) (hi : i ≤ m.length) : HoldsP (w.setCells g (i * 3) vs) g (m.take i) := by
  refine ⟨fun k hk => ?_, fun k hk => ?_⟩
  · have hk' : k < i := by simp at hk; omega
    have := h.1 k (by omega)
    rw [List.getElem_take]
    rw [World.cell?_setCells_out _ _ _ _ _ (by simp; omega), World.cell?_setCells_out _ _ _ _ _ (by simp; omega), World.cell?_setCells_out _ _ _ _ _ (by simp; omega)]
    exact this
  · rw [World.frozen?_setCells]
    exact h.2 k (by simp at hk; omega)

theorem below_setCells {B : Nat} {w : World} (g : Nat) (hg : B ≤ g) : ∀ (vs : List Value) (o : Nat) (W : World), Below B w W → Below B w (W.setCells g o vs)
  | [], _, _, h => h
  | v :: r, o, W, h => below_setCells g hg r (o + 1) _ (h.setCell (by exact hg) v)

set_option maxHeartbeats 2000000 in
theorem delete_any (w : World) (base : Nat) (sv : Value) (l : List Pl) (k : Nat) (v : Value) (f : Pl → Bool) (hl : l.length ≤ 1000) (h : OwnS w base sv l)
    (hbase : base ≤ w.heap.size)
    (eg : ∀ args w, (callFunc k args).run Try.prog w = .ok (.enter k args) w)
    (hg : ∀ W p, Below base w W → Calls Try.prog k #[plV p, v] W fun e w' => e = .returned (.bool (f p)) ∧ Below W.heap.size W w') :
    Calls Try.prog 68 #[sv, .func (.func k) #[] #[v]] w
      fun e w' => ∃ rv, e = .returned rv ∧ OwnS w' base rv (l.filter fun p => !f p) ∧ Below base w w' := by
  obtain ⟨a, c, rfl, hP⟩ := h.slp
  go_enter Try.func68, Try.ntmps68
  go_wp2_with fail
  refine (indexFunc_any w a c l k v f (by unfold maxLen; omega) hP eg (fun W p hb => hg W p (hb.mono hbase))).mono ?_
  rintro e w1 ⟨rfl, hb1⟩
  have hO1 := h.below hb1
  have hB1 : Below base w w1 := hb1.mono hbase
  have hS1 : base ≤ w1.heap.size := Nat.le_trans hbase hb1.size
  clear hP h
  rcases Orangery.idxF_first f l 0 with ⟨h1, h2⟩ | ⟨i, hi, h1, h2⟩
  · rw [h1]
    have HE : Hid (l.filter (fun p => !f p) = l) := h2
    clear h1 h2
    go_wp2
    go_ret
    exact ⟨_, rfl, by rw [HE.out]; exact hO1, hB1⟩
  · rw [h1, Nat.zero_add]
    have hK := Kept.start f l i hi h2
    clear h1 h2
    rcases hO1 with ⟨_, hO1⟩ | ⟨g, cap, hv, hgb, hgl, hcap, hcm, hH, hrow⟩
    · exact absurd hi (by simp [hO1])
    have hv' : a = some ⟨g, 0, none⟩ ∧ c = cap := by simpa using hv
    obtain ⟨rfl, rfl⟩ := hv'
    clear hv
    have HH : Hid (HoldsP w1 g l) := hH
    have HROW : Hid (RowAt w1 g c) := hrow
    clear hrow
    have HK : Hid (Kept f l l i (i + 1)) := hK
    clear hH hK
    have hi' : ((i : Int) == -1) = false := by simp <;> omega
    go_wp2
    go_loopw [5, 6] (fun x y W => ∃ (i j : Nat) (m : List Pl), x = .int .i64 i ∧ y = .int .i64 j ∧ Kept f l m i j ∧ HoldsP W g m ∧ (g < W.heap.size ∧ RowAt W g c) ∧ Below base w W) (fun _ y _ => l.length - (intOf y).toNat)
    case atStart => exact ⟨i, i + 1, l, rfl, by go_num, HK.out, HH.out, ⟨hgl, HROW.out⟩, hB1⟩
    case round =>
      clear hgl HH HK hi' HROW
      obtain ⟨i, j, m, rfl, rfl, hK, hH, ⟨hgl, hrow⟩, hb⟩ := hrel
      have HROW : Hid (RowAt wr g c) := hrow
      clear hrow
      have HH : Hid (HoldsP wr g m) := hH
      have HK : Hid (Kept f l m i j) := hK
      have hml : m.length = l.length := hK.1
      have hij : i < j := hK.2.1
      have hjl : j ≤ l.length := hK.2.2.1
      by_cases hlt : j < l.length
      · obtain ⟨hjm, hmj⟩ := hK.get hlt
        have gg := hH.1 j hjm
        rw [hmj] at gg
        simp only [Nat.zero_add] at gg
        obtain ⟨g0, g1, g2⟩ := gg
        have hx := hH.1 i (by omega)
        simp only [Nat.zero_add] at hx
        obtain ⟨x0, x1, x2⟩ := hx
        have hfr : ∀ t, t < m.length * 3 → wr.frozen? ⟨g, t, none⟩ = false := hH.2
        have K1 := hK.skip hlt
        have K2 := hK.keep hlt
        have HK1 : Hid (f l[j] = true → Kept f l m i (j + 1)) := K1
        have HK2 : Hid (f l[j] = false → Kept f l (m.set i l[j]) (i + 1) (j + 1)) := K2
        have HQ0 : Hid (m[j] = l[j]) := hmj
        clear hH hK K1 K2 hmj
        generalize hq : l[j] = q at *
        obtain ⟨q0, q1, q2⟩ := q
        have HQ : Hid (l[j] = (q0, q1, q2)) := hq
        clear hq
        simp only at g0 g1 g2
        go_wp2_with fail
        refine (hg _ (q0, q1, q2) (hb.alloc (Nat.le_trans hbase hb.size) _)).mono ?_
        rintro e w2 ⟨rfl, hb2⟩
        have hb3 : Below base w w2 := (hb.alloc (Nat.le_trans hbase hb.size) _).trans (hb2.mono (by simp; exact Nat.le_succ_of_le (Nat.le_trans hbase hb.size)))
        have hB2 : Below wr.heap.size wr w2 := (Go.Joins.below_alloc1 wr _).trans (hb2.mono (by simp))
        have z0 : w2.cell? ⟨wr.heap.size, 0, none⟩ = some (.int .i64 q0) := by rw [hb2.cell (by simp)]; simp
        have z1 : w2.cell? ⟨wr.heap.size, 1, none⟩ = some (.int .i64 q1) := by rw [hb2.cell (by simp)]; simp
        have z2 : w2.cell? ⟨wr.heap.size, 2, none⟩ = some (.int .i64 q2) := by rw [hb2.cell (by simp)]; simp
        have H2 : HoldsP w2 g m := HH.out.below hgl hB2
        have hgl2 : g < w2.heap.size := Nat.lt_of_lt_of_le hgl hB2.size
        have HROW2 : Hid (RowAt w2 g c) := HROW.out.below hB2 hgl
        have hne : ¬ wr.heap.size = g := by omega
        clear hb2 hB2 g0 g1 g2 x0 x1 x2 hfr hb HH
        cases hr : f (q0, q1, q2)
        · have HH2 : Hid (HoldsP w2 g m) := H2
          have hx := H2.1 i (by omega)
          simp only [Nat.zero_add] at hx
          obtain ⟨x0, x1, x2⟩ := hx
          have f0 := H2.2 (i * 3) (by omega)
          have f1 := H2.2 (i * 3 + 1) (by omega)
          have f2 := H2.2 (i * 3 + 2) (by omega)
          clear H2
          go_wp2
          go_roundw
          case rel =>
            refine ⟨i + 1, j + 1, m.set i (q0, q1, q2), by go_num, by go_num, HK2.out hr, HH2.out.set i (by omega) (q0, q1, q2), ⟨by simpa using hgl2, ((HROW2.out.set _ _ _).set _ _ _).set _ _ _⟩, ((hb3.setCell hgb _).setCell hgb _).setCell hgb _⟩
          case measure => simp [intOf]; omega
        · go_wp2
          go_roundw
          case rel => exact ⟨i, j + 1, m, rfl, by go_num, HK1.out hr, H2, ⟨hgl2, HROW2.out⟩, hb3⟩
          case measure => simp [intOf]; omega
      · have e := hK.done hlt
        have HE : Hid (m.take i = l.filter fun p => !f p) := e
        obtain ⟨vs, hvs, hrun⟩ := run_clear_places wr 0 g i (l.length - i) (c - i) m hH (by omega) (by omega)
        have HH2 : Hid (HoldsP (wr.setCells g (i * 3) vs) g (m.take i)) := hH.cleared vs (by omega)
        have hb2 := below_setCells g hgb vs (i * 3) wr hb
        have hlen : (m.take i).length = i := by simp; omega
        have hsz : (wr.setCells g (i * 3) vs).heap.size = wr.heap.size := by simp [Go.Sort.size_setCells]
        clear e hH hK
        go_wp2
        go_ret
        refine ⟨_, rfl, ?_, hb2⟩
        rw [← HE.out]
        refine Or.inr ⟨g, c, by rw [hlen]; rfl, hgb, by rw [hsz]; exact hgl, by omega, hcm, HH2.out, RowAt.sets g _ _ _ HROW.out⟩
end Go.Proofs.Ytphameoibnimmab

/- move.without, move.with$1. -/
namespace Go.Proofs.Ytphameoibnimmab
open Go.ChangeShapes Go.WideShapes Go.ChangeAt Go.RowKit
open Orangery (Pl Mv Stp outL inL cmpI)

theorem OwnS.mono {w : World} {base base' : Nat} {v : Value} {l : List Pl} (h : OwnS w base v l) (hb : base' ≤ base) : OwnS w base' v l := by
  rcases h with h | ⟨g, cap, rfl, h1, h2⟩
  · exact Or.inl h
  · exact Or.inr ⟨g, cap, rfl, Nat.le_trans hb h1, h2⟩

theorem OwnS.val {w : World} {base : Nat} {v : Value} {l : List Pl} (h : OwnS w base v l) : ∃ a cap, v = .slice a l.length cap := by
  obtain ⟨a, cap, e, _⟩ := h.slp
  exact ⟨a, cap, e⟩

/-- an own slice, behind the writing of an elder block -/
theorem OwnS.other {w : World} {base : Nat} {v : Value} {l : List Pl} (h : OwnS w base v l) (g : Nat) (hg : g < base) (j : Nat) (u : Value) : OwnS (w.setCell ⟨g, j, none⟩ u) base v l := by
  rcases h with h | ⟨b, cap, rfl, h1, hl, h2, h3, ⟨hp, hf⟩, hr⟩
  · exact Or.inl h
  · refine Or.inr ⟨b, cap, rfl, h1, by simpa using hl, h2, h3, ⟨fun i hi => ?_, fun i hi => ?_⟩, hr.set _ _ _⟩
    · rw [World.cell?_setCell_other _ _ _ _ (by simp <;> omega), World.cell?_setCell_other _ _ _ _ (by simp <;> omega), World.cell?_setCell_other _ _ _ _ (by simp <;> omega)]
      exact hp i hi
    · simp only [World.frozen?_setCell]
      exact hf i hi

theorem OwnS.others {base : Nat} {v : Value} {l : List Pl} (g : Nat) (hg : g < base) : ∀ (us : List Value) (o : Nat) (w : World), OwnS w base v l → OwnS (w.setCells g o us) base v l
  | [], _, _, h => h
  | u :: r, o, _, h => OwnS.others g hg r (o + 1) _ (h.other g hg o u)

set_option maxHeartbeats 1000000 in
theorem without_any (w : World) (a : Option Addr) (c : Nat) (l : List Pl) (n : Int) (hl : l.length ≤ 1000) (h : SlP w a l) :
    Calls Try.prog 64 #[.agg #[.slice a l.length c], .int .i64 n] w
      fun e w' => ∃ v, e = .returned (.agg #[v]) ∧ OwnS w' w.heap.size v (outL l n) ∧ Below w.heap.size w w' := by
  go_enter Try.func64, Try.ntmps64
  go_wp2_with fail
  obtain ⟨W0, hW, _, hN, hR, hB, hS⟩ := laid3 w [Value.slice a l.length c] 26 [Value.int IntKind.i64 n] 3 [Value.slice none 0 0] 26
  rw [hW]
  clear hW
  have hP := h.below hB
  clear h
  refine (clone_any W0 a c l hl hP).mono ?_
  rintro e w1 ⟨v1, rfl, hO1, hb1⟩
  have hN1 := hN.keep hb1
  have hR1 := hR.keep hb1
  have HB1 : Hid (Below w.heap.size w w1) := hB.trans (hb1.mono hB.size)
  clear hN hR hB hP
  go_wp2_with fail
  refine (delete_any w1 W0.heap.size v1 l 69 (.pointer (some ⟨w.heap.size + 1, 0, none⟩)) (fun p => p.1 == n) hl hO1 hb1.size (Go.Proofs.enters_of Try.func69 (by kernel_rfl) rfl) ?_).mono ?_
  · intro W p hW
    have := hN1.below hW (by omega)
    exact without1_any W p n _ this.lt (this.at 0 rfl)
  rintro e w2 ⟨v2, rfl, hO2, hb2⟩
  have hR2 := hR1.below hb2 (by omega)
  have HB2 : Hid (Below w.heap.size w w2) := HB1.out.trans (hb2.mono (by omega))
  have z0 := hR2.at 0 rfl
  have f0 := hR2.frz
  have hO3 := hO2.mono (base' := w.heap.size + 1 + 1 + 1) (by omega)
  obtain ⟨a2, c2, rfl⟩ := hO3.val
  have HO : Hid (OwnS w2 (w.heap.size + 1 + 1 + 1) (.slice a2 (l.filter fun p => !(p.1 == n)).length c2) (outL l n)) := hO3
  clear hO1 hb1 hN1 hR1 hb2 hO2 HB1 hO3
  go_wp2
  have z1 : (w2.setCell ⟨w.heap.size + 1 + 1, 0, none⟩ (.slice a2 (l.filter fun p => !(p.1 == n)).length c2)).cell? ⟨w.heap.size + 1 + 1, 0, none⟩ = some (.slice a2 (l.filter fun p => !(p.1 == n)).length c2) := World.cell?_setCell_same _ _ _ z0
  refine bodyPost_ret (v := .agg #[.slice a2 (l.filter fun p => !(p.1 == n)).length c2]) (by simp [results, Try.results64, go_sem, z1]) rfl ⟨_, rfl, ?_, ?_⟩
  · exact (HO.out.other _ (by omega) _ _).mono (by omega)
  · exact HB2.out.setCell (by show _ ≤ w.heap.size + 1 + 1; omega) _

theorem with1_any (w : World) (p q : Pl) :
    Calls Try.prog 66 #[plV p, plV q] w fun e w' => e = .returned (.int .i64 (cmpI p.1 q.1)) ∧ ∃ n os, w' = Go.Sort.grow (w.drewN n) os := by
  obtain ⟨a0, a1, a2⟩ := p
  obtain ⟨b0, b1, b2⟩ := q
  go_enter Try.func66, Try.ntmps66
  go_wp2_with fail
  refine (compare_any _ a0 b0).mono ?_
  rintro e w1 ⟨rfl, rfl⟩
  go_wp2
  go_ret
  exact ⟨rfl, 0, _, by rw [Go.Sort.alloc_eq_grow, Go.Sort.alloc_eq_grow, Go.Sort.grow_grow]; rfl⟩
end Go.Proofs.Ytphameoibnimmab

/- slices.SortFunc at places is the library's, by its own laws. -/
namespace Go.Proofs
open Go.Shelf
def Try.sortPl_ren : Go.Shelf.Ren := ⟨fun | 6 => 65 | 15 => 37 | 14 => 70 | 28 => 51 | 29 => 52 | 20 => 72 | 21 => 73 | 22 => 74 | 23 => 75 | 24 => 76 | 25 => 77 | 26 => 78 | 27 => 79 | 46 => 80 | 47 => 59 | 48 => 60 | 49 => 81 | 50 => 82 | 57 => 83 | n => n, fun | 22 => 24 | 24 => 45 | 25 => 106 | 3 => 3 | 39 => 74 | 0 => 0 | 53 => 89 | 55 => 91 | 4 => 4 | 46 => 82 | 45 => 81 | 50 => 86 | 5 => 5 | 9 => 9 | 66 => 98 | 70 => 102 | 76 => 107 | 77 => 108 | n => n, fun | n => n⟩
theorem Try.sortPl : Go.Proofs.SlLaysF0.n6 Try.prog Try.sortPl_ren := {
  mixed := by kernel_rfl
  f6 := ⟨Try.f65.name, by decide, Try.func65.trans (congrArg some (by kernel_rfl))⟩
  f14 := ⟨Try.f70.name, by decide, Try.func70.trans (congrArg some (by kernel_rfl))⟩
  f15 := Try.func37.trans (congrArg some (by kernel_rfl))
  f20 := ⟨Try.f72.name, by decide, Try.func72.trans (congrArg some (by kernel_rfl))⟩
  f21 := ⟨Try.f73.name, by decide, Try.func73.trans (congrArg some (by kernel_rfl))⟩
  f22 := ⟨Try.f74.name, by decide, Try.func74.trans (congrArg some (by kernel_rfl))⟩
  f23 := ⟨Try.f75.name, by decide, Try.func75.trans (congrArg some (by kernel_rfl))⟩
  f24 := ⟨Try.f76.name, by decide, Try.func76.trans (congrArg some (by kernel_rfl))⟩
  f25 := ⟨Try.f77.name, by decide, Try.func77.trans (congrArg some (by kernel_rfl))⟩
  f26 := ⟨Try.f78.name, by decide, Try.func78.trans (congrArg some (by kernel_rfl))⟩
  f27 := ⟨Try.f79.name, by decide, Try.func79.trans (congrArg some (by kernel_rfl))⟩
  f28 := Try.func51.trans (congrArg some (by kernel_rfl))
  f29 := Try.func52.trans (congrArg some (by kernel_rfl))
  f46 := ⟨Try.f80.name, by decide, Try.func80.trans (congrArg some (by kernel_rfl))⟩
  f47 := Try.func59.trans (congrArg some (by kernel_rfl))
  f48 := Try.func60.trans (congrArg some (by kernel_rfl))
  f49 := ⟨Try.f81.name, by decide, Try.func81.trans (congrArg some (by kernel_rfl))⟩
  f50 := ⟨Try.f82.name, by decide, Try.func82.trans (congrArg some (by kernel_rfl))⟩
  f57 := ⟨Try.f83.name, by decide, Try.func83.trans (congrArg some (by kernel_rfl))⟩
  t0 := Try.underlying0
  a0 := Try.isAgg0
  z0 := Try.sizeOf0
  v0 := Try.zeroValue0
  t3 := Try.underlying3
  a3 := Try.isAgg3
  z3 := Try.sizeOf3
  v3 := Try.zeroValue3
  t4 := Try.underlying4
  a4 := Try.isAgg4
  z4 := Try.sizeOf4
  v4 := Try.zeroValue4
  t5 := Try.underlying5
  a5 := Try.isAgg5
  z5 := Try.sizeOf5
  v5 := Try.zeroValue5
  t9 := Try.underlying9
  a9 := Try.isAgg9
  z9 := Try.sizeOf9
  v9 := Try.zeroValue9
  t22 := Try.underlying24
  a22 := Try.isAgg24
  z22 := Try.sizeOf24
  v22 := Try.zeroValue24
  t25 := Try.underlying106
  a25 := Try.isAgg106
  z25 := Try.sizeOf106
  v25 := Try.zeroValue106
  t39 := Try.underlying74
  a39 := Try.isAgg74
  z39 := Try.sizeOf74
  v39 := Try.zeroValue74
  t45 := Try.underlying81
  a45 := Try.isAgg81
  z45 := Try.sizeOf81
  v45 := Try.zeroValue81
  t46 := Try.underlying82
  a46 := Try.isAgg82
  z46 := Try.sizeOf82
  v46 := Try.zeroValue82
  t50 := Try.underlying86
  a50 := Try.isAgg86
  z50 := Try.sizeOf86
  v50 := Try.zeroValue86
  t53 := Try.underlying89
  a53 := Try.isAgg89
  z53 := Try.sizeOf89
  v53 := Try.zeroValue89
  t55 := Try.underlying91
  a55 := Try.isAgg91
  z55 := Try.sizeOf91
  v55 := Try.zeroValue91
  t66 := Try.underlying98
  a66 := Try.isAgg98
  z66 := Try.sizeOf98
  v66 := Try.zeroValue98
  t70 := Try.underlying102
  a70 := Try.isAgg102
  z70 := Try.sizeOf102
  v70 := Try.zeroValue102
  t76 := Try.underlying107
  a76 := Try.isAgg107
  z76 := Try.sizeOf107
  v76 := Try.zeroValue107
  t77 := Try.underlying108
  a77 := Try.isAgg108
  z77 := Try.sizeOf108
  v77 := Try.zeroValue108 }
end Go.Proofs

/- slices.SortFunc by tree.byName, on a slice of the call's own: a permutation, in order. -/
namespace Go.Proofs.Ytphameoibnimmab
open Go.ChangeShapes Go.WideShapes Go.ChangeAt Go.RowKit
open Orangery (Pl byN leP ltP)

theorem swo_irrefl (x : Pl) : Go.Proofs.ltOf byN x x = false := by
  have : ¬ byN x x < 0 := by rw [Orangery.byN_lt]; unfold ltP; omega
  simpa [Go.Proofs.ltOf] using this
theorem swo_trans (x y z : Pl) (h1 : Go.Proofs.ltOf byN x y = true) (h2 : Go.Proofs.ltOf byN y z = true) : Go.Proofs.ltOf byN x z = true := by
  simp only [Go.Proofs.ltOf, decide_eq_true_eq, Orangery.byN_lt] at *
  unfold ltP at *
  omega
theorem swo_ntrans (x y z : Pl) (h1 : Go.Proofs.ltOf byN x y = false) (h2 : Go.Proofs.ltOf byN y z = false) : Go.Proofs.ltOf byN x z = false := by
  simp only [Go.Proofs.ltOf, decide_eq_false_iff_not, Orangery.byN_lt] at *
  unfold ltP at *
  omega
theorem swoByN : Go.Sort.SWO (Go.Proofs.ltOf byN) := ⟨swo_irrefl, swo_trans, swo_ntrans⟩

theorem holdsK_of {w : World} {g : Nat} {l : List Pl} (h : HoldsP w g l) : Go.Sort.HoldsK encPl 3 w g 0 l.toArray := by
  intro j hj
  rw [Go.Sort.size_flatK] at hj
  have hj' : j < l.length * 3 := by simpa using hj
  have hi : j / 3 < l.length := by omega
  rw [Go.Sort.get_flatK _ _ _ _ (by simpa using hj')]
  refine ⟨?_, by have := h.2 j hj'; simpa using this⟩
  have hc := h.1 (j / 3) hi
  have e : l.toArray[j / 3]! = l[j / 3] := by simp [hi]
  rw [e]
  have hm : j % 3 = 0 ∨ j % 3 = 1 ∨ j % 3 = 2 := by omega
  rcases hm with hm | hm | hm
  · rw [hm, show 0 + j = 0 + j / 3 * 3 by omega, hc.1]; rfl
  · rw [hm, show 0 + j = 0 + j / 3 * 3 + 1 by omega, hc.2.1]; rfl
  · rw [hm, show 0 + j = 0 + j / 3 * 3 + 2 by omega, hc.2.2]; rfl

theorem holdsP_of {w : World} {g : Nat} {d : Array Pl} (h : Go.Sort.HoldsK encPl 3 w g 0 d) : HoldsP w g d.toList := by
  refine ⟨fun i hi => ?_, fun i hi => ?_⟩
  · have hi' : i < d.size := by simpa using hi
    have h0 := (h.cell (i := i) (c := 0) hi' (by omega)).1
    have h1 := (h.cell (i := i) (c := 1) hi' (by omega)).1
    have h2 := (h.cell (i := i) (c := 2) hi' (by omega)).1
    have e : d[i]! = d.toList[i] := by simp [hi']
    rw [e] at h0 h1 h2
    exact ⟨h0, h1, h2⟩
  · have := (h i (by simpa using hi)).2
    simpa using this

theorem below_sortWorldK {B : Nat} {w : World} (g off n : Nat) (d : Array Pl) (os : Array Obj) (hB : B ≤ w.heap.size) (hg : B ≤ g) : Below B w (Go.Proofs.sortWorldK encPl 3 w g off n d os) := by
  refine ⟨rfl, rfl, rfl, ?_, fun k hk => ?_⟩
  · exact Go.Proofs.size_sortWorldK_c encPl 3 w g off n d os
  · show ((w.heap.modify g _) ++ os)[k]? = _
    rw [Array.getElem?_append_left (by simp; omega), Array.getElem?_modify]
    have : ¬ g = k := by omega
    simp [this]

theorem grown_sortWorldK {w : World} (g off n : Nat) (d : Array Pl) (os : Array Obj) : w.grownBy (Go.Proofs.sortWorldK encPl 3 w g off n d os) (some g) := by
  refine ⟨rfl, rfl, rfl, Go.Proofs.size_sortWorldK_c encPl 3 w g off n d os, fun k hk hne => ?_⟩
  show ((w.heap.modify g _) ++ os)[k]? = _
  rw [Array.getElem?_append_left (by simp; omega), Array.getElem?_modify]
  have : ¬ g = k := fun e => hne (by rw [e])
  simp [this]

theorem RowAt.sorted {w : World} {r cap : Nat} (h : RowAt w r cap) (g off n : Nat) (d : Array Pl) (os : Array Obj) : RowAt (Go.Proofs.sortWorldK encPl 3 w g off n d os) r cap := by
  obtain ⟨cur, h1, h2⟩ := h
  have hr : r < w.heap.size := blk_lt h1
  have e : (Go.Proofs.sortWorldK encPl 3 w g off n d os).heap[r]? = (Go.Sort.putRow id w g off (Go.Sort.flatK encPl 3 d)).heap[r]? := by
    show ((Go.Sort.putRow id w g off (Go.Sort.flatK encPl 3 d)).heap ++ os)[r]? = _
    rw [Array.getElem?_append_left]
    show r < (w.heap.modify g _).size
    simp
    exact hr
  have e2 : (Go.Sort.putRow id w g off (Go.Sort.flatK encPl 3 d)).heap[r]? = if g = r then some (.cells (Go.Sort.putCells id off (Go.Sort.flatK encPl 3 d) cur) 45 (0, 0)) else w.heap[r]? := by
    show (w.heap.modify g _)[r]? = _
    rw [Array.getElem?_modify, h1]
    by_cases hg : g = r
    · rw [if_pos hg, if_pos hg]; rfl
    · rw [if_neg hg, if_neg hg]
  rw [e2] at e
  by_cases hg : g = r
  · rw [if_pos hg] at e
    exact ⟨_, e, by simp [Go.Sort.putCells, h2]⟩
  · rw [if_neg hg] at e
    exact ⟨cur, e.trans h1, h2⟩

theorem perm_sorted {f : Pl → Pl → Int} {l : List Pl} {d' : Array Pl} (hp : Go.Sort.PermIn 0 l.toArray.size l.toArray d') (hs : Go.Sort.SortedIn (Go.Proofs.ltOf f) 0 l.toArray.size d') :
    d'.size = l.length ∧ d'.toList.Perm l ∧ d'.toList.Pairwise fun p q => ¬ f q p < 0 := by
  obtain ⟨h1, _, h3⟩ := hp
  have e1 : d'.extract 0 l.toArray.size = d' := by rw [← h1]; exact Array.extract_size
  rw [e1, Array.extract_size] at h3
  refine ⟨by simpa using h1, by simpa using h3, ?_⟩
  rw [List.pairwise_iff_getElem]
  intro i j hi hj hij
  have hi' : i < d'.size := by simpa using hi
  have hj' : j < d'.size := by simpa using hj
  have := hs i j (Nat.zero_le _) hij (by omega)
  rw [getElem!_pos d' j hj', getElem!_pos d' i hi'] at this
  simpa [Go.Proofs.ltOf] using this

set_option maxHeartbeats 1000000 in
/-- slices.SortFunc at places, by whatever order -/
theorem sort_gen (k : Nat) (f : Pl → Pl → Int) (hf : Go.Sort.SWO (Go.Proofs.ltOf f)) (eg : ∀ args w, (callFunc k args).run Try.prog w = .ok (.enter k args) w)
    (hk : ∀ w p q, Calls Try.prog k #[plV p, plV q] w fun e w' => e = .returned (.int .i64 (f p q)) ∧ ∃ n os, w' = Go.Sort.grow (w.drewN n) os)
    (w : World) (base : Nat) (sv : Value) (l : List Pl) (hl : l.length ≤ 1000) (hbase : base ≤ w.heap.size) (h : OwnS w base sv l) :
    Calls Try.prog 65 #[sv, .func (.func k) #[] #[]] w
      fun e w' => e = .returned (.tuple #[]) ∧ ∃ l', l'.Perm l ∧ (l'.Pairwise fun p q => ¬ f q p < 0) ∧ OwnS w' base sv l' ∧ Below base w w' ∧ w.grownBy w' sv.ownBlock := by
  rcases h with ⟨rfl, rfl⟩ | ⟨g, cap, rfl, hgb, hgl, hcap, hcm, hH, hrow⟩
  · have hn := Go.Proofs.AnyF.slices_SortFunc_none Try.sortPl none 0 (.func (.func k) #[] #[]) w
    change Calls Try.prog 65 _ _ _ at hn
    refine hn.mono ?_
    rintro e w' ⟨rfl, rfl⟩
    exact ⟨rfl, [], List.Perm.refl _, List.Pairwise.nil, Or.inl ⟨rfl, rfl⟩, Below.refl _ _, ⟨rfl, rfl, rfl, Nat.le_refl _, fun _ _ _ => rfl⟩⟩
  · have hK := holdsK_of hH
    have hn := Go.Proofs.AnyQ.slices_SortFunc Try.sortPl 3 Try.isAgg45 Try.sizeOf45 encPl (fun _ => rfl) (fun x v hv => by simp [encPl] at hv; rcases hv with rfl | rfl | rfl <;> rfl) f hf k #[] g 0 cap l.toArray w eg (fun _ _ _ _ x y => hk _ x y) hK hgl (by simp; omega)
    change Calls Try.prog 65 _ _ _ at hn
    have hsz : l.toArray.size = l.length := by simp
    rw [hsz] at hn
    refine hn.mono ?_
    rintro e w' ⟨rfl, d', n, os, hp, hs, rfl⟩
    rw [← hsz] at hp hs
    obtain ⟨e1, e2, e3⟩ := perm_sorted hp hs
    refine ⟨rfl, d'.toList, e2, e3, ?_, below_sortWorldK g 0 n d' os hbase hgb, grown_sortWorldK g 0 n d' os⟩
    refine Or.inr ⟨g, cap, by simp [e1], hgb, Nat.lt_of_lt_of_le hgl (Go.Proofs.size_sortWorldK_c encPl 3 w g 0 n d' os), by simp [e1]; exact hcap, hcm, ?_, hrow.sorted g 0 n d' os⟩
    exact holdsP_of (Go.Proofs.holdsK_sortWorldK_c encPl 3 w g 0 l.toArray d' n os hK hgl (by simp [e1]))

end Go.Proofs.Ytphameoibnimmab

/- move.with: a place put in by its node. -/
namespace Go.Proofs.Ytphameoibnimmab
open Go.ChangeShapes Go.WideShapes Go.ChangeAt Go.RowKit
open Orangery (Pl Mv Stp outL inL cmpI byNode)

def cmpN (p q : Pl) : Int := cmpI p.1 q.1
theorem cmpN_lt (p q : Pl) : cmpN p q < 0 ↔ p.1 < q.1 := by
  unfold cmpN cmpI
  by_cases h1 : p.1 < q.1
  · simp [h1]
  · by_cases h2 : q.1 < p.1 <;> simp [h1, h2]
theorem swoNode : Go.Sort.SWO (Go.Proofs.ltOf cmpN) := by
  refine ⟨fun x => ?_, fun x y z h1 h2 => ?_, fun x y z h1 h2 => ?_⟩
  · have : ¬ cmpN x x < 0 := by rw [cmpN_lt]; omega
    simpa [Go.Proofs.ltOf] using this
  · simp only [Go.Proofs.ltOf, decide_eq_true_eq, cmpN_lt] at *
    omega
  · simp only [Go.Proofs.ltOf, decide_eq_false_iff_not, cmpN_lt] at *
    omega

theorem sort_node (w : World) (base : Nat) (sv : Value) (l : List Pl) (hl : l.length ≤ 1000) (hbase : base ≤ w.heap.size) (h : OwnS w base sv l) :
    Calls Try.prog 65 #[sv, .func (.func 66) #[] #[]] w
      fun e w' => e = .returned (.tuple #[]) ∧ ∃ l', l'.Perm l ∧ (l'.Pairwise fun p q => p.1 ≤ q.1) ∧ OwnS w' base sv l' ∧ Below base w w' ∧ w.grownBy w' sv.ownBlock := by
  refine (sort_gen 66 cmpN swoNode (Go.Proofs.enters_of Try.func66 (by kernel_rfl) rfl) (fun w p q => with1_any w p q) w base sv l hl hbase h).mono ?_
  rintro e w' ⟨he, l', h1, h2, h3, h4, h5⟩
  exact ⟨he, l', h1, h2.imp (fun {p q} hh => by rw [cmpN_lt] at hh; omega), h3, h4, h5⟩

/-- an own slice, behind the writing of a block of another type -/
theorem OwnS.apart {w : World} {base : Nat} {v : Value} {l : List Pl} (h : OwnS w base v l) {b : Nat} {cs : Array Value} {t : TypeId} {fr : Nat × Nat} (hb : w.heap[b]? = some (.cells cs t fr)) (ht : t ≠ 45) :
    some b ≠ v.ownBlock ∧ ∀ j u, OwnS (w.setCell ⟨b, j, none⟩ u) base v l := by
  rcases h with ⟨rfl, rfl⟩ | ⟨g, cap, rfl, h1, hl, h2, h3, ⟨hp, hf⟩, hr⟩
  · exact ⟨by simp [Value.ownBlock], fun j u => Or.inl ⟨rfl, rfl⟩⟩
  · have hne : ¬ b = g := by
      rintro rfl
      obtain ⟨cur, hc, _⟩ := hr
      rw [hb] at hc
      simp at hc
      exact ht hc.2.1
    refine ⟨by simp [Value.ownBlock, hne], fun j u => ?_⟩
    refine Or.inr ⟨g, cap, rfl, h1, by simpa using hl, h2, h3, ⟨fun i hi => ?_, fun i hi => ?_⟩, hr.set _ _ _⟩
    · rw [World.cell?_setCell_other _ _ _ _ (by simp <;> omega), World.cell?_setCell_other _ _ _ _ (by simp <;> omega), World.cell?_setCell_other _ _ _ _ (by simp <;> omega)]
      exact hp i hi
    · simp only [World.frozen?_setCell]
      exact hf i hi

set_option maxHeartbeats 1000000 in
set_option maxRecDepth 100000 in
theorem with_any (w : World) (a : Option Addr) (c : Nat) (l : List Pl) (p : Pl) (hl : l.length ≤ 900) (h : SlP w a l) (hs : byNode l) :
    Calls Try.prog 56 #[.agg #[.slice a l.length c], plV p] w
      fun e w' => ∃ v, e = .returned (.agg #[v]) ∧ OwnS w' w.heap.size v (inL l p) ∧ Below w.heap.size w w' := by
  obtain ⟨p0, p1, p2⟩ := p
  obtain ⟨i0, hi, hz0, hz1, hz2⟩ := info_parts infoPlace
  go_enter Try.func56, Try.ntmps56
  go_wp2_with fail
  obtain ⟨W0, hW, _, hN, hR, hB, hS⟩ := laid3 w [Value.slice a l.length c] 26 [Value.int IntKind.i64 p0, Value.int IntKind.i64 p1, Value.int IntKind.i64 p2] 45 [Value.slice none 0 0] 26
  rw [hW]
  clear hW
  have hP := h.below hB
  clear h
  refine (without_any W0 a c l p0 (by omega) hP).mono ?_
  rintro e w1 ⟨v1, rfl, hO1, hb1⟩
  have hN1 := hN.keep hb1
  have hR1 := hR.keep hb1
  have HB1 : Hid (Below w.heap.size w w1) := hB.trans (hb1.mono hB.size)
  obtain ⟨a1, c1, rfl⟩ := hO1.val
  clear hN hR hB hP
  have x0 := hN1.at 0 rfl
  have x1 := hN1.at 1 rfl
  have x2 := hN1.at 2 rfl
  have n0 : ¬ w1.heap.size = w.heap.size + 1 := by have := hN1.lt; omega
  have n1 : w.heap.size + 1 < w1.heap.size := hN1.lt
  have hsz1 : w.heap.size + 3 ≤ w1.heap.size := by have := hb1.size; omega
  have hU := Blk.new w1 [Value.slice a1 (outL l p0).length c1] 26
  have hU2 := hU.alloc (Obj.cells #[Value.int IntKind.i64 p0, Value.int IntKind.i64 p1, Value.int IntKind.i64 p2] 45)
  have hR2 := (hR1.alloc (Obj.cells #[Value.slice a1 (outL l p0).length c1] 26)).alloc (Obj.cells #[Value.int IntKind.i64 p0, Value.int IntKind.i64 p1, Value.int IntKind.i64 p2] 45)
  have hown := (hO1.row.alloc (Obj.cells #[Value.slice a1 (outL l p0).length c1] 26)).alloc (Obj.cells #[Value.int IntKind.i64 p0, Value.int IntKind.i64 p1, Value.int IntKind.i64 p2] 45)
  have hB2 := ((Below.refl w1.heap.size w1).alloc (Nat.le_refl _) (Obj.cells #[Value.slice a1 (outL l p0).length c1] 26)).alloc (by simp) (Obj.cells #[Value.int IntKind.i64 p0, Value.int IntKind.i64 p1, Value.int IntKind.i64 p2] 45)
  have hlt1 := hO1.row.lt
  have hlen : (outL l p0).length ≤ 900 := Nat.le_trans (List.length_filter_le _ _) hl
  have HU2 : Hid (Blk ((w1.alloc (Obj.cells #[Value.slice a1 (outL l p0).length c1] 26)).alloc (Obj.cells #[Value.int IntKind.i64 p0, Value.int IntKind.i64 p1, Value.int IntKind.i64 p2] 45)) w1.heap.size [Value.slice a1 (outL l p0).length c1]) := hU2
  have HR2 : Hid (Blk ((w1.alloc (Obj.cells #[Value.slice a1 (outL l p0).length c1] 26)).alloc (Obj.cells #[Value.int IntKind.i64 p0, Value.int IntKind.i64 p1, Value.int IntKind.i64 p2] 45)) (w.heap.size + 1 + 1) [Value.slice none 0 0]) := hR2
  have HL : Hid (∀ k, (Value.slice a1 (outL l p0).length c1).ownBlock = some k → W0.heap.size ≤ k ∧ k < w1.heap.size) := hlt1
  clear hU hU2 hR2 hO1 hR1 hN1 hlt1
  go_wp2_with (at_builtin; refine wpList_append_own _ rfl _ _ 24 rfl W0.heap.size 45 i0 _ 3 24 Try.underlying24 hi hz0 hz1 hz2 rfl (by decide) _ _ _ rfl hown ⟨w1.heap.size + 1, 0, none⟩ 1 1 [.int .i64 p0, .int .i64 p1, .int .i64 p2] rfl rfl ?c1 ?c2 ?c3 ?c4 ?c5 ?_)
  case c1 =>
    intro t u ht
    match t, ht with
    | 0, ht => simp at ht; subst ht; simp [Addr.add]
    | 1, ht => simp at ht; subst ht; simp [Addr.add]
    | 2, ht => simp at ht; subst ht; simp [Addr.add]
    | t + 3, ht => simp at ht
  case c2 => intro u hu; simp at hu; rcases hu with rfl | rfl | rfl <;> rfl
  case c3 => unfold maxLen; omega
  case c4 => omega
  case c5 => simp; omega
  · intro v2 w2 hown' hgrow _
    have hO2 : OwnS w2 (w.heap.size + 3) v2 (outL l p0 ++ [(p0, p1, p2)]) := own_pls (by simpa [encPl] using hown')
    have hne : ∀ k, k = w1.heap.size ∨ k < W0.heap.size → some k ≠ (Value.slice a1 (outL l p0).length c1).ownBlock := by
      intro k hk e
      have := HL.out k e.symm
      omega
    have hU3 := HU2.out.grown hgrow (hne _ (Or.inl rfl))
    have hR3 := HR2.out.grown hgrow (hne _ (Or.inr (by omega)))
    have hblk : w2.heap[w1.heap.size]? = some (Obj.cells #[Value.slice a1 (outL l p0).length c1] 26) := by
      rw [hgrow.block w1.heap.size (by simp; omega) (hne _ (Or.inl rfl)), blk_old (by simp)]
      exact blk_new rfl
    have hb2 : Below W0.heap.size w1 w2 := (hB2.mono hb1.size).grown hgrow (by simp; have := hb1.size; omega) (fun k hk => (HL.out k hk).1)
    have hsz2 : w1.heap.size ≤ w2.heap.size := hb2.size
    have HB2 : Hid (Below w.heap.size w w2) := HB1.out.trans (hb2.mono (by omega))
    obtain ⟨hown3, happ⟩ := hO2.apart hblk (by decide)
    obtain ⟨a2, c2, rfl⟩ := hO2.val
    generalize hK : outL l p0 ++ [(p0, p1, p2)] = K at *
    have HIN : Hid (∀ l', l'.Perm K → (l'.Pairwise fun p q => p.1 ≤ q.1) → l' = inL l (p0, p1, p2)) := fun l' h1 h2 => Orangery.in_unique l l' (p0, p1, p2) hs (by rw [← hK] at h1; exact h1) h2
    have hKl : K.length ≤ 1000 := by rw [← hK]; simp; omega
    have u0 := hU3.at 0 rfl
    have uf := hU3.frz
    have hU4 := hU3.set 0 (by simp) (.slice a2 K.length c2)
    have hR4 := hR3.other (g := w1.heap.size) (by omega) 0 (.slice a2 K.length c2)
    have hO4 := happ 0 (.slice a2 K.length c2)
    have HB4 : Hid (Below w.heap.size w (w2.setCell ⟨w1.heap.size, 0, none⟩ (.slice a2 K.length c2))) := HB2.out.setCell (by show w.heap.size ≤ w1.heap.size; omega) _
    have HBK : Hid (Blk (w2.setCell ⟨w1.heap.size, 0, none⟩ (.slice a2 K.length c2)) w1.heap.size [.slice a2 K.length c2] ∧ Blk (w2.setCell ⟨w1.heap.size, 0, none⟩ (.slice a2 K.length c2)) (w.heap.size + 1 + 1) [Value.slice none 0 0] ∧ some w1.heap.size ≠ (Value.slice a2 K.length c2).ownBlock) := ⟨hU4, hR4, hown3⟩
    clear hgrow hown hown' hne hU3 hR3 HU2 HR2 hB2 x0 x1 x2 hO2 HB1 hK hblk happ hU4 hR4 hown3 HB2
    go_wp2_with fail
    refine (sort_node _ (w.heap.size + 3) _ K hKl (by simp; omega) hO4).mono ?_
    rintro e w3 ⟨rfl, l', hp', hs', hO5, hb5, hg5⟩
    have hl' := HIN.out l' hp' hs'
    subst hl'
    have hU5 := HBK.out.1.grown hg5 HBK.out.2.2
    have hR5 := HBK.out.2.1.below hb5 (by omega)
    have u5 := hU5.at 0 rfl
    have r5 := hR5.at 0 rfl
    have rf := hR5.frz
    have HO5 : Hid (OwnS w3 (w.heap.size + 3) (.slice a2 K.length c2) (inL l (p0, p1, p2))) := hO5
    have HB5 : Hid (Below w.heap.size w w3) := HB4.out.trans (hb5.mono (by omega))
    have hne : ¬ w1.heap.size = w.heap.size + 1 + 1 := by omega
    clear hO4 hO5 hb5 hg5 hU5 hR5 HBK HB4 u0 uf
    go_wp2
    have z1 : (w3.setCell ⟨w.heap.size + 1 + 1, 0, none⟩ (.slice a2 K.length c2)).cell? ⟨w.heap.size + 1 + 1, 0, none⟩ = some (.slice a2 K.length c2) := World.cell?_setCell_same _ _ _ r5
    refine bodyPost_ret (v := .agg #[.slice a2 K.length c2]) (by simp [results, Try.results56, go_sem, z1]) rfl ⟨_, rfl, ?_, ?_⟩
    · exact (HO5.out.other _ (by omega) _ _).mono (by omega)
    · exact HB5.out.setCell (by show _ ≤ w.heap.size + 1 + 1; omega) _
end Go.Proofs.Ytphameoibnimmab

/- cmp.Or at error numbers. -/
namespace Go.Proofs.Ytphameoibnimmab
open Go.ChangeShapes Go.WideShapes Go.ChangeAt Go.RowKit
open Orangery (orI)

set_option maxHeartbeats 400000 in
theorem orE_any (w : World) (b c : Nat) (x y : Int) (h0 : w.cell? ⟨b, 0, none⟩ = some (.int .i64 x)) (h1 : w.cell? ⟨b, 1, none⟩ = some (.int .i64 y)) :
    Calls Try.prog 26 #[.slice (some ⟨b, 0, none⟩) 2 c] w fun e w' => e = .returned (.int .i64 (orI x y)) ∧ w' = w := by
  go_enter Try.func26, Try.ntmps26
  go_wp2
  go_loop [8] (fun i => ∃ k : Nat, k ≤ 2 ∧ i = .int .i64 k ∧ (1 ≤ k → x = 0) ∧ (2 ≤ k → y = 0)) (fun i => 2 - (intOf i).toNat)
  case atStart => exact ⟨0, by omega, rfl, by omega, by omega⟩
  case round =>
    obtain ⟨k, hk, rfl, hx, hy⟩ := hrel
    have hc : k = 0 ∨ k = 1 ∨ k = 2 := by omega
    rcases hc with rfl | rfl | rfl
    · clear hx hy
      by_cases hx : x = 0
      · have hx' : (x != 0) = false := by simp [hx]
        have HX : Hid (x = 0) := hx
        clear hx
        go_wp2
        go_round
        case rel => exact ⟨1, by omega, by go_num, fun _ => HX.out, by omega⟩
        case measure => simp [intOf]
      · have hx' : (x != 0) = true := by simp [hx]
        have HX : Hid (x ≠ 0) := hx
        clear hx
        go_wp2
        go_ret
        exact ⟨ret_int (by rw [orI, if_pos HX.out]), rfl⟩
    · have HX : Hid (x = 0) := hx (by omega)
      clear hx hy
      by_cases hy : y = 0
      · have hy' : (y != 0) = false := by simp [hy]
        have HY : Hid (y = 0) := hy
        clear hy
        go_wp2
        go_round
        case rel => exact ⟨2, by omega, by go_num, fun _ => HX.out, fun _ => HY.out⟩
        case measure => simp [intOf]
      · have hy' : (y != 0) = true := by simp [hy]
        clear hy
        go_wp2
        go_ret
        exact ⟨ret_int (by rw [orI, if_neg (by simp [HX.out])]), rfl⟩
    · have HX : Hid (x = 0) := hx (by omega)
      have HY : Hid (y = 0) := hy (by omega)
      clear hx hy
      go_wp2
      go_ret
      exact ⟨ret_int (by rw [orI, if_neg (by simp [HX.out]), HY.out]), rfl⟩

end Go.Proofs.Ytphameoibnimmab

