/- 8 texts of the proof: Plain facts on chapter 3: what Fold, Check and Insert answer, of operations and steps as lists. history's small functions: has, byStamp; slices.ContainsFunc, IndexFunc, Clone at operations; orangeryref.rank. slices.Equal at places. Results that lie in cells: how a call hands them back. slices.Equal at steps; history.Same, orangeryref.SameHistory; history.operations, orangeryref.OpsOf, orangeryref. -/
import Derived.Laws.StructEq
import Derived.OwnWalk
import Derived.Test.YthlhnokgcnieeadGreatDoorP03
import Derived.Test.YthlhnokgcnieeadGreatDoorP01
import Derived.Test.YthlhnokgcnieeadGreatDoorP02
/- Plain facts on chapter 3: what Fold, Check and Insert answer, of operations and steps as lists. -/
namespace Orangery

/-- the first error of operations -/
def firstE : List Mv → Int
  | [] => 0
  | o :: l => if checkOp o ≠ 0 then checkOp o else firstE l

theorem firstE_zero (l : List Mv) : firstE l = 0 ↔ ∀ o ∈ l, checkOp o = 0 := by
  induction l with
  | nil => simp [firstE]
  | cons o l ih =>
    unfold firstE
    by_cases h : checkOp o = 0
    · rw [if_neg (by simp [h]), ih]
      simp [h]
    · rw [if_pos h]
      constructor
      · intro h'; exact absurd h' h
      · intro h'; exact absurd (h' o (by simp)) h

/-- a look at operations one by one -/
theorem firstE_drop (l : List Mv) (k : Nat) (h : k < l.length) (hs : firstE (l.drop k) = firstE l) :
    (checkOp l[k] ≠ 0 → firstE l = checkOp l[k]) ∧ (checkOp l[k] = 0 → firstE (l.drop (k + 1)) = firstE l) := by
  rw [List.drop_eq_getElem_cons h] at hs
  have e : firstE (l[k] :: l.drop (k + 1)) = if checkOp l[k] ≠ 0 then checkOp l[k] else firstE (l.drop (k + 1)) := rfl
  rw [e] at hs
  constructor
  · intro h1; rw [if_pos h1] at hs; exact hs.symm
  · intro h1; rw [if_neg (by simp [h1])] at hs; exact hs

/-- history.Fold -/
def foldE (l : List Mv) : Int := if 30 < l.length then 2 else if firstE l ≠ 0 then firstE l else if (srt l).length < l.length then 6 else 0
def foldL (l : List Mv) : List Stp := if foldE l ≠ 0 then [] else runS [] (srt l)
def foldT (l : List Mv) : List Pl := if foldE l ≠ 0 then [] else runT [] (srt l)

theorem foldE_zero (l : List Mv) : foldE l = 0 ↔ l.length ≤ 30 ∧ (∀ o ∈ l, checkOp o = 0) ∧ noTwo l := by
  rw [← firstE_zero]
  unfold foldE
  have hs := srt_len l
  constructor
  · intro h
    split at h
    · omega
    · split at h
      · contradiction
      · split at h
        · omega
        · rename_i h1 h2 h3
          refine ⟨by omega, by simpa using h2, ?_⟩
          by_cases hn : noTwo l
          · exact hn
          · exact absurd (hs.2.2 hn) h3
  · rintro ⟨h1, h2, h3⟩
    rw [if_neg (by omega), if_neg (by simp [h2]), if_neg]
    have := (hs.2.1 h3).length_eq
    omega

theorem foldE_perm {l m : List Mv} (hp : l.Perm m) (h : foldE l = 0) : foldE m = 0 ∧ srt m = srt l := by
  obtain ⟨h1, h2, h3⟩ := (foldE_zero l).1 h
  exact ⟨(foldE_zero m).2 ⟨by rw [← hp.length_eq]; exact h1, fun o ho => h2 o (hp.mem_iff.2 ho), noTwo_perm hp h3⟩, (srt_perm l m h3 hp).symm⟩

theorem srt_ok {l : List Mv} (h : foldE l = 0) : foldE (srt l) = 0 ∧ (srt l).Perm l ∧ (srt l).length = l.length := by
  obtain ⟨h1, h2, h3⟩ := (foldE_zero l).1 h
  have hp := (srt_len l).2.1 h3
  exact ⟨(foldE_perm hp.symm h).1, hp, hp.length_eq⟩

theorem fold_ok {l : List Mv} (h : foldE l = 0) : foldL l = runS [] (srt l) ∧ foldT l = runT [] (srt l) ∧ (foldL l).map (·.1) = srt l ∧ (foldL l).length = l.length ∧ check (foldT l) = 0 := by
  obtain ⟨h1, h2, h3⟩ := (foldE_zero l).1 h
  have e1 : foldL l = runS [] (srt l) := by unfold foldL; rw [if_neg (by simp [h])]
  have e2 : foldT l = runT [] (srt l) := by unfold foldT; rw [if_neg (by simp [h])]
  refine ⟨e1, e2, by rw [e1, runS_ops], by rw [e1, runS_len]; exact (srt_ok h).2.2, ?_⟩
  rw [e2]
  exact runT_check _ _ check_empty (fun o ho => h2 o (srt_mem l o ho))

theorem fold_perm {l m : List Mv} (hp : l.Perm m) (h : foldE l = 0) : foldL m = foldL l ∧ foldT m = foldT l := by
  obtain ⟨h1, h2⟩ := foldE_perm hp h
  obtain ⟨a1, a2, _⟩ := fold_ok h
  obtain ⟨b1, b2, _⟩ := fold_ok h1
  rw [a1, a2, b1, b2, h2]
  exact ⟨rfl, rfl⟩

/-- a history: steps and a tree -/
def eqSts : List Stp → List Stp → Bool
  | [], [] => true
  | s :: l, t :: m => decide (s = t) && eqSts l m
  | _, _ => false
theorem eqSts_iff (l : List Stp) : ∀ m, eqSts l m = true ↔ l = m := by
  induction l with
  | nil => intro m; cases m <;> simp [eqSts]
  | cons s l ih =>
    intro m
    cases m with
    | nil => simp [eqSts]
    | cons t m =>
      show (decide (s = t) && eqSts l m) = true ↔ _
      rw [Bool.and_eq_true, ih, decide_eq_true_eq, List.cons.injEq]
def sameB (L M : List Stp) (T U : List Pl) : Bool := eqSts L M && decide (T = U)
theorem sameB_iff (L M : List Stp) (T U : List Pl) : sameB L M T U = true ↔ L = M ∧ T = U := by
  unfold sameB
  rw [Bool.and_eq_true, eqSts_iff, decide_eq_true_eq]
def histE (L : List Stp) (T : List Pl) : Int := if foldE (L.map (·.1)) ≠ 0 then foldE (L.map (·.1)) else if sameB (foldL (L.map (·.1))) L (foldT (L.map (·.1))) T = true then 0 else 4

/-- what Fold made is one -/
theorem hist_fold {l : List Mv} (h : foldE l = 0) : histE (foldL l) (foldT l) = 0 := by
  obtain ⟨_, _, h3, _, _⟩ := fold_ok h
  obtain ⟨h4, h5, _⟩ := srt_ok h
  obtain ⟨h6, h7⟩ := fold_perm h5 h4
  unfold histE
  rw [h3, if_neg (by simp [h4]), if_pos ((sameB_iff _ _ _ _).2 ⟨h6.symm, h7.symm⟩)]
theorem hist_empty : histE [] [] = 0 := by decide

/-- the stamp of an operation is there -/
def thereB (L : List Stp) (o : Mv) : Bool := L.any fun s => s.1.1 == o.1 && s.1.2.1 == o.2.1

/-- history.Insert -/
def insE (L : List Stp) (T : List Pl) (o : Mv) : Int :=
  if histE L T ≠ 0 then histE L T else if checkOp o ≠ 0 then checkOp o else if thereB L o = true then 6 else foldE (L.map (·.1) ++ [o])
def insL (L : List Stp) (T : List Pl) (o : Mv) : List Stp := if insE L T o ≠ 0 then [] else foldL (L.map (·.1) ++ [o])
def insT (L : List Stp) (T : List Pl) (o : Mv) : List Pl := if insE L T o ≠ 0 then [] else foldT (L.map (·.1) ++ [o])

theorem there_iff {l : List Mv} (L : List Stp) (hl : L.map (·.1) = l) (hok : ∀ x ∈ l, checkOp x = 0) (o : Mv) (ho : checkOp o = 0) : thereB L o = true ↔ ∃ x ∈ l, rk x = rk o := by
  unfold thereB
  rw [List.any_eq_true]
  subst hl
  constructor
  · rintro ⟨s, hs, he⟩
    have hm : s.1 ∈ L.map (·.1) := List.mem_map.2 ⟨s, hs, rfl⟩
    simp at he
    exact ⟨s.1, hm, (rk_eq (hok _ hm) ho).2 he⟩
  · rintro ⟨x, hx, he⟩
    obtain ⟨s, hs, rfl⟩ := List.mem_map.1 hx
    refine ⟨s, hs, ?_⟩
    have := (rk_eq (hok _ hx) ho).1 he
    simp [this]

/-- one more operation, put into what Fold made of the others -/
theorem ins_fold {l : List Mv} (h : foldE l = 0) (o : Mv) (h' : foldE (l ++ [o]) = 0) : insE (foldL l) (foldT l) o = 0 ∧ insL (foldL l) (foldT l) o = foldL (l ++ [o]) ∧ insT (foldL l) (foldT l) o = foldT (l ++ [o]) := by
  obtain ⟨_, _, h3, _, _⟩ := fold_ok h
  obtain ⟨_, hp, _⟩ := srt_ok h
  obtain ⟨g1, g2, g3⟩ := (foldE_zero _).1 h'
  obtain ⟨k1, k2, k3⟩ := (foldE_zero l).1 h
  have ho : checkOp o = 0 := g2 o (by simp)
  have hpo : (srt l ++ [o]).Perm (l ++ [o]) := hp.append_right [o]
  have hf := (foldE_perm hpo.symm h').1
  have hno : thereB (foldL l) o = false := by
    cases ht : thereB (foldL l) o
    · rfl
    · exfalso
      obtain ⟨x, hx, he⟩ := (there_iff (foldL l) h3 (fun x hx => k2 x (srt_mem l x hx)) o ho).1 ht
      have hxl := srt_mem l x hx
      unfold noTwo at g3
      rw [List.pairwise_append] at g3
      exact g3.2.2 x hxl o (by simp) he
  have e0 : insE (foldL l) (foldT l) o = 0 := by
    unfold insE
    rw [if_neg (by simp [hist_fold h]), if_neg (by simp [ho]), if_neg (by simp [hno]), h3]
    exact hf
  obtain ⟨e1, e2⟩ := fold_perm hpo.symm h'
  refine ⟨e0, ?_, ?_⟩
  · unfold insL; rw [if_neg (by simp [e0]), h3]; exact e1
  · unfold insT; rw [if_neg (by simp [e0]), h3]; exact e2

theorem fold_prefix {l m : List Mv} (h : foldE (l ++ m) = 0) : foldE l = 0 := by
  obtain ⟨h1, h2, h3⟩ := (foldE_zero _).1 h
  unfold noTwo at h3
  rw [List.pairwise_append] at h3
  exact (foldE_zero l).2 ⟨by rw [List.length_append] at h1; omega, fun o ho => h2 o (by simp [ho]), h3.1⟩

/-- an operation of a later stamp comes behind, and turns nothing -/
theorem ins_late {l : List Mv} (h : foldE l = 0) (o : Mv) (hl : ∀ x ∈ l, rk x < rk o) (h' : foldE (l ++ [o]) = 0) : ∃ s : Stp, s.1 = o ∧ foldL (l ++ [o]) = foldL l ++ [s] := by
  obtain ⟨e1, _, _⟩ := fold_ok h
  obtain ⟨e2, _, _⟩ := fold_ok h'
  obtain ⟨_, hp, _⟩ := srt_ok h
  have es : srt (l ++ [o]) = srt l ++ [o] := by
    have h1 := srt_late (srt l) o (srt_sorted l) (fun x hx => hl x (srt_mem l x hx))
    rw [← h1]
    exact ((foldE_perm (hp.symm.append_right [o]) h').2).symm
  refine ⟨dS (runT [] (srt l)) o, rfl, ?_⟩
  rw [e1, e2, es, runS_append]
  rfl
end Orangery

/- history's small functions: has, byStamp; slices.ContainsFunc, IndexFunc, Clone at operations; orangeryref.rank. -/
namespace Go.Proofs.YthlhnokgcnieeadGreatDoor
open Go.ChangeShapes Go.WideShapes Go.ChangeAt Go.RowKit
open Orangery (Pl Mv Stp cmpI orI rk)

def sameS (t u : Int) (o : Mv) : Bool := decide (o.1 = t) && decide (o.2.1 = u)
def hasS (l : List Mv) (t u : Int) : Bool := l.any (sameS t u)

set_option maxHeartbeats 400000 in
theorem has1_any (w : World) (o : Mv) (t u : Int) (b : Nat) (hb : b < w.heap.size) (c0 : w.cell? ⟨b, 0, none⟩ = some (.int .i64 t)) (c1 : w.cell? ⟨b, 1, none⟩ = some (.int .i64 u)) :
    Calls Tryz.prog 94 #[opV o, .pointer (some ⟨b, 0, none⟩)] w fun e w' => e = .returned (.bool (sameS t u o)) ∧ Below w.heap.size w w' := by
  obtain ⟨o1, o2, ⟨o3, o4, o5⟩, o6, o7⟩ := o
  have he := run_eql_stamp
  have hg := guard_stamp
  have hne : ¬ w.heap.size = b := by omega
  go_enter Tryz.func94, Tryz.ntmps94
  go_wp2
  go_ret
  exact ⟨rfl, Go.Joins.below_alloc1 w _⟩

set_option maxHeartbeats 1000000 in
theorem indexFuncOps_any (w : World) (a : Option Addr) (c : Nat) (l : List Mv) (g : Nat) (v : Value) (f : Mv → Bool) (hl : l.length ≤ maxLen) (h : SlE opC w a l)
    (eg : ∀ args w, (callFunc g args).run Tryz.prog w = .ok (.enter g args) w)
    (hg : ∀ W p, Below w.heap.size w W → Calls Tryz.prog g #[opV p, v] W fun e w' => e = .returned (.bool (f p)) ∧ Below W.heap.size W w') :
    Calls Tryz.prog 112 #[.slice a l.length c, .func (.func g) #[] #[v]] w
      fun e w' => (∃ i : Int, e = .returned (.int .i64 i) ∧ (l.any f = true → 0 ≤ i) ∧ (l.any f = false → i = -1)) ∧ Below w.heap.size w w' := by
  have hl' : l.length ≤ 9223372036854775807 := hl
  go_enter Tryz.func112, Tryz.ntmps112
  go_wp2
  go_loopw [8] (fun i W => ∃ k : Nat, k ≤ l.length ∧ i = .int .i64 k ∧ (∀ j, (hj : j < l.length) → j < k → f l[j] = false) ∧ Below w.heap.size w W) (fun i _ => l.length - (intOf i).toNat)
  case atStart => exact ⟨0, Nat.zero_le _, rfl, fun j _ hj => absurd hj (Nat.not_lt_zero _), Below.refl _ _⟩
  case round =>
    obtain ⟨k, hk, rfl, hno, hb⟩ := hrel
    have HNO : Hid (∀ j, (hj : j < l.length) → j < k → f l[j] = false) := hno
    clear hno
    by_cases hlt : k < l.length
    · obtain ⟨b, off, rfl, hbl, hr⟩ := h.at opC_len k hlt
      have hr1 : wr.rangeAt b (off + k * 7) (opC l[k]) := fun j v hv => by rw [hb.cell (by exact hbl)]; exact hr j v hv
      obtain ⟨g0, g1, g2, g3, g4, g5, g6⟩ := op_cells hr1
      have HQ : Hid (l.any f = true ↔ ∃ x ∈ l, f x = true) := List.any_eq_true
      have HM : Hid (l[k] ∈ l) := List.getElem_mem hlt
      clear hr hr1
      go_wp2_with fail
      refine (hg wr l[k] hb).mono ?_
      rintro e w1 ⟨rfl, hb1⟩
      have hb2 : Below w.heap.size w w1 := hb.trans (hb1.mono hb.size)
      cases hr : f l[k]
      · go_wp2
        go_roundw
        case rel =>
          refine ⟨k + 1, hlt, by go_num, fun j hj hjk => ?_, hb2⟩
          by_cases hjk' : j < k
          · exact HNO.out j hj hjk'
          · have : j = k := by omega
            subst this
            exact hr
        case measure => simp [intOf]; omega
      · go_wp2
        go_ret
        refine ⟨⟨k, rfl, fun _ => by omega, fun hn => ?_⟩, hb2⟩
        have := HQ.out.2 ⟨_, HM.out, hr⟩
        rw [hn] at this
        simp at this
    · go_wp2
      go_ret
      refine ⟨⟨-1, rfl, fun hm => ?_, fun _ => rfl⟩, hb⟩
      obtain ⟨x, hx, e⟩ := List.any_eq_true.1 hm
      obtain ⟨j, hj, rfl⟩ := List.getElem_of_mem hx
      rw [HNO.out j hj (by omega)] at e
      simp at e

set_option maxHeartbeats 1000000 in
theorem containsFuncOps_any (w : World) (a : Option Addr) (c : Nat) (l : List Mv) (g : Nat) (v : Value) (f : Mv → Bool) (hl : l.length ≤ maxLen) (h : SlE opC w a l)
    (eg : ∀ args w, (callFunc g args).run Tryz.prog w = .ok (.enter g args) w)
    (hg : ∀ W p, Below w.heap.size w W → Calls Tryz.prog g #[opV p, v] W fun e w' => e = .returned (.bool (f p)) ∧ Below W.heap.size W w') :
    Calls Tryz.prog 93 #[.slice a l.length c, .func (.func g) #[] #[v]] w
      fun e w' => e = .returned (.bool (l.any f)) ∧ Below w.heap.size w w' := by
  have hc := indexFuncOps_any w a c l g v f hl h eg hg
  clear hg eg h
  go_enter Tryz.func93, Tryz.ntmps93
  go_wp2_with fail
  refine hc.mono ?_
  rintro e w' ⟨⟨i, rfl, hi1, hi2⟩, hb⟩
  cases hm : l.any f
  · have h0 := hi2 hm
    subst h0
    clear hi1 hi2
    go_wp2
    go_ret
    exact ⟨ret_bool hm.symm, hb⟩
  · have h0 := hi1 hm
    clear hi1 hi2
    go_wp2
    go_ret
    exact ⟨ret_bool hm.symm, hb⟩

set_option maxHeartbeats 1000000 in
theorem has_any (w : World) (a : Option Addr) (c : Nat) (l : List Mv) (t u : Int) (hl : l.length ≤ maxLen) (h : SlE opC w a l) :
    Calls Tryz.prog 77 #[.slice a l.length c, .agg #[.int .i64 t, .int .i64 u]] w
      fun e w' => e = .returned (.bool (hasS l t u)) ∧ Below w.heap.size w w' := by
  go_enter Tryz.func77, Tryz.ntmps77
  go_wp2_with fail
  have hN := Blk.new w [Value.int IntKind.i64 t, Value.int IntKind.i64 u] 39
  have hB := Go.Joins.below_alloc1 w (Obj.cells #[Value.int IntKind.i64 t, Value.int IntKind.i64 u] 39)
  have hP := h.below hB
  clear h
  refine (containsFuncOps_any _ a c l 94 (.pointer (some ⟨w.heap.size, 0, none⟩)) (sameS t u) hl hP (Go.Proofs.enters_of Tryz.func94 (by kernel_rfl) rfl) ?_).mono ?_
  · intro W p hb
    have hN1 := hN.keep hb
    exact has1_any W p t u w.heap.size hN1.lt (hN1.at 0 rfl) (hN1.at 1 rfl)
  rintro e w1 ⟨rfl, hb⟩
  have hb2 : Below w.heap.size w w1 := hB.trans (hb.mono (by simp))
  clear hN hB hP hb
  go_wp2
  go_ret
  exact ⟨rfl, hb2⟩

def byS (o p : Mv) : Int := orI (cmpI o.1 p.1) (cmpI o.2.1 p.2.1)

set_option maxHeartbeats 1000000 in
theorem byStamp_any (w : World) (o p : Mv) :
    Calls Tryz.prog 80 #[opV o, opV p] w fun e w' => e = .returned (.int .i64 (byS o p)) ∧ ∃ n os, w' = Go.Sort.grow (w.drewN n) os := by
  obtain ⟨o1, o2, ⟨o3, o4, o5⟩, o6, o7⟩ := o
  obtain ⟨p1, p2, ⟨p3, p4, p5⟩, p6, p7⟩ := p
  have HE : Hid (byS (o1, o2, (o3, o4, o5), o6, o7) (p1, p2, (p3, p4, p5), p6, p7) = orI (cmpI o1 p1) (cmpI o2 p2)) := rfl
  go_enter Tryz.func80, Tryz.ntmps80
  go_wp2
  have hG : ∃ os, ((w.alloc (Obj.cells (opC (o1, o2, (o3, o4, o5), o6, o7)).toArray 41)).alloc (Obj.cells (opC (p1, p2, (p3, p4, p5), p6, p7)).toArray 41)) = Go.Sort.grow w os := ⟨_, by rw [Go.Sort.alloc_eq_grow, Go.Sort.alloc_eq_grow, Go.Sort.grow_grow]⟩
  obtain ⟨W2, hW, hO, hP, _, hS⟩ := laid2 w (opC (o1, o2, (o3, o4, o5), o6, o7)) 41 (opC (p1, p2, (p3, p4, p5), p6, p7)) 41
  rw [hW] at hG
  change ((w.alloc (Obj.cells #[Value.int IntKind.i64 o1, Value.int IntKind.i64 o2, Value.int IntKind.i64 o3, Value.int IntKind.i64 o4, Value.int IntKind.i64 o5, Value.int IntKind.i64 o6, Value.int IntKind.i64 o7] 41)).alloc (Obj.cells #[Value.int IntKind.i64 p1, Value.int IntKind.i64 p2, Value.int IntKind.i64 p3, Value.int IntKind.i64 p4, Value.int IntKind.i64 p5, Value.int IntKind.i64 p6, Value.int IntKind.i64 p7] 41)) = W2 at hW
  rw [hW]
  clear hW
  have y0 := hO.at 0 rfl
  have y1 := hO.at 1 rfl
  have y2 := hP.at 0 rfl
  have y3 := hP.at 1 rfl
  have HG : Hid (∃ os, W2 = Go.Sort.grow w os) := hG
  clear hG hO hP
  have n0 := World.new_ne W2 ⟨w.heap.size, 0, none⟩ y0
  have n1 := World.new_ne W2 ⟨w.heap.size, 1, none⟩ y1
  have n2 := World.new_ne W2 ⟨w.heap.size + 1, 0, none⟩ y2
  have n3 := World.new_ne W2 ⟨w.heap.size + 1, 1, none⟩ y3
  have F0 : Hid ((W2.alloc (Obj.cells #[Value.int IntKind.i64 (cmpI o1 p1), Value.int IntKind.i64 (cmpI o2 p2)] 3)).cell? ⟨w.heap.size + 2, 0, none⟩ = some (.int .i64 (cmpI o1 p1))) := by
    show World.cell? _ _ = _
    rw [← hS]; simp
  have F1 : Hid ((W2.alloc (Obj.cells #[Value.int IntKind.i64 (cmpI o1 p1), Value.int IntKind.i64 (cmpI o2 p2)] 3)).cell? ⟨w.heap.size + 2, 1, none⟩ = some (.int .i64 (cmpI o2 p2))) := by
    show World.cell? _ _ = _
    rw [← hS]; simp
  go_region_held3 (fun w' => w'.cell? ⟨w.heap.size, 0, none⟩ = some (.int .i64 o1) ∧ w'.cell? ⟨w.heap.size, 1, none⟩ = some (.int .i64 o2) ∧ w'.cell? ⟨w.heap.size + 1, 0, none⟩ = some (.int .i64 p1) ∧ w'.cell? ⟨w.heap.size + 1, 1, none⟩ = some (.int .i64 p2)) (go_keep)
    (first | (go_at_call 98; refine (compare_any _ _ _).mono ?_; rintro e w' ⟨rfl, rfl⟩) | (go_at_call 97; refine (or_any _ _ _ (cmpI o1 p1) (cmpI o2 p2) ?_ ?_).mono ?_; exact F0.out; exact F1.out; rintro e w' ⟨rfl, rfl⟩))
  go_wp2
  go_ret
  refine ⟨ret_int HE.out.symm, ?_⟩
  obtain ⟨os, hos⟩ := HG.out
  subst hos
  exact ⟨1, _, by rw [Go.Sort.alloc_eq_grow, Go.Sort.grow_grow]; rfl⟩

set_option maxHeartbeats 1000000 in
theorem cloneOps_any (w : World) (a : Option Addr) (c : Nat) (l : List Mv) (hl : l.length ≤ 1000) (h : SlE opC w a l) :
    Calls Tryz.prog 78 #[.slice a l.length c] w
      fun e w' => ∃ v, e = .returned v ∧ OwnE opC 7 41 w' w.heap.size v l ∧ Below w.heap.size w w' := by
  obtain ⟨i0, hi, hz0, hz1, hz2⟩ := info_parts infoOp
  have hq := fun (W : World) (a : Option Addr) (n c : Nat) => Lib.run_eql_slice_nil (P := Tryz.prog) W 129 41 a n c 0 0 Tryz.underlying129
  cases a with
  | none =>
    have hl0 : l = [] := by
      rcases h with h | ⟨b, off, h, _⟩
      · exact h
      · simp at h
    subst hl0
    go_enter Tryz.func78, Tryz.ntmps78
    go_wp2
    go_ret
    exact ⟨_, rfl, OwnE.nil _ _, Below.refl _ _⟩
  | some ad =>
    have hB := Go.Joins.below_alloc1 w (Obj.cells #[] 41)
    have hP := h.below hB
    have hown : (w.alloc (Obj.cells #[] 41)).ownsRow w.heap.size 41 7 (.slice (some ⟨w.heap.size, 0, none⟩) 0 0) 0 [] :=
      ⟨rfl, Or.inr ⟨w.heap.size, 0, #[], rfl, Nat.le_refl _, blk_new rfl, Nat.le_refl _, by unfold maxLen; omega, rfl, rfl⟩⟩
    have hnews : ∀ j u, (l.flatMap opC)[j]? = some u → (w.alloc (Obj.cells #[] 41)).cell? (ad.add j) = some u := by
      rcases hP with hP | ⟨b, off, ha, _, hp⟩
      · intro j u hj; subst hP; simp at hj
      · simp at ha
        subst ha
        intro j u hj
        rw [Addr.add_mid]
        exact hp j u hj
    have HN : Hid (∀ j u, (l.flatMap opC)[j]? = some u → (w.alloc (Obj.cells #[] 41)).cell? (ad.add j) = some u) := hnews
    clear hP h hnews
    go_enter Tryz.func78, Tryz.ntmps78
    go_wp2_with (at_builtin; refine wpList_append_own _ rfl _ _ 129 rfl w.heap.size 41 i0 _ 7 56 Tryz.underlying129 hi hz0 hz1 hz2 rfl (by decide) _ _ _ rfl hown ad l.length c (l.flatMap opC) rfl (flatE_len opC_len l) ?c1 ?c2 ?c3 ?c4 ?c5 ?_)
    case c1 => exact HN.out
    case c2 => exact flat_oneE opC_one l
    case c3 => unfold maxLen; omega
    case c4 => omega
    case c5 => exact hB.size
    · intro v' w1 hown' hgrow _
      have hb1 := hB.trans (below_grown hown hB.size hgrow)
      have hO : OwnE opC 7 41 w1 w.heap.size v' l := by simpa [OwnE] using hown'
      clear hgrow hown hown'
      go_wp2
      go_ret
      exact ⟨_, rfl, hO, hb1⟩
end Go.Proofs.YthlhnokgcnieeadGreatDoor

/- slices.Equal at places. -/
namespace Go.Proofs.YthlhnokgcnieeadGreatDoor
open Go.ChangeShapes Go.WideShapes Go.ChangeAt Go.RowKit
open Orangery (Pl)

def eqPl (x y : Pl) : Bool := decide (x = y)

theorem run_neq_pl (x0 x1 x2 y0 y1 y2 : Int) (w : World) :
    (binOp .neq 93 (.agg #[.int .i64 x0, .int .i64 x1, .int .i64 x2]) (.agg #[.int .i64 y0, .int .i64 y1, .int .i64 y2])).run Tryz.prog w = .ok (.bool (!eqPl (x0, x1, x2) (y0, y1, y2))) w := by
  have u3 := Tryz.underlying3
  have a3 := Tryz.isAgg3
  have z3 := Tryz.sizeOf3
  have hS : Tryz.prog.underlying 93 = some (.struct (Tryz.prog.fieldsOf 93)) := by kernel_rfl
  have hp : Tryz.prog.stoodInHeld 93 = false := by kernel_rfl
  rw [run_neq_struct, show (10000 : Nat) = 9999 + 1 from rfl, run_equalIn_agg w 9999 93 _ _ hS hp]
  simp only [Program.fieldsOf, Tryz.underlying93]
  go_simp
  by_cases h1 : x0 = y0 <;> by_cases h2 : x1 = y1 <;> by_cases h3 : x2 = y2 <;> simp [h1, h2, h3, eqPl]

theorem run_eql_pl (x0 x1 x2 y0 y1 y2 : Int) (w : World) :
    (binOp .eql 93 (.agg #[.int .i64 x0, .int .i64 x1, .int .i64 x2]) (.agg #[.int .i64 y0, .int .i64 y1, .int .i64 y2])).run Tryz.prog w = .ok (.bool (eqPl (x0, x1, x2) (y0, y1, y2))) w := by
  have u3 := Tryz.underlying3
  have a3 := Tryz.isAgg3
  have z3 := Tryz.sizeOf3
  have hS : Tryz.prog.underlying 93 = some (.struct (Tryz.prog.fieldsOf 93)) := by kernel_rfl
  have hp : Tryz.prog.stoodInHeld 93 = false := by kernel_rfl
  rw [run_eql_struct, show (10000 : Nat) = 9999 + 1 from rfl, run_equalIn_agg w 9999 93 _ _ hS hp]
  simp only [Program.fieldsOf, Tryz.underlying93]
  go_simp
  by_cases h1 : x0 = y0 <;> by_cases h2 : x1 = y1 <;> by_cases h3 : x2 = y2 <;> simp [h1, h2, h3, eqPl]

theorem guard_pl (op : BinOp) (x y : Operand) (xs ys : Array Value) (w : World) : (eqGuard op 93 x y (.agg xs) (.agg ys)).run Tryz.prog w = .ok () w :=
  run_eqGuard_agg w op 93 x y xs ys (by kernel_rfl)

def eqPls (l m : List Pl) : Bool := decide (l = m)

set_option maxHeartbeats 1000000 in
theorem equal_pls (w : World) (a a' : Option Addr) (c c' : Nat) (l m : List Pl) (hl : l.length ≤ maxLen) (h1 : SlP w a l) (h2 : SlP w a' m) :
    Calls Tryz.prog 56 #[.slice a l.length c, .slice a' m.length c'] w
      fun e w' => e = .returned (.bool (eqPls l m)) ∧ ∃ n, w' = w.drewN n := by
  have hl' : l.length ≤ 9223372036854775807 := hl
  by_cases hlen : l.length = m.length
  · have hne := run_neq_pl
    have hgd := guard_pl
    have hlen' : ((l.length : Int) != (m.length : Int)) = false := by simp [hlen]
    go_enter Tryz.func56, Tryz.ntmps56
    go_wp2
    go_loopw [13] (fun i w' => ∃ k n : Nat, k ≤ l.length ∧ i = .int .i64 k ∧ w' = w.drewN n ∧ l.take k = m.take k) (fun i _ => l.length - (intOf i).toNat)
    case atStart => exact ⟨0, 0, Nat.zero_le _, rfl, rfl, rfl⟩
    case round =>
      obtain ⟨k, n, hk, rfl, rfl, hpre⟩ := hrel
      have HP : Hid (l.take k = m.take k) := hpre
      clear hpre
      by_cases hlt : k < l.length
      · have hlt2 : k < m.length := by omega
        rcases h1 with h1 | ⟨b, off, rfl, hbl, hp⟩
        · exact absurd hlt (by simp [h1])
        rcases h2 with h2 | ⟨b', off', rfl, hbl', hp'⟩
        · exact absurd hlt2 (by simp [h2])
        obtain ⟨g0, g1, g2⟩ := hp k hlt
        obtain ⟨x0, x1, x2⟩ := hp' k hlt2
        have hlti : (k : Int) < (m.length : Int) := by omega
        go_wp2
        go_quiet (fail)
        cases hq : eqPl l[k] m[k]
        · have HQ : Hid (l[k] ≠ m[k]) := by show _ ≠ _; simpa [eqPl] using hq
          go_wp2
          go_ret
          exact ⟨ret_bool (by symm; simp only [eqPls, decide_eq_false_iff_not]; intro e; subst e; exact HQ.out rfl), n + nq, by simp⟩
        · have HQ : Hid (l[k] = m[k]) := by show _ = _; simpa [eqPl] using hq
          go_wp2
          go_roundw
          case rel => exact ⟨k + 1, _, by omega, by go_num, rfl, by rw [List.take_succ_eq_append_getElem hlt, List.take_succ_eq_append_getElem hlt2, HP.out, HQ.out]⟩
          case measure => simp [intOf]; omega
      · go_wp2
        go_ret
        refine ⟨ret_bool ?_, n, rfl⟩
        symm
        have e := HP.out
        rw [List.take_of_length_le (by omega), List.take_of_length_le (by omega)] at e
        simp [eqPls, e]
  · have hlen' : ((l.length : Int) != (m.length : Int)) = true := by simp; omega
    have HL : Hid (l.length ≠ m.length) := hlen
    clear hlen
    go_enter Tryz.func56, Tryz.ntmps56
    go_wp2
    go_ret
    exact ⟨ret_bool (by symm; simp only [eqPls, decide_eq_false_iff_not]; intro e; subst e; exact HL.out rfl), 0, rfl⟩
end Go.Proofs.YthlhnokgcnieeadGreatDoor

/- Results that lie in cells: how a call hands them back. -/
namespace Go.Proofs.YthlhnokgcnieeadGreatDoor
open Go.ChangeShapes Go.WideShapes Go.ChangeAt Go.RowKit

theorem Blk.range {w : World} {b : Nat} {vs : List Value} (h : Blk w b vs) : w.rangeAt b 0 vs := fun j v hv => by rw [Nat.zero_add]; exact h.at j hv
theorem Blk.there {w : World} {b : Nat} {vs : List Value} (h : Blk w b vs) : w.there b 0 vs.length := fun j hj =>
  ⟨by rw [Nat.zero_add, h.at j (List.getElem?_eq_getElem hj)]; rfl, by rw [Nat.zero_add]; exact h.frz j⟩

theorem Blk.load {w : World} {b : Nat} {vs : List Value} {ty : TypeId} {d : TypeDesc} (h : Blk w b vs) (hu : Tryz.prog.underlying ty = some d) (hd : d.isRow = true)
    (hi : (Tryz.prog.info? ty).map (·.size) = some vs.length) : (loadVar ty ⟨b, 0, none⟩).run Tryz.prog w = .ok (.agg vs.toArray) w :=
  run_loadVar_mid w b 0 ty vs d h.range hu hd hi

theorem ret_cell {fn : Func} {R : Ending → World → Prop} {tmps : Array Value} {W : World} {p : Tmp} {ty : TypeId} {b : Nat} {vs : List Value}
    (h : fn.results = #[.cell p ty]) (hp : tmps.getD p undef = .pointer (some ⟨b, 0, none⟩)) (hl : (loadVar ty ⟨b, 0, none⟩).run Tryz.prog W = .ok (.agg vs.toArray) W)
    (hR : R (.returned (.agg vs.toArray)) W) : bodyPost Tryz.prog fn R .ret { tmps := tmps, defers := [] } W := by
  refine bodyPost_ret ?_ rfl hR
  have hp' : tmps[p]?.getD undef = .pointer (some ⟨b, 0, none⟩) := by simpa using hp
  simp [results, h, hp', asAddr, hl]

theorem ret_cell_tmp {fn : Func} {R : Ending → World → Prop} {tmps : Array Value} {W : World} {p u : Tmp} {ty : TypeId} {b : Nat} {vs : List Value} {v : Value}
    (h : fn.results = #[.cell p ty, .tmp u]) (hp : tmps.getD p undef = .pointer (some ⟨b, 0, none⟩)) (hv : tmps.getD u undef = v) (hl : (loadVar ty ⟨b, 0, none⟩).run Tryz.prog W = .ok (.agg vs.toArray) W)
    (hR : R (.returned (.tuple #[.agg vs.toArray, v])) W) : bodyPost Tryz.prog fn R .ret { tmps := tmps, defers := [] } W := by
  refine bodyPost_ret ?_ rfl hR
  have hp' : tmps[p]?.getD undef = .pointer (some ⟨b, 0, none⟩) := by simpa using hp
  have hv' : tmps[u]?.getD undef = v := by simpa using hv
  simp [results, h, hp', hv', asAddr, hl]

theorem ret_tmp_cell {fn : Func} {R : Ending → World → Prop} {tmps : Array Value} {W : World} {p u : Tmp} {ty : TypeId} {b : Nat} {vs : List Value} {v : Value}
    (h : fn.results = #[.tmp u, .cell p ty]) (hp : tmps.getD p undef = .pointer (some ⟨b, 0, none⟩)) (hv : tmps.getD u undef = v) (hl : (loadVar ty ⟨b, 0, none⟩).run Tryz.prog W = .ok (.agg vs.toArray) W)
    (hR : R (.returned (.tuple #[v, .agg vs.toArray])) W) : bodyPost Tryz.prog fn R .ret { tmps := tmps, defers := [] } W := by
  refine bodyPost_ret ?_ rfl hR
  have hp' : tmps[p]?.getD undef = .pointer (some ⟨b, 0, none⟩) := by simpa using hp
  have hv' : tmps[u]?.getD undef = v := by simpa using hv
  simp [results, h, hp', hv', asAddr, hl]

theorem ret_cell_cell_tmp {fn : Func} {R : Ending → World → Prop} {tmps : Array Value} {W : World} {p q u : Tmp} {ty tz : TypeId} {b b' : Nat} {vs us : List Value} {v : Value}
    (h : fn.results = #[.cell p ty, .cell q tz, .tmp u]) (hp : tmps.getD p undef = .pointer (some ⟨b, 0, none⟩)) (hq : tmps.getD q undef = .pointer (some ⟨b', 0, none⟩)) (hv : tmps.getD u undef = v)
    (hl : (loadVar ty ⟨b, 0, none⟩).run Tryz.prog W = .ok (.agg vs.toArray) W) (hm : (loadVar tz ⟨b', 0, none⟩).run Tryz.prog W = .ok (.agg us.toArray) W)
    (hR : R (.returned (.tuple #[.agg vs.toArray, .agg us.toArray, v])) W) : bodyPost Tryz.prog fn R .ret { tmps := tmps, defers := [] } W := by
  refine bodyPost_ret ?_ rfl hR
  have hp' : tmps[p]?.getD undef = .pointer (some ⟨b, 0, none⟩) := by simpa using hp
  have hq' : tmps[q]?.getD undef = .pointer (some ⟨b', 0, none⟩) := by simpa using hq
  have hv' : tmps[u]?.getD undef = v := by simpa using hv
  simp [results, h, hp', hq', hv', asAddr, hl, hm]

theorem sizeTree : (Tryz.prog.info? 26).map (·.size) = some 1 := by kernel_rfl
theorem sizeStep : (Tryz.prog.info? 95).map (·.size) = some 11 := by kernel_rfl
theorem sizeOp : (Tryz.prog.info? 41).map (·.size) = some 7 := by kernel_rfl
theorem Blk.tree {w : World} {b : Nat} {v : Value} (h : Blk w b [v]) : (loadVar 26 ⟨b, 0, none⟩).run Tryz.prog w = .ok (.agg [v].toArray) w := h.load Tryz.underlying26 rfl sizeTree
end Go.Proofs.YthlhnokgcnieeadGreatDoor

/- slices.Equal at steps; history.Same, orangeryref.SameHistory; history.operations, orangeryref.OpsOf, orangeryref.rank. -/
namespace Go.Proofs.YthlhnokgcnieeadGreatDoor
open Go.ChangeShapes Go.WideShapes Go.ChangeAt Go.RowKit
open Orangery (Pl Mv Stp eqSts sameB rk)

theorem below_drewN_any (B : Nat) (w : World) (n : Nat) : Below B w (w.drewN n) := ⟨rfl, rfl, rfl, Nat.le_refl _, fun _ _ => rfl⟩

theorem eqSts_no {l m : List Stp} (h : l ≠ m) : eqSts l m = false := by
  cases hq : eqSts l m
  · rfl
  · exact absurd ((Orangery.eqSts_iff l m).1 hq) h
theorem eqSts_yes {l m : List Stp} (h : l = m) : eqSts l m = true := (Orangery.eqSts_iff l m).2 h

theorem ne_stp {s t : Stp} (hq : decide (s = t) = false) : s ≠ t := by simpa using hq
theorem eq_stp {s t : Stp} (hq : decide (s = t) = true) : s = t := by simpa using hq

set_option maxHeartbeats 1000000 in
theorem equal_sts (w : World) (a a' : Option Addr) (c c' : Nat) (l m : List Stp) (hl : l.length ≤ maxLen) (h1 : SlE stC w a l) (h2 : SlE stC w a' m) :
    Calls Tryz.prog 55 #[.slice a l.length c, .slice a' m.length c'] w
      fun e w' => e = .returned (.bool (eqSts l m)) ∧ ∃ n, w' = w.drewN n := by
  have hl' : l.length ≤ 9223372036854775807 := hl
  by_cases hlen : l.length = m.length
  · have hne := run_neq_stepg
    have hgd := guard_step
    have hlen' : ((l.length : Int) != (m.length : Int)) = false := by simp [hlen]
    go_enter Tryz.func55, Tryz.ntmps55
    go_wp2
    go_loopw [13] (fun i w' => ∃ k n : Nat, k ≤ l.length ∧ i = .int .i64 k ∧ w' = w.drewN n ∧ l.take k = m.take k) (fun i _ => l.length - (intOf i).toNat)
    case atStart => exact ⟨0, 0, Nat.zero_le _, rfl, rfl, rfl⟩
    case round =>
      obtain ⟨k, n, hk, rfl, rfl, hpre⟩ := hrel
      have HP : Hid (l.take k = m.take k) := hpre
      clear hpre
      by_cases hlt : k < l.length
      · have hlt2 : k < m.length := by omega
        obtain ⟨b, off, rfl, hbl, hr⟩ := h1.at stC_len k hlt
        obtain ⟨b', off', rfl, hbl', hr'⟩ := h2.at stC_len k hlt2
        obtain ⟨g0, g1, g2, g3, g4, g5, g6, g7, g8, g9, g10⟩ := st_cells hr
        obtain ⟨x0, x1, x2, x3, x4, x5, x6, x7, x8, x9, x10⟩ := st_cells hr'
        have hlti : (k : Int) < (m.length : Int) := by omega
        have HT1 : Hid (l.take (k + 1) = l.take k ++ [l[k]]) := List.take_succ_eq_append_getElem hlt
        have HT2 : Hid (m.take (k + 1) = m.take k ++ [m[k]]) := List.take_succ_eq_append_getElem hlt2
        have HG : Hid (l = m → l[k] = m[k]) := fun e => by subst e; rfl
        clear hr hr'
        generalize l[k] = s at *
        generalize m[k] = t at *
        go_wp2
        go_quiet (fail)
        cases hq : decide (s = t)
        · have HQ : Hid (s ≠ t) := ne_stp hq
          go_wp2
          go_ret
          exact ⟨ret_bool ((eqSts_no (fun e => HQ.out (HG.out e))).symm), n + nq, by simp⟩
        · have HQ : Hid (s = t) := eq_stp hq
          go_wp2
          go_roundw
          case rel => exact ⟨k + 1, _, by omega, by go_num, rfl, by rw [HT1.out, HT2.out, HP.out, HQ.out]⟩
          case measure => simp [intOf]; omega
      · go_wp2
        go_ret
        refine ⟨ret_bool ?_, n, rfl⟩
        have e := HP.out
        rw [List.take_of_length_le (by omega), List.take_of_length_le (by omega)] at e
        exact (eqSts_yes e).symm
  · have hlen' : ((l.length : Int) != (m.length : Int)) = true := by simp; omega
    have HL : Hid (l.length ≠ m.length) := hlen
    clear hlen
    go_enter Tryz.func55, Tryz.ntmps55
    go_wp2
    go_ret
    exact ⟨ret_bool ((eqSts_no (by intro e; subst e; exact HL.out rfl)).symm), 0, rfl⟩

set_option maxHeartbeats 1000000 in
theorem same_any (w : World) (a a' p p' : Option Addr) (c c' d d' : Nat) (l m : List Stp) (t u : List Pl) (hl : l.length ≤ maxLen) (ht : t.length ≤ maxLen) (h1 : SlE stC w a l) (h2 : SlE stC w a' m) (h3 : SlP w p t) (h4 : SlP w p' u) :
    Calls Tryz.prog 33 #[hiV (.slice a l.length c) (.slice p t.length d), hiV (.slice a' m.length c') (.slice p' u.length d')] w
      fun e w' => e = .returned (.bool (sameB l m t u)) ∧ Below w.heap.size w w' := by
  have HS : Hid (sameB l m t u = (eqSts l m && eqPls t u)) := rfl
  go_enter Tryz.func33, Tryz.ntmps33
  go_wp2_with fail
  obtain ⟨W0, hW, hA, hC, hB, _⟩ := laid2 w [Value.slice a l.length c, Value.slice p t.length d] 28 [Value.slice a' m.length c', Value.slice p' u.length d'] 28
  rw [hW]
  clear hW
  refine (equal_sts W0 a a' c c' l m hl (h1.below hB) (h2.below hB)).mono ?_
  rintro e w1 ⟨rfl, n, rfl⟩
  have hb1 : Below W0.heap.size W0 (W0.drewN n) := below_drewN_any _ _ _
  have hA1 := hA.keep hb1
  have hC1 := hC.keep hb1
  have hP1 := (h3.below hB).below hb1
  have hP2 := (h4.below hB).below hb1
  have HB1 : Hid (Below w.heap.size w (W0.drewN n)) := hB.trans (hb1.mono hB.size)
  clear hA hC hB hb1 h1 h2 h3 h4
  generalize W0.drewN n = W1 at *
  have x1 := hA1.at 1 rfl
  have y1 := hC1.at 1 rfl
  cases hq : eqSts l m
  · go_wp2
    go_ret
    exact ⟨ret_bool (by rw [HS.out, hq]; rfl), HB1.out⟩
  · go_wp2_with fail
    refine (equal_pls W1 p p' d d' t u ht hP1 hP2).mono ?_
    rintro e w2 ⟨rfl, n2, rfl⟩
    have HB2 : Hid (Below w.heap.size w (W1.drewN n2)) := HB1.out.trans (below_drewN_any _ _ _)
    generalize W1.drewN n2 = W2 at *
    go_wp2
    go_ret
    exact ⟨ret_bool (by rw [HS.out, hq]; rfl), HB2.out⟩

end Go.Proofs.YthlhnokgcnieeadGreatDoor

/- orangeryref.chain: a node, its parent, and so on; orangeryref.IsUnder. -/
namespace Go.Proofs.YthlhnokgcnieeadGreatDoor
open Go.ChangeShapes Go.WideShapes Go.ChangeAt Go.RowKit
open Orangery (Pl find isNodeB inRangeB meetsN scan ringAt check idxF chain chainN hasB outOk)

theorem infoInt : (Tryz.prog.info? 3).map (fun i => (i.zero, i.size, i.bytes)) = some (some (.int .i64 0), 1, 8) := by kernel_rfl

end Go.Proofs.YthlhnokgcnieeadGreatDoor

/- Slices of ints that a call reads; slices.Equal, slices.Clone, slices.Contains at them. -/
namespace Go.Proofs.YthlhnokgcnieeadGreatDoor
open Go.ChangeShapes Go.WideShapes Go.ChangeAt Go.RowKit
open Orangery (hasB)

/-- a slice's address holds these ints -/
def SlI (w : World) (a : Option Addr) (l : List Int) : Prop :=
  l = [] ∨ ∃ b off, a = some ⟨b, off, none⟩ ∧ b < w.heap.size ∧ IntsAt w b off l

theorem SlI.below {w w' : World} {a : Option Addr} {l : List Int} (h : SlI w a l) (hb : Below w.heap.size w w') : SlI w' a l := by
  rcases h with h | ⟨b, off, ha, hlt, hp⟩
  · exact Or.inl h
  · exact Or.inr ⟨b, off, ha, Nat.lt_of_lt_of_le hlt hb.size, fun i hi => by rw [hb.cell hlt]; exact hp i hi⟩
theorem SlI.nil {w : World} {a : Option Addr} : SlI w a [] := Or.inl rfl
theorem SlI.at {w : World} {a : Option Addr} {l : List Int} (h : SlI w a l) (k : Nat) (hk : k < l.length) : ∃ b off, a = some ⟨b, off, none⟩ ∧ b < w.heap.size ∧ w.cell? ⟨b, off + k, none⟩ = some (.int .i64 l[k]) := by
  rcases h with h | ⟨b, off, ha, hlt, hp⟩
  · exact absurd hk (by simp [h])
  · exact ⟨b, off, ha, hlt, hp k hk⟩
theorem SlI.take {w : World} {a : Option Addr} {l : List Int} (h : SlI w a l) (n : Nat) : SlI w a (l.take n) := by
  rcases h with h | ⟨b, off, ha, hlt, hp⟩
  · exact Or.inl (by simp [h])
  · exact Or.inr ⟨b, off, ha, hlt, fun i hi => by rw [List.getElem_take]; exact hp i (by simp at hi; omega)⟩
theorem SlI.news {w : World} {ad : Addr} {l : List Int} (h : SlI w (some ad) l) : ∀ j u, (l.map (Value.int .i64))[j]? = some u → w.cell? (ad.add j) = some u := by
  intro j u hj
  rcases h with rfl | ⟨b, off, ha, _, hp⟩
  · simp at hj
  · simp at ha
    subst ha
    rw [Addr.add_mid]
    have hlt : j < l.length := by
      have := (List.getElem?_eq_some_iff.1 hj).1
      simpa using this
    rw [List.getElem?_map, List.getElem?_eq_getElem hlt] at hj
    simp at hj
    rw [hp j hlt, hj]
theorem SlI.none_nil {w : World} {l : List Int} (h : SlI w none l) : l = [] := by
  rcases h with rfl | ⟨b, off, h, _⟩
  · rfl
  · simp at h

/-- a row of ints of the call's own -/
def OwnI (w : World) (base : Nat) (v : Value) (l : List Int) : Prop := w.ownsRow base 3 1 v l.length (l.map (Value.int .i64))
theorem OwnI.val {w : World} {base : Nat} {v : Value} {l : List Int} (h : OwnI w base v l) : ∃ a cap, v = .slice a l.length cap ∧ SlI w a l := by
  obtain ⟨_, h2⟩ := own_ints h
  rcases h2 with ⟨rfl, h2⟩ | ⟨g, cap, h3, _, h4, h5⟩
  · have : l = [] := List.length_eq_zero_iff.1 h2
    subst this
    exact ⟨none, 0, rfl, Or.inl rfl⟩
  · exact ⟨_, cap, h3, Or.inr ⟨g, 0, rfl, h4, h5⟩⟩
theorem OwnI.keep {w w' : World} {base : Nat} {v : Value} {l : List Int} (h : OwnI w base v l) (hb : Below w.heap.size w w') : OwnI w' base v l := own_below h hb

theorem OwnI.other {w : World} {base : Nat} {v : Value} {l : List Int} (h : OwnI w base v l) (g : Nat) (hg : g < base) (j : Nat) (u : Value) : OwnI (w.setCell ⟨g, j, none⟩ u) base v l := ownsRow_setCell_below h (a := ⟨g, j, none⟩) hg u
theorem OwnI.others {base : Nat} {v : Value} {l : List Int} (g : Nat) (hg : g < base) : ∀ (us : List Value) (o : Nat) (w : World), OwnI w base v l → OwnI (w.setCells g o us) base v l
  | [], _, _, h => h
  | u :: us, o, _, h => OwnI.others g hg us (o + 1) _ (h.other g hg o u)
theorem OwnI.reads {W : World} {base : Nat} {a : Option Addr} {n c : Nat} {l : List Int} (h : OwnI W base (.slice a n c) l) : SlI W a l := by
  obtain ⟨a', c', e, h1⟩ := h.val
  obtain ⟨rfl, _, _⟩ : a = a' ∧ n = l.length ∧ c = c' := by simpa using e
  exact h1

theorem map_one (l : List Int) : ∀ v ∈ l.map (Value.int .i64), v.oneCell' = true := by
  intro v hv
  simp at hv
  obtain ⟨x, _, rfl⟩ := hv
  rfl

def eqIs (l m : List Int) : Bool := decide (l = m)
theorem eqIs_no {l m : List Int} (h : l ≠ m) : eqIs l m = false := by simpa [eqIs] using h
theorem eqIs_yes {l m : List Int} (h : l = m) : eqIs l m = true := by simpa [eqIs] using h

set_option maxHeartbeats 1000000 in
theorem equal_is (w : World) (a a' : Option Addr) (c c' : Nat) (l m : List Int) (hl : l.length ≤ maxLen) (h1 : SlI w a l) (h2 : SlI w a' m) :
    Calls Tryz.prog 32 #[.slice a l.length c, .slice a' m.length c'] w
      fun e w' => e = .returned (.bool (eqIs l m)) ∧ ∃ n, w' = w.drewN n := by
  have hl' : l.length ≤ 9223372036854775807 := hl
  by_cases hlen : l.length = m.length
  · have hlen' : ((l.length : Int) != (m.length : Int)) = false := by simp [hlen]
    go_enter Tryz.func32, Tryz.ntmps32
    go_wp2
    go_loopw [13] (fun i w' => ∃ k n : Nat, k ≤ l.length ∧ i = .int .i64 k ∧ w' = w.drewN n ∧ l.take k = m.take k) (fun i _ => l.length - (intOf i).toNat)
    case atStart => exact ⟨0, 0, Nat.zero_le _, rfl, rfl, rfl⟩
    case round =>
      obtain ⟨k, n, hk, rfl, rfl, hpre⟩ := hrel
      have HP : Hid (l.take k = m.take k) := hpre
      clear hpre
      by_cases hlt : k < l.length
      · have hlt2 : k < m.length := by omega
        obtain ⟨b, off, rfl, hbl, g0⟩ := h1.at k hlt
        obtain ⟨b', off', rfl, hbl', x0⟩ := h2.at k hlt2
        have hlti : (k : Int) < (m.length : Int) := by omega
        have HT1 : Hid (l.take (k + 1) = l.take k ++ [l[k]]) := List.take_succ_eq_append_getElem hlt
        have HT2 : Hid (m.take (k + 1) = m.take k ++ [m[k]]) := List.take_succ_eq_append_getElem hlt2
        have HG : Hid (l = m → l[k] = m[k]) := fun e => by subst e; rfl
        generalize l[k] = s at *
        generalize m[k] = t at *
        by_cases hq : s = t
        · have hq' : (s != t) = false := by simp [hq]
          have HQ : Hid (s = t) := hq
          clear hq
          go_wp2
          go_quiet (fail)
          go_wp2
          go_roundw
          case rel => exact ⟨k + 1, _, by omega, by go_num, rfl, by rw [HT1.out, HT2.out, HP.out, HQ.out]⟩
          case measure => simp [intOf]; omega
        · have hq' : (s != t) = true := by simp [hq]
          have HQ : Hid (s ≠ t) := hq
          clear hq
          go_wp2
          go_quiet (fail)
          go_wp2
          go_ret
          exact ⟨ret_bool ((eqIs_no (fun e => HQ.out (HG.out e))).symm), n + nq, by simp⟩
      · go_wp2
        go_ret
        refine ⟨ret_bool ?_, n, rfl⟩
        have e := HP.out
        rw [List.take_of_length_le (by omega), List.take_of_length_le (by omega)] at e
        exact (eqIs_yes e).symm
  · have hlen' : ((l.length : Int) != (m.length : Int)) = true := by simp; omega
    have HL : Hid (l.length ≠ m.length) := hlen
    clear hlen
    go_enter Tryz.func32, Tryz.ntmps32
    go_wp2
    go_ret
    exact ⟨ret_bool ((eqIs_no (by intro e; subst e; exact HL.out rfl)).symm), 0, rfl⟩

set_option maxHeartbeats 1000000 in
theorem cloneInts_any (w : World) (a : Option Addr) (c : Nat) (l : List Int) (hl : l.length ≤ 1000) (h : SlI w a l) :
    Calls Tryz.prog 44 #[.slice a l.length c] w
      fun e w' => ∃ v, e = .returned v ∧ OwnI w' w.heap.size v l ∧ Below w.heap.size w w' := by
  obtain ⟨i0, hi, hz0, hz1, hz2⟩ := info_parts infoInt
  have hq := fun (W : World) (a : Option Addr) (n c : Nat) => Lib.run_eql_slice_nil (P := Tryz.prog) W 37 3 a n c 0 0 Tryz.underlying37
  cases a with
  | none =>
    have hl0 := h.none_nil
    subst hl0
    go_enter Tryz.func44, Tryz.ntmps44
    go_wp2
    go_ret
    exact ⟨_, rfl, World.ownsRow_nil _ _ _ _, Below.refl _ _⟩
  | some ad =>
    have hB := Go.Joins.below_alloc1 w (Obj.cells #[] 3)
    have hown : (w.alloc (Obj.cells #[] 3)).ownsRow w.heap.size 3 1 (.slice (some ⟨w.heap.size, 0, none⟩) 0 0) 0 [] :=
      ⟨rfl, Or.inr ⟨w.heap.size, 0, #[], rfl, Nat.le_refl _, blk_new rfl, Nat.le_refl _, by unfold maxLen; omega, rfl, rfl⟩⟩
    have HN : Hid (∀ j u, (l.map (Value.int .i64))[j]? = some u → (w.alloc (Obj.cells #[] 3)).cell? (ad.add j) = some u) := (h.below hB).news
    clear h
    go_enter Tryz.func44, Tryz.ntmps44
    go_wp2_with (at_builtin; refine wpList_append_own _ rfl _ _ 37 rfl w.heap.size 3 i0 _ 1 8 Tryz.underlying37 hi hz0 hz1 hz2 rfl (by decide) _ _ _ rfl hown ad l.length c (l.map (Value.int .i64)) rfl (by simp) ?c1 ?c2 ?c3 ?c4 ?c5 ?_)
    case c1 => exact HN.out
    case c2 => exact map_one l
    case c3 => unfold maxLen; omega
    case c4 => omega
    case c5 => exact hB.size
    · intro v' w1 hown' hgrow _
      have hb1 := hB.trans (below_grown hown hB.size hgrow)
      have hO : OwnI w1 w.heap.size v' l := by simpa [OwnI] using hown'
      clear hgrow hown hown'
      go_wp2
      go_ret
      exact ⟨_, rfl, hO, hb1⟩
end Go.Proofs.YthlhnokgcnieeadGreatDoor

/- Plain facts on views: what is known, what is the way up, and that a view of a view is the same. -/
namespace Orangery

/-- a node that is one of the roots, or below one -/
def knB (l : List Pl) (roots : List Int) (n : Int) : Bool := roots.any fun r => underB l n r
/-- another one, above a root -/
def wyB (l : List Pl) (roots : List Int) (n : Int) : Bool := !knB l roots n && roots.any fun r => underB l r n
def viewK (l : List Pl) (roots : List Int) : List Pl := l.filter fun p => knB l roots p.1
def viewW (l : List Pl) (roots : List Int) : List Pl := l.filter fun p => wyB l roots p.1
/-- both -/
def seenB (l : List Pl) (roots : List Int) (n : Int) : Bool := knB l roots n || wyB l roots n
def viewA (l : List Pl) (roots : List Int) : List Pl := l.filter fun p => seenB l roots p.1

/-- roots that may be -/
def rootsE : Int → List Int → Int
  | _, [] => 0
  | a, n :: l => if isNodeB n = false then 5 else if n ≤ a then 6 else rootsE n l
def rootsOk (l : List Int) : Int := if 4 < l.length then 2 else rootsE (-1) l

theorem rootsE_step (l : List Int) (k : Nat) (a : Int) (h : k < l.length) (hs : rootsE a (l.drop k) = rootsE (-1) l) :
    (isNodeB l[k] = false → rootsE (-1) l = 5) ∧ (isNodeB l[k] = true → l[k] ≤ a → rootsE (-1) l = 6) ∧ (isNodeB l[k] = true → ¬ l[k] ≤ a → rootsE l[k] (l.drop (k + 1)) = rootsE (-1) l) := by
  rw [List.drop_eq_getElem_cons h] at hs
  have e : rootsE a (l[k] :: l.drop (k + 1)) = if isNodeB l[k] = false then 5 else if l[k] ≤ a then 6 else rootsE l[k] (l.drop (k + 1)) := rfl
  rw [e] at hs
  refine ⟨fun h1 => ?_, fun h1 h2 => ?_, fun h1 h2 => ?_⟩
  · rw [if_pos h1] at hs; exact hs.symm
  · rw [if_neg (by simp [h1]), if_pos h2] at hs; exact hs.symm
  · rw [if_neg (by simp [h1]), if_neg h2] at hs; exact hs

theorem rootsE_node (l : List Int) : ∀ a, rootsE a l = 0 → (∀ r ∈ l, isNodeB r = true ∧ a < r) ∧ l.Pairwise (· < ·) := by
  induction l with
  | nil => intro a _; exact ⟨by simp, List.Pairwise.nil⟩
  | cons n l ih =>
    intro a h
    unfold rootsE at h
    split at h
    · omega
    · split at h
      · omega
      · rename_i h1 h2
        obtain ⟨h3, h4⟩ := ih n h
        refine ⟨?_, List.pairwise_cons.2 ⟨fun r hr => (h3 r hr).2, h4⟩⟩
        intro r hr
        simp at hr h1
        rcases hr with rfl | hr
        · exact ⟨h1, by omega⟩
        · exact ⟨(h3 r hr).1, by have := (h3 r hr).2; omega⟩
theorem rootsOk_node {l : List Int} (h : rootsOk l = 0) : ∀ r ∈ l, isNodeB r = true := by
  unfold rootsOk at h
  split at h
  · omega
  · exact fun r hr => ((rootsE_node l _ h).1 r hr).1
theorem rootsOk_len {l : List Int} (h : rootsOk l = 0) : l.length ≤ 4 := by
  unfold rootsOk at h
  split at h
  · omega
  · omega

/-- places of some nodes alone -/
theorem find_g (g : Int → Bool) (l : List Pl) (n : Int) : find (l.filter fun p => g p.1) n = if g n = true then find l n else (0, 0, 0) := by
  cases h : g n
  · rw [if_neg (by simp)]
    refine find_zero _ _ ?_
    intro q hq e
    have : g q.1 = true := (List.mem_filter.1 hq).2
    rw [e, h] at this
    simp at this
  · rw [if_pos rfl]
    exact find_filter _ l n (fun q _ e => by rw [e]; exact h)

theorem up_g1 (g : Int → Bool) (l : List Pl) (k : Nat) : ∀ a b, upN (l.filter fun p => g p.1) k a = some b → upN l k a = some b := by
  induction k with
  | zero => intro a b h; exact h
  | succ k ih =>
    intro a b h
    rw [upN, find_g] at h
    rw [upN]
    cases hg : g a
    · rw [hg] at h; simp at h
    · rw [hg] at h
      simp only [if_true] at h
      split at h
      · simp at h
      · rename_i hz
        rw [if_neg hz]
        exact ih _ _ h

theorem up_g2 (g : Int → Bool) (l : List Pl) (k : Nat) : ∀ a b, upN l k a = some b → (∀ i, i < k → ∀ c, upN l i a = some c → g c = true) → upN (l.filter fun p => g p.1) k a = some b := by
  induction k with
  | zero => intro a b h _; exact h
  | succ k ih =>
    intro a b h hg
    have h0 : g a = true := hg 0 (by omega) a rfl
    rw [upN, find_g, h0]
    simp only [if_true]
    rw [upN] at h
    split at h
    · simp at h
    · rename_i hz
      rw [if_neg hz]
      exact ih _ _ h (fun i hi c hc => hg (i + 1) (by omega) c (by rw [upN, if_neg hz]; exact hc))

theorem check_g (g : Int → Bool) (l : List Pl) (h : check l = 0) : check (l.filter fun p => g p.1) = 0 := by
  rw [check_iff] at h ⊢
  obtain ⟨h1, h2, h3⟩ := h
  exact ⟨fun p hp => h1 p (List.mem_filter.1 hp).1, h2.filter _, fun a j hj => h3 a j (up_g1 g l _ _ _ hj)⟩

theorem up_node (l : List Pl) (h : check l = 0) (k : Nat) : ∀ a b, isNodeB a = true → upN l k a = some b → isNodeB b = true := by
  induction k with
  | zero => intro a b ha hb; simp [upN] at hb; subst hb; exact ha
  | succ k ih =>
    intro a b ha hb
    rw [upN] at hb
    split at hb
    · simp at hb
    · rename_i hz
      obtain ⟨hm, _⟩ := find_mem l a hz
      exact ih _ _ (mem_node l h _ hm).2.1 hb

theorem kn_iff (l : List Pl) (roots : List Int) (h : check l = 0) (hr : ∀ r ∈ roots, isNodeB r = true) (n : Int) (hn : isNodeB n = true) : knB l roots n = true ↔ ∃ r ∈ roots, ∃ j, upN l j n = some r := by
  unfold knB
  rw [List.any_eq_true]
  constructor
  · rintro ⟨r, hm, hu⟩; exact ⟨r, hm, (under_iff l n r h hn (hr r hm)).1 hu⟩
  · rintro ⟨r, hm, hu⟩; exact ⟨r, hm, (under_iff l n r h hn (hr r hm)).2 hu⟩
theorem wy_iff (l : List Pl) (roots : List Int) (h : check l = 0) (hr : ∀ r ∈ roots, isNodeB r = true) (n : Int) (hn : isNodeB n = true) : wyB l roots n = true ↔ knB l roots n = false ∧ ∃ r ∈ roots, ∃ j, upN l j r = some n := by
  unfold wyB
  rw [Bool.and_eq_true, List.any_eq_true]
  have e : (!knB l roots n) = true ↔ knB l roots n = false := by simp
  rw [e]
  constructor
  · rintro ⟨h1, r, hm, hu⟩; exact ⟨h1, r, hm, (under_iff l r n h (hr r hm) hn).1 hu⟩
  · rintro ⟨h1, r, hm, hu⟩; exact ⟨h1, r, hm, (under_iff l r n h (hr r hm) hn).2 hu⟩

theorem kn_again (l : List Pl) (roots : List Int) (h : check l = 0) (hr : ∀ r ∈ roots, isNodeB r = true) (n : Int) (hn : isNodeB n = true) : knB (viewA l roots) roots n = knB l roots n := by
  have hc : check (viewA l roots) = 0 := check_g (seenB l roots) l h
  rw [Bool.eq_iff_iff, kn_iff _ roots hc hr n hn, kn_iff l roots h hr n hn]
  constructor
  · rintro ⟨r, hm, j, hj⟩; exact ⟨r, hm, j, up_g1 (seenB l roots) l _ _ _ hj⟩
  · rintro ⟨r, hm, j, hj⟩
    refine ⟨r, hm, j, up_g2 (seenB l roots) l _ _ _ hj ?_⟩
    intro i hi c hc'
    have : knB l roots c = true := (kn_iff l roots h hr c (up_node l h i n c hn hc')).2 ⟨r, hm, j - i, by
      have := upN_add l i (j - i) n
      rw [show i + (j - i) = j by omega, hj, hc'] at this
      exact this.symm⟩
    unfold seenB
    rw [this]
    rfl

theorem wy_again (l : List Pl) (roots : List Int) (h : check l = 0) (hr : ∀ r ∈ roots, isNodeB r = true) (n : Int) (hn : isNodeB n = true) : wyB (viewA l roots) roots n = wyB l roots n := by
  have hc : check (viewA l roots) = 0 := check_g (seenB l roots) l h
  rw [Bool.eq_iff_iff, wy_iff _ roots hc hr n hn, wy_iff l roots h hr n hn, kn_again l roots h hr n hn]
  constructor
  · rintro ⟨h1, r, hm, j, hj⟩; exact ⟨h1, r, hm, j, up_g1 (seenB l roots) l _ _ _ hj⟩
  · rintro ⟨h1, r, hm, j, hj⟩
    refine ⟨h1, r, hm, j, up_g2 (seenB l roots) l _ _ _ hj ?_⟩
    intro i hi c hc'
    have hcn := up_node l h i r c (hr r hm) hc'
    unfold seenB
    cases hk : knB l roots c
    · rw [(wy_iff l roots h hr c hcn).2 ⟨hk, r, hm, i, hc'⟩]; rfl
    · rfl

/-- a view of a view is the same -/
theorem view_again (l : List Pl) (roots : List Int) (h : check l = 0) (hr : ∀ r ∈ roots, isNodeB r = true) :
    check (viewA l roots) = 0 ∧ viewK (viewA l roots) roots = viewK l roots ∧ viewW (viewA l roots) roots = viewW l roots := by
  refine ⟨check_g (seenB l roots) l h, ?_, ?_⟩
  · unfold viewK
    conv => lhs; arg 2; unfold viewA
    rw [List.filter_filter]
    apply List.filter_congr
    intro p hp
    rw [kn_again l roots h hr p.1 (mem_node l h p hp).1]
    unfold seenB
    cases knB l roots p.1 <;> simp
  · unfold viewW
    conv => lhs; arg 2; unfold viewA
    rw [List.filter_filter]
    apply List.filter_congr
    intro p hp
    rw [wy_again l roots h hr p.1 (mem_node l h p hp).1]
    unfold seenB
    cases wyB l roots p.1 <;> simp

/-- what is known and what is the way are apart -/
theorem view_apart (l : List Pl) (roots : List Int) (n : Int) (h : knB l roots n = true) : wyB l roots n = false := by
  unfold wyB
  rw [h]
  rfl
theorem view_perm (l : List Pl) (roots : List Int) : (viewK l roots ++ viewW l roots).Perm (viewA l roots) := by
  exact filter_or _ _ (fun p hp => view_apart l roots p.1 hp) l

/-- who is known, or a root, has all their kids known -/
theorem view_kids (l : List Pl) (roots : List Int) (h : check l = 0) (hr : ∀ r ∈ roots, isNodeB r = true) (p : Pl) (hp : p ∈ l) (hk : knB l roots p.2.1 = true) : knB l roots p.1 = true := by
  obtain ⟨h1, h2, h3, _⟩ := mem_node l h p hp
  obtain ⟨r, hm, j, hj⟩ := (kn_iff l roots h hr _ h2).1 hk
  refine (kn_iff l roots h hr _ h1).2 ⟨r, hm, j + 1, ?_⟩
  have hz : p.1 ≠ 0 := by have := (scan_range l 0 (check_scan l h) p hp).2; omega
  rw [upN, h3, if_neg hz]
  exact hj
theorem root_known (l : List Pl) (roots : List Int) (h : check l = 0) (r : Int) (hr : isNodeB r = true) (hm : r ∈ roots) : knB l roots r = true := by
  unfold knB
  rw [List.any_eq_true]
  exact ⟨r, hm, under_refl l r h hr⟩

/-- with more roots no less is known -/
theorem view_more (l : List Pl) (roots more : List Int) (hs : ∀ r ∈ roots, r ∈ more) (n : Int) (h : knB l roots n = true) : knB l more n = true := by
  unfold knB at *
  rw [List.any_eq_true] at *
  obtain ⟨r, hm, hu⟩ := h
  exact ⟨r, hs r hm, hu⟩

/-- the reference's way to reckon it: on chains -/
theorem kn_chain (l : List Pl) (roots : List Int) (h : check l = 0) (hr : ∀ r ∈ roots, isNodeB r = true) (n : Int) (hn : isNodeB n = true) : knB l roots n = (chain l n).any fun m => hasB m roots := by
  rw [Bool.eq_iff_iff]
  unfold knB
  rw [List.any_eq_true, List.any_eq_true]
  constructor
  · rintro ⟨r, hm, hu⟩
    rw [under_eq l n r h hn (hr r hm)] at hu
    exact ⟨r, by simpa [hasB] using hu, by simpa [hasB] using hm⟩
  · rintro ⟨m, hm, hu⟩
    have hm' : m ∈ roots := by simpa [hasB] using hu
    exact ⟨m, hm', by rw [under_eq l n m h hn (hr m hm')]; simpa [hasB] using hm⟩

theorem chain_head (l : List Pl) (r : Int) (h : check l = 0) (hr : isNodeB r = true) : ∃ t, chain l r = r :: t ∧ r ∉ t := by
  rw [isNodeB_iff] at hr
  obtain ⟨m, ⟨hok, hi, _⟩, _⟩ := chain_inv l r (scan_up (check_scan l h)) hr.1 hr.2
  have hpos := hok.2.2
  have h0 := hi 0 (by omega)
  cases hc : chain l r with
  | nil => rw [hc] at hpos; simp at hpos
  | cons x t =>
    have e : x = r := by
      have : upN l 0 r = some (chain l r)[0] := h0
      simp only [hc, List.getElem_cons_zero, upN] at this
      exact (Option.some.inj this).symm
    subst e
    refine ⟨t, rfl, ?_⟩
    have := hok.1
    rw [hc] at this
    exact (List.nodup_cons.1 this).1

theorem wy_chain (l : List Pl) (roots : List Int) (h : check l = 0) (hr : ∀ r ∈ roots, isNodeB r = true) (n : Int) (hn : isNodeB n = true) (hk : knB l roots n = false) :
    wyB l roots n = roots.any fun r => hasB n ((chain l r).drop 1) := by
  unfold wyB
  rw [hk, Bool.eq_iff_iff]
  simp only [Bool.not_false, Bool.true_and]
  rw [List.any_eq_true, List.any_eq_true]
  constructor
  · rintro ⟨r, hm, hu⟩
    refine ⟨r, hm, ?_⟩
    rw [under_eq l r n h (hr r hm) hn] at hu
    obtain ⟨t, ht, _⟩ := chain_head l r h (hr r hm)
    have hne : n ≠ r := by
      rintro rfl
      rw [root_known l roots h n hn hm] at hk
      simp at hk
    rw [ht] at hu ⊢
    simp [hasB] at hu ⊢
    rcases hu with hu | hu
    · exact absurd hu hne
    · exact hu
  · rintro ⟨r, hm, hu⟩
    refine ⟨r, hm, ?_⟩
    rw [under_eq l r n h (hr r hm) hn]
    obtain ⟨t, ht, _⟩ := chain_head l r h (hr r hm)
    rw [ht] at hu ⊢
    simp [hasB] at hu ⊢
    exact Or.inr hu

/-- a row of a table, of places in whatever order: the last one counts -/
def tabLast (l : List Pl) (n : Int) : Pl := l.foldl (fun t p => if p.1 = n then p else t) (0, -1, 0)
theorem tabLast_snoc (l : List Pl) (p : Pl) (n : Int) : tabLast (l ++ [p]) n = if p.1 = n then p else tabLast l n := by
  unfold tabLast
  rw [List.foldl_append]
  rfl
theorem tabLast_take (l : List Pl) (k : Nat) (h : k < l.length) (n : Int) : tabLast (l.take (k + 1)) n = if n = l[k].1 then l[k] else tabLast (l.take k) n := by
  rw [List.take_succ_eq_append_getElem h, tabLast_snoc]
  by_cases he : l[k].1 = n
  · rw [if_pos he, if_pos he.symm]
  · rw [if_neg he, if_neg (fun e => he e.symm)]
theorem tabLast_append (l m : List Pl) (n : Int) : tabLast (l ++ m) n = m.foldl (fun t p => if p.1 = n then p else t) (tabLast l n) := by
  unfold tabLast
  rw [List.foldl_append]
theorem foldl_at (m : List Pl) (n : Int) (hb : byNode m) (hz : ∀ p ∈ m, p.1 ≠ 0) : ∀ t, m.foldl (fun t p => if p.1 = n then p else t) t = if (find m n).1 = 0 then t else find m n := by
  induction m with
  | nil => intro t; simp [find_nil]
  | cons q m ih =>
    intro t
    replace hb := List.pairwise_cons.1 hb
    rw [List.foldl_cons, ih hb.2 (fun p hp => hz p (by simp [hp])), find_cons]
    by_cases hq : q.1 = n
    · rw [if_pos hq, if_pos hq]
      have hf : find m n = (0, 0, 0) := find_zero m n (fun p hp e => by have := hb.1 p hp; omega)
      rw [hf]
      have := hz q (by simp)
      simp [this]
    · rw [if_neg hq, if_neg hq]
theorem tabLast_eq (l : List Pl) (h : scan 0 l = 0) (n : Int) : tabLast l n = tabAt l n := by
  obtain ⟨h1, h2⟩ := (scan0_iff l).1 h
  unfold tabLast tabAt
  rw [foldl_at l n h2 (fun p hp => by have := (inRangeB_iff p).1 (h1 p hp); omega)]
end Orangery

