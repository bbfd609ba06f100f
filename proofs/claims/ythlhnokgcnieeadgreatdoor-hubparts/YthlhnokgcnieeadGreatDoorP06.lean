/- 6 texts of the proof: note.Check, orangeryref.CheckRec. note.Same, orangeryref.SameRec. Plain facts on hubs: checked, told the next record, replayed. Hubs in memory: peers, each with its roots; rows of them; a hub's value. package hub: within, checkPeer; orangeryref's and hub's ways to hold peers against each other; slices.EqualFunc at peers. A hub that is worked into: its box, its row of peers; slices.Clone at steps a -/
import Derived.Test.YthlhnokgcnieeadGreatDoorP05
import Derived.Test.YthlhnokgcnieeadGreatDoorP03
import Derived.Test.YthlhnokgcnieeadGreatDoorP04
/- note.Check, orangeryref.CheckRec. -/
namespace Go.Proofs.YthlhnokgcnieeadGreatDoor
open Go.ChangeShapes Go.WideShapes Go.ChangeAt Go.RowKit
open Orangery (Pl Mv Rc noOp checkRec checkOp rootsOk)

/-- the value of a record -/
abbrev rcV (k u f : Int) (r : Value) (o : Mv) : Value := .agg #[.int .i64 k, .int .i64 u, .int .i64 f, r, .int .i64 o.1, .int .i64 o.2.1, .int .i64 o.2.2.1.1, .int .i64 o.2.2.1.2.1, .int .i64 o.2.2.1.2.2, .int .i64 o.2.2.2.1, .int .i64 o.2.2.2.2]

def opRecE (u f : Int) (R : List Int) (o : Mv) : Int := if u ≠ 0 ∨ f ≠ 0 ∨ R ≠ [] then 4 else checkOp o
theorem opRecE_bad {u f : Int} {R : List Int} {o : Mv} (h : u ≠ 0 ∨ f ≠ 0 ∨ R ≠ []) : opRecE u f R o = 4 := if_pos h
theorem opRecE_ok {o : Mv} : opRecE 0 0 [] o = checkOp o := rfl

set_option maxHeartbeats 1000000 in
theorem ncheckOp_any (w : World) (k u f : Int) (a : Option Addr) (c : Nat) (R : List Int) (o : Mv) :
    Calls Tryz.prog 39 #[rcV k u f (.slice a R.length c) o] w fun e w' => e = .returned (.int .i64 (opRecE u f R o)) ∧ Below w.heap.size w w' := by
  by_cases hu : u = 0
  case neg =>
    have HE : Hid (opRecE u f R o = 4) := opRecE_bad (Or.inl hu)
    have d1 : (u != 0) = true := by simpa using hu
    go_enter Tryz.func39, Tryz.ntmps39
    go_wp2
    go_ret
    exact ⟨ret_int HE.out.symm, Go.Joins.below_alloc1 w _⟩
  by_cases hf : f = 0
  case neg =>
    have HE : Hid (opRecE u f R o = 4) := opRecE_bad (Or.inr (Or.inl hf))
    have d1 : (u != 0) = false := by simpa using hu
    have d2 : (f != 0) = true := by simpa using hf
    clear hu
    go_enter Tryz.func39, Tryz.ntmps39
    go_wp2
    go_ret
    exact ⟨ret_int HE.out.symm, Go.Joins.below_alloc1 w _⟩
  by_cases hr : R = []
  case neg =>
    have HE : Hid (opRecE u f R o = 4) := opRecE_bad (Or.inr (Or.inr hr))
    have d1 : (u != 0) = false := by simpa using hu
    have d2 : (f != 0) = false := by simpa using hf
    have d3 : 0 < R.length := List.length_pos_iff.2 hr
    have d4 : decide ((R.length : Int) > 0) = true := by simp; omega
    clear hu hf hr
    go_enter Tryz.func39, Tryz.ntmps39
    go_wp2
    go_ret
    exact ⟨ret_int HE.out.symm, Go.Joins.below_alloc1 w _⟩
  subst hu hf hr
  obtain ⟨o1, o2, ⟨o3, o4, o5⟩, o6, o7⟩ := o
  go_enter Tryz.func39, Tryz.ntmps39
  go_wp2_with fail
  refine (moveCheck_any _ (o1, o2, (o3, o4, o5), o6, o7)).mono ?_
  rintro e w1 ⟨rfl, hb⟩
  have hb1 : Below w.heap.size w w1 := (Go.Joins.below_alloc1 w _).trans (hb.mono (by simp))
  clear hb
  go_wp2
  go_ret
  exact ⟨rfl, hb1⟩

def cliE (k u f : Int) (R : List Int) (o : Mv) : Int :=
  if o ≠ noOp ∨ (k ≠ 2 ∧ f ≠ 0) ∨ (k = 2 ∧ R ≠ []) then 4 else if ¬ (0 ≤ u ∧ u ≤ 2) ∨ (k = 2 ∧ ¬ (1 ≤ f ∧ f ≤ 50)) then 3 else rootsOk R
theorem cliE_form {k u f : Int} {R : List Int} {o : Mv} (h : o ≠ noOp ∨ (k ≠ 2 ∧ f ≠ 0) ∨ (k = 2 ∧ R ≠ [])) : cliE k u f R o = 4 := if_pos h
theorem cliE_range {k u f : Int} {R : List Int} {o : Mv} (h : ¬ (o ≠ noOp ∨ (k ≠ 2 ∧ f ≠ 0) ∨ (k = 2 ∧ R ≠ []))) (h2 : ¬ (0 ≤ u ∧ u ≤ 2) ∨ (k = 2 ∧ ¬ (1 ≤ f ∧ f ≤ 50))) : cliE k u f R o = 3 := by
  unfold cliE; rw [if_neg h, if_pos h2]
theorem cliE_ok {k u f : Int} {R : List Int} {o : Mv} (h : ¬ (o ≠ noOp ∨ (k ≠ 2 ∧ f ≠ 0) ∨ (k = 2 ∧ R ≠ []))) (h2 : ¬ (¬ (0 ≤ u ∧ u ≤ 2) ∨ (k = 2 ∧ ¬ (1 ≤ f ∧ f ≤ 50)))) : cliE k u f R o = rootsOk R := by
  unfold cliE; rw [if_neg h, if_neg h2]

set_option maxHeartbeats 2000000 in
theorem ncheckOfClient_any (w : World) (k u f : Int) (a : Option Addr) (c : Nat) (R : List Int) (o : Mv) (hl : R.length ≤ maxLen) (h : SlI w a R) :
    Calls Tryz.prog 40 #[rcV k u f (.slice a R.length c) o] w fun e w' => e = .returned (.int .i64 (cliE k u f R o)) ∧ Below w.heap.size w w' := by
  have hne : ∀ w, (binOp .neq 41 (opV o) (.agg #[.int .i64 0, .int .i64 0, .int .i64 0, .int .i64 0, .int .i64 0, .int .i64 0, .int .i64 0])).run Tryz.prog w = .ok (.bool (!decide (o = noOp))) w := run_neq_opg o noOp
  have hgd := guard_op
  by_cases ho : o = noOp
  case neg =>
    have HE : Hid (cliE k u f R o = 4) := cliE_form (Or.inl ho)
    have d0 : decide (o = noOp) = false := by simpa using ho
    clear ho
    go_enter Tryz.func40, Tryz.ntmps40
    go_wp2
    go_ret
    exact ⟨ret_int HE.out.symm, Go.Joins.below_alloc1 w _⟩
  have d0 : decide (o = noOp) = true := by simpa using ho
  have HO : Hid (o = noOp) := ho
  clear ho
  by_cases hk : k = 2
  · have e1 : (k == 2) = true := by simpa using hk
    have HK : Hid (k = 2) := hk
    clear hk
    by_cases hr : R = []
    case neg =>
      have HE : Hid (cliE k u f R o = 4) := cliE_form (Or.inr (Or.inr ⟨HK.out, hr⟩))
      have d3 : 0 < R.length := List.length_pos_iff.2 hr
      have d4 : decide ((R.length : Int) > 0) = true := by simp; omega
      clear hr
      go_enter Tryz.func40, Tryz.ntmps40
      go_wp2
      go_ret
      exact ⟨ret_int HE.out.symm, Go.Joins.below_alloc1 w _⟩
    have HF : Hid (¬ (o ≠ noOp ∨ (k ≠ 2 ∧ f ≠ 0) ∨ (k = 2 ∧ R ≠ []))) := by
      show ¬ _
      have h1 := HO.out; have h2 := HK.out
      simp [h1, h2, hr]
    subst hr
    by_cases h0 : u < 0
    · have HE : Hid (cliE k u f [] o = 3) := cliE_range HF.out (Or.inl (by omega))
      go_enter Tryz.func40, Tryz.ntmps40
      go_wp2
      go_ret
      exact ⟨ret_int HE.out.symm, Go.Joins.below_alloc1 w _⟩
    by_cases h3 : 3 ≤ u
    · have HE : Hid (cliE k u f [] o = 3) := cliE_range HF.out (Or.inl (by omega))
      go_enter Tryz.func40, Tryz.ntmps40
      go_wp2
      go_ret
      exact ⟨ret_int HE.out.symm, Go.Joins.below_alloc1 w _⟩
    by_cases h4 : f < 1
    · have HE : Hid (cliE k u f [] o = 3) := cliE_range HF.out (Or.inr ⟨HK.out, by omega⟩)
      go_enter Tryz.func40, Tryz.ntmps40
      go_wp2
      go_ret
      exact ⟨ret_int HE.out.symm, Go.Joins.below_alloc1 w _⟩
    by_cases h5 : 50 < f
    · have HE : Hid (cliE k u f [] o = 3) := cliE_range HF.out (Or.inr ⟨HK.out, by omega⟩)
      go_enter Tryz.func40, Tryz.ntmps40
      go_wp2
      go_ret
      exact ⟨ret_int HE.out.symm, Go.Joins.below_alloc1 w _⟩
    have HE : Hid (cliE k u f [] o = rootsOk []) := cliE_ok HF.out (by omega)
    go_enter Tryz.func40, Tryz.ntmps40
    go_wp2_with fail
    refine (vroots_any _ a c [] (by simp) SlI.nil).mono ?_
    rintro e w1 ⟨rfl, rfl⟩
    go_wp2
    go_ret
    exact ⟨ret_int HE.out.symm, Go.Joins.below_alloc1 w _⟩
  · have e1 : (k == 2) = false := by simpa using hk
    have HK : Hid (k ≠ 2) := hk
    clear hk
    by_cases hf : f = 0
    case neg =>
      have HE : Hid (cliE k u f R o = 4) := cliE_form (Or.inr (Or.inl ⟨HK.out, hf⟩))
      have d3 : (f != 0) = true := by simpa using hf
      go_enter Tryz.func40, Tryz.ntmps40
      go_wp2
      go_ret
      exact ⟨ret_int HE.out.symm, Go.Joins.below_alloc1 w _⟩
    have HF : Hid (¬ (o ≠ noOp ∨ (k ≠ 2 ∧ f ≠ 0) ∨ (k = 2 ∧ R ≠ []))) := by
      show ¬ _
      have h1 := HO.out; have h2 := HK.out
      simp [h1, h2, hf]
    subst hf
    by_cases h0 : u < 0
    · have HE : Hid (cliE k u 0 R o = 3) := cliE_range HF.out (Or.inl (by omega))
      go_enter Tryz.func40, Tryz.ntmps40
      go_wp2
      go_ret
      exact ⟨ret_int HE.out.symm, Go.Joins.below_alloc1 w _⟩
    by_cases h3 : 3 ≤ u
    · have HE : Hid (cliE k u 0 R o = 3) := cliE_range HF.out (Or.inl (by omega))
      go_enter Tryz.func40, Tryz.ntmps40
      go_wp2
      go_ret
      exact ⟨ret_int HE.out.symm, Go.Joins.below_alloc1 w _⟩
    have HE : Hid (cliE k u 0 R o = rootsOk R) := cliE_ok HF.out (by have := HK.out; omega)
    go_enter Tryz.func40, Tryz.ntmps40
    go_wp2_with fail
    refine (vroots_any _ a c R hl (h.below (Go.Joins.below_alloc1 w _))).mono ?_
    rintro e w1 ⟨rfl, rfl⟩
    go_wp2
    go_ret
    exact ⟨ret_int HE.out.symm, Go.Joins.below_alloc1 w _⟩
end Go.Proofs.YthlhnokgcnieeadGreatDoor

/- note.Same, orangeryref.SameRec. -/
namespace Go.Proofs.YthlhnokgcnieeadGreatDoor
open Go.ChangeShapes Go.WideShapes Go.ChangeAt Go.RowKit
open Orangery (Pl Mv Rc)

def sameR (r q : Rc) : Bool := decide (r.1 = q.1 ∧ r.2.1 = q.2.1 ∧ r.2.2.1 = q.2.2.1 ∧ r.2.2.2.1 = q.2.2.2.1 ∧ r.2.2.2.2 = q.2.2.2.2)
theorem sameR_iff (r q : Rc) : sameR r q = true ↔ r = q := by
  obtain ⟨k, u, f, R, o⟩ := r
  obtain ⟨k', u', f', R', p⟩ := q
  simp only [sameR, decide_eq_true_eq, Prod.mk.injEq]
theorem sameR_yes {r q : Rc} (h : r = q) : sameR r q = true := (sameR_iff r q).2 h
theorem sameR_no {r q : Rc} (h : r ≠ q) : sameR r q = false := by
  cases hq : sameR r q
  · rfl
  · exact absurd ((sameR_iff r q).1 hq) h
theorem eqIs_ne {l m : List Int} (h : eqIs l m = false) : l ≠ m := by simpa [eqIs] using h
theorem eqIs_eq {l m : List Int} (h : eqIs l m = true) : l = m := by simpa [eqIs] using h
theorem below_drewN' (B : Nat) (w : World) (n : Nat) : Below B w (w.drewN n) := ⟨rfl, rfl, rfl, Nat.le_refl _, fun _ _ => rfl⟩


set_option maxHeartbeats 2000000 in
theorem nsame_any (w : World) (k u f k' u' f' : Int) (a a' : Option Addr) (c c' : Nat) (R R' : List Int) (o p : Mv) (hl : R.length ≤ maxLen) (h : SlI w a R) (h' : SlI w a' R') :
    Calls Tryz.prog 13 #[rcV k u f (.slice a R.length c) o, rcV k' u' f' (.slice a' R'.length c') p] w fun e w' => e = .returned (.bool (sameR (k, u, f, R, o) (k', u', f', R', p))) ∧ Below w.heap.size w w' := by
  by_cases ek : k = k'
  case neg =>
    have HE : Hid (sameR (k, u, f, R, o) (k', u', f', R', p) = false) := sameR_no (by intro e; apply ek; simp at e; simp [e])
    have dk : (k == k') = false := by simpa using ek
    clear ek
    go_enter Tryz.func13, Tryz.ntmps13
    go_wp2
    go_ret
    exact ⟨ret_bool HE.out.symm, Go.Joins.below_alloc2 w _ _⟩
  subst ek
  by_cases eu : u = u'
  case neg =>
    have HE : Hid (sameR (k, u, f, R, o) (k, u', f', R', p) = false) := sameR_no (by intro e; apply eu; simp at e; simp [e])
    have du : (u == u') = false := by simpa using eu
    clear eu
    go_enter Tryz.func13, Tryz.ntmps13
    go_wp2
    go_ret
    exact ⟨ret_bool HE.out.symm, Go.Joins.below_alloc2 w _ _⟩
  subst eu
  by_cases ef : f = f'
  case neg =>
    have HE : Hid (sameR (k, u, f, R, o) (k, u, f', R', p) = false) := sameR_no (by intro e; apply ef; simp at e; simp [e])
    have df : (f == f') = false := by simpa using ef
    clear ef
    go_enter Tryz.func13, Tryz.ntmps13
    go_wp2
    go_ret
    exact ⟨ret_bool HE.out.symm, Go.Joins.below_alloc2 w _ _⟩
  subst ef
  have hq := run_eql_opg o p
  have hgd := guard_op
  go_enter Tryz.func13, Tryz.ntmps13
  go_wp2_with fail
  obtain ⟨W0, hW, hA, hC, hB, -⟩ := laid2 w [.int .i64 k, .int .i64 u, .int .i64 f, .slice a R.length c, .int .i64 o.1, .int .i64 o.2.1, .int .i64 o.2.2.1.1, .int .i64 o.2.2.1.2.1, .int .i64 o.2.2.1.2.2, .int .i64 o.2.2.2.1, .int .i64 o.2.2.2.2] 43 [.int .i64 k, .int .i64 u, .int .i64 f, .slice a' R'.length c', .int .i64 p.1, .int .i64 p.2.1, .int .i64 p.2.2.1.1, .int .i64 p.2.2.1.2.1, .int .i64 p.2.2.1.2.2, .int .i64 p.2.2.2.1, .int .i64 p.2.2.2.2] 43
  rw [hW]
  clear hW
  refine (equal_is W0 a a' c c' R R' hl (h.below hB) (h'.below hB)).mono ?_
  rintro e w1 ⟨rfl, n, rfl⟩
  have hb1 : Below W0.heap.size W0 (W0.drewN n) := below_drewN' _ _ _
  have hA1 := hA.keep hb1
  have hC1 := hC.keep hb1
  have HB1 : Hid (Below w.heap.size w (W0.drewN n)) := hB.trans (hb1.mono hB.size)
  clear hA hC hB hb1 h h'
  generalize W0.drewN n = W1 at *
  have x4 := hA1.at 4 rfl
  have y4 := hC1.at 4 rfl
  have x5 := hA1.at 5 rfl
  have y5 := hC1.at 5 rfl
  have x6 := hA1.at 6 rfl
  have y6 := hC1.at 6 rfl
  have x7 := hA1.at 7 rfl
  have y7 := hC1.at 7 rfl
  have x8 := hA1.at 8 rfl
  have y8 := hC1.at 8 rfl
  have x9 := hA1.at 9 rfl
  have y9 := hC1.at 9 rfl
  have x10 := hA1.at 10 rfl
  have y10 := hC1.at 10 rfl
  clear hA1 hC1
  cases he : eqIs R R'
  · have HE : Hid (sameR (k, u, f, R, o) (k, u, f, R', p) = false) := sameR_no (by intro e; simp at e; exact eqIs_ne he e.1)
    go_wp2
    go_ret
    exact ⟨ret_bool HE.out.symm, HB1.out⟩
  · have HE : Hid (sameR (k, u, f, R, o) (k, u, f, R', p) = decide (o = p)) := by
      have := eqIs_eq he
      subst this
      show sameR _ _ = _
      simp [sameR]
    clear he
    go_wp2
    go_ret
    exact ⟨ret_bool HE.out.symm, HB1.out⟩

end Go.Proofs.YthlhnokgcnieeadGreatDoor

/- Plain facts on hubs: checked, told the next record, replayed. -/
namespace Orangery

/-- a peer: life, number, roots; a hub: steps and tree, version, peers -/
abbrev Pr := Int × Int × List Int
abbrev Hb := (List Stp × List Pl) × Int × List Pr
def noHb : Hb := (([], []), 0, [])
def newHb : Hb := (([], []), 0, [(0, 0, []), (0, 0, []), (0, 0, [])])

def peerE (p : Pr) : Int := if ¬ (0 ≤ p.1 ∧ p.1 ≤ 50) ∨ ¬ (0 ≤ p.2.1 ∧ p.2.1 ≤ 30) then 3 else if p.1 = 0 ∧ (p.2.1 ≠ 0 ∨ p.2.2 ≠ []) then 4 else rootsOk p.2.2
def peersE : List Pr → Int
  | [] => 0
  | p :: l => if peerE p ≠ 0 then peerE p else peersE l
/-- chapter 8's Check -/
def hubE (h : Hb) : Int := if histE h.1.1 h.1.2 ≠ 0 then histE h.1.1 h.1.2 else if ¬ (0 ≤ h.2.1 ∧ h.2.1 ≤ 60) then 3 else if h.2.2.length ≠ 3 then 4 else peersE h.2.2

/-- the peer of a client -/
def prOf (h : Hb) (k : Int) : Pr := h.2.2.getD k.toNat (0, 0, [])
/-- a right record of a right hub: what is wrong, what it makes -/
def stepE (h : Hb) (r : Rc) : Int :=
  if h.2.1 = 60 then 2
  else if r.1 = 1 then (if r.2.2.2.2.2.2.2.1 ≠ (prOf h r.2.2.2.2.2.1).1 ∨ r.2.2.2.2.2.2.2.2 ≠ (prOf h r.2.2.2.2.2.1).2.1 + 1 then 7 else insE h.1.1 h.1.2 r.2.2.2.2)
  else if r.1 = 2 then (if (prOf h r.2.1).1 + 1 ≠ r.2.2.1 then 7 else 0)
  else (if (prOf h r.2.1).1 < 1 then 5 else 0)
def stepH (h : Hb) (r : Rc) : Hb :=
  if r.1 = 1 then ((insL h.1.1 h.1.2 r.2.2.2.2, insT h.1.1 h.1.2 r.2.2.2.2), h.2.1 + 1, h.2.2.set r.2.2.2.2.2.1.toNat ((prOf h r.2.2.2.2.2.1).1, (prOf h r.2.2.2.2.2.1).2.1 + 1, (prOf h r.2.2.2.2.2.1).2.2))
  else if r.1 = 2 then (h.1, h.2.1 + 1, h.2.2.set r.2.1.toNat (r.2.2.1, 0, []))
  else (h.1, h.2.1 + 1, h.2.2.set r.2.1.toNat ((prOf h r.2.1).1, (prOf h r.2.1).2.1, r.2.2.2.1))
/-- chapter 8's Next -/
def nextE (h : Hb) (r : Rc) : Int := if hubE h ≠ 0 then hubE h else if checkRec r ≠ 0 then checkRec r else stepE h r
def nextH (h : Hb) (r : Rc) : Hb := if nextE h r ≠ 0 then noHb else stepH h r

theorem peersE_zero (l : List Pr) : peersE l = 0 ↔ ∀ p ∈ l, peerE p = 0 := by
  induction l with
  | nil => simp [peersE]
  | cons p l ih =>
    unfold peersE
    by_cases h : peerE p = 0
    · rw [if_neg (by simp [h]), ih]; simp [h]
    · rw [if_pos h]
      constructor
      · intro h'; exact absurd h' h
      · intro h'; exact absurd (h' p (by simp)) h
theorem hubE_zero (h : Hb) : hubE h = 0 ↔ histE h.1.1 h.1.2 = 0 ∧ (0 ≤ h.2.1 ∧ h.2.1 ≤ 60) ∧ h.2.2.length = 3 ∧ ∀ p ∈ h.2.2, peerE p = 0 := by
  rw [← peersE_zero]
  unfold hubE
  constructor
  · intro hh
    split at hh
    · contradiction
    · split at hh
      · omega
      · split at hh
        · omega
        · rename_i h1 h2 h3
          exact ⟨by simpa using h1, by simpa using h2, by simpa using h3, hh⟩
  · rintro ⟨h1, h2, h3, h4⟩
    rw [if_neg (by simp [h1]), if_neg (by simp [h2]), if_neg (by simp [h3])]
    exact h4
theorem newHb_ok : hubE newHb = 0 := by
  rw [hubE_zero]
  refine ⟨hist_empty, by decide, rfl, ?_⟩
  intro p hp
  simp [newHb] at hp
  subst hp
  decide
theorem prOf_mem {h : Hb} (hh : hubE h = 0) {k : Int} (h0 : 0 ≤ k) (h1 : k ≤ 2) : prOf h k ∈ h.2.2 ∧ k.toNat < h.2.2.length := by
  obtain ⟨_, _, h3, _⟩ := (hubE_zero h).1 hh
  have hlt : k.toNat < h.2.2.length := by omega
  refine ⟨?_, hlt⟩
  unfold prOf
  rw [List.getD_eq_getElem?_getD, List.getElem?_eq_getElem hlt]
  exact List.getElem_mem hlt
theorem insE_zero {L : List Stp} {T : List Pl} {o : Mv} (h : insE L T o = 0) : histE L T = 0 ∧ checkOp o = 0 ∧ foldE (L.map (·.1) ++ [o]) = 0 := by
  unfold insE at h
  split at h
  · contradiction
  · split at h
    · contradiction
    · split at h
      · omega
      · rename_i h1 h2 h3
        exact ⟨by simpa using h1, by simpa using h2, h⟩
theorem ins_hist {L : List Stp} {T : List Pl} {o : Mv} (h : insE L T o = 0) : histE (insL L T o) (insT L T o) = 0 := by
  obtain ⟨_, _, h3⟩ := insE_zero h
  unfold insL insT
  rw [if_neg (by simp [h]), if_neg (by simp [h])]
  exact hist_fold h3

/-- a hub stays one -/
theorem next_ok {h : Hb} {r : Rc} (hn : nextE h r = 0) : hubE h = 0 ∧ checkRec r = 0 ∧ stepE h r = 0 ∧ hubE (stepH h r) = 0 := by
  have hh : hubE h = 0 ∧ checkRec r = 0 ∧ stepE h r = 0 := by
    unfold nextE at hn
    split at hn
    · contradiction
    · split at hn
      · contradiction
      · rename_i h1 h2
        exact ⟨by simpa using h1, by simpa using h2, hn⟩
  obtain ⟨h1, h2, h3⟩ := hh
  refine ⟨h1, h2, h3, ?_⟩
  obtain ⟨g1, g2, g3, g4⟩ := (hubE_zero h).1 h1
  have hv : h.2.1 ≠ 60 := by
    intro e
    unfold stepE at h3
    rw [if_pos e] at h3
    omega
  have hset : ∀ (k : Nat) (q : Pr), peerE q = 0 → ∀ p ∈ h.2.2.set k q, peerE p = 0 := by
    intro k q hq p hp
    rcases List.mem_or_eq_of_mem_set hp with hp | rfl
    · exact g4 p hp
    · exact hq
  rw [hubE_zero]
  unfold stepE at h3
  rw [if_neg hv] at h3
  rcases checkRec_kind h2 with hk | hk | hk
  · rw [if_pos hk] at h3
    obtain ⟨e, hc⟩ := checkRec_op h2 hk
    have ho := checkOp_zero hc
    simp only [opOkB, decide_eq_true_eq] at ho
    split at h3
    · omega
    · rename_i hl
      simp only [not_or, Decidable.not_not, ne_eq] at hl
      have hp := g4 _ (prOf_mem h1 (k := r.2.2.2.2.2.1) (by omega) (by omega)).1
      unfold stepH
      rw [if_pos hk]
      refine ⟨ins_hist h3, by simp only; omega, by simpa using g3, hset _ _ ?_⟩
      unfold peerE at hp ⊢
      simp only
      split at hp
      · omega
      · rename_i q1
        split at hp
        · omega
        · rename_i q2
          rw [if_neg (by simp only [not_or, Decidable.not_not] at q1 ⊢; omega), if_neg (by intro q; have := q.1; omega)]
          exact hp
  · rw [if_neg (by omega), if_pos hk] at h3
    obtain ⟨e, hw, hf⟩ := checkRec_life h2 hk
    unfold stepH
    rw [if_neg (by omega), if_pos hk]
    refine ⟨g1, by simp only; omega, by simpa using g3, hset _ _ ?_⟩
    unfold peerE
    simp only
    rw [if_neg (by simp only [not_or, Decidable.not_not]; omega), if_neg (by intro q; omega)]
    rfl
  · rw [if_neg (by omega), if_neg (by omega)] at h3
    obtain ⟨e, hw, hrt⟩ := checkRec_roots h2 hk
    have hp := g4 _ (prOf_mem h1 (k := r.2.1) (by omega) (by omega)).1
    unfold stepH
    rw [if_neg (by omega), if_neg (by omega)]
    refine ⟨g1, by simp only; omega, by simpa using g3, hset _ _ ?_⟩
    split at h3
    · omega
    · rename_i hl
      unfold peerE at hp ⊢
      simp only
      split at hp
      · omega
      · rename_i q1
        rw [if_neg q1, if_neg (by intro q; have := q.1; omega)]
        exact hrt

/-- one after the other -/
def runE : Hb → List Rc → Int
  | _, [] => 0
  | h, r :: l => if nextE h r ≠ 0 then nextE h r else runE (stepH h r) l
def runH : Hb → List Rc → Hb
  | h, [] => h
  | h, r :: l => runH (stepH h r) l
/-- chapter 8's Replay -/
def replayE (l : List Rc) : Int := if 60 < l.length then 2 else runE newHb l
def replayH (l : List Rc) : Hb := if replayE l ≠ 0 then noHb else runH newHb l

theorem runE_zero (h : Hb) (r : Rc) (l : List Rc) : runE h (r :: l) = 0 ↔ nextE h r = 0 ∧ runE (stepH h r) l = 0 := by
  have e : runE h (r :: l) = if nextE h r ≠ 0 then nextE h r else runE (stepH h r) l := rfl
  rw [e]
  by_cases hn : nextE h r = 0
  · rw [if_neg (by simp [hn])]; simp [hn]
  · rw [if_pos hn]; simp [hn]
theorem runH_app (l m : List Rc) : ∀ h, runH h (l ++ m) = runH (runH h l) m := by
  induction l with
  | nil => intro h; rfl
  | cons r l ih => intro h; exact ih _
/-- records in two parts are as in one -/
theorem runE_app (l m : List Rc) : ∀ h, runE h (l ++ m) = 0 ↔ runE h l = 0 ∧ runE (runH h l) m = 0 := by
  induction l with
  | nil => intro h; simp [runE, runH]
  | cons r l ih =>
    intro h
    rw [List.cons_append, runE_zero, runE_zero, ih]
    exact ⟨fun ⟨a, b, c⟩ => ⟨⟨a, b⟩, c⟩, fun ⟨⟨a, b⟩, c⟩ => ⟨a, b, c⟩⟩
theorem run_at {h : Hb} {l : List Rc} (hl : runE h l = 0) (j : Nat) (hj : j < l.length) : nextE (runH h (l.take j)) l[j] = 0 ∧ runH h (l.take (j + 1)) = stepH (runH h (l.take j)) l[j] := by
  have e : l.take (j + 1) = l.take j ++ [l[j]] := List.take_succ_eq_append_getElem hj
  have e2 : l = l.take (j + 1) ++ l.drop (j + 1) := (List.take_append_drop _ _).symm
  rw [e2, runE_app, e, runE_app] at hl
  have := hl.1.2
  rw [runE_zero] at this
  refine ⟨this.1, ?_⟩
  rw [e, runH_app]
  rfl
theorem run_ok {h : Hb} (hh : hubE h = 0) (l : List Rc) : runE h l = 0 → hubE (runH h l) = 0 := by
  induction l generalizing h with
  | nil => intro _; exact hh
  | cons r l ih =>
    intro hl
    obtain ⟨h1, h2⟩ := (runE_zero h r l).1 hl
    exact ih (next_ok h1).2.2.2 h2
theorem run_version (l : List Rc) : ∀ h, (runH h l).2.1 = h.2.1 + l.length := by
  induction l with
  | nil => intro h; simp [runH]
  | cons r l ih =>
    intro h
    have e : (stepH h r).2.1 = h.2.1 + 1 := by
      unfold stepH
      split
      · rfl
      · split <;> rfl
    have : runH h (r :: l) = runH (stepH h r) l := rfl
    rw [this, ih, e]
    simp
    omega

/-- the operations among records -/
def opsOfR (l : List Rc) : List Mv := l.filterMap fun r => if r.1 = 1 then some r.2.2.2.2 else none
theorem opsOfR_app (l m : List Rc) : opsOfR (l ++ m) = opsOfR l ++ opsOfR m := by simp [opsOfR]
/-- one more operation behind those that were folded -/
theorem ins_folded {l : List Mv} (h : foldE l = 0) {o : Mv} (hi : insE (foldL l) (foldT l) o = 0) : foldE (l ++ [o]) = 0 ∧ insL (foldL l) (foldT l) o = foldL (l ++ [o]) ∧ insT (foldL l) (foldT l) o = foldT (l ++ [o]) := by
  obtain ⟨_, _, h3⟩ := insE_zero hi
  obtain ⟨_, _, e3, _, _⟩ := fold_ok h
  obtain ⟨_, hp, _⟩ := srt_ok h
  rw [e3] at h3
  have hpo : (srt l ++ [o]).Perm (l ++ [o]) := hp.append_right [o]
  have hf := (foldE_perm hpo h3).1
  exact ⟨hf, (ins_fold h o hf).2⟩
/-- the history of a hub is what all operations make that were accepted -/
theorem run_hist (l : List Rc) (hl : runE newHb l = 0) : foldE (opsOfR l) = 0 ∧ (runH newHb l).1 = (foldL (opsOfR l), foldT (opsOfR l)) := by
  have key : ∀ j, j ≤ l.length → foldE (opsOfR (l.take j)) = 0 ∧ (runH newHb (l.take j)).1 = (foldL (opsOfR (l.take j)), foldT (opsOfR (l.take j))) := by
    intro j
    induction j with
    | zero => intro _; simp only [List.take_zero]; exact ⟨by decide, rfl⟩
    | succ j ih =>
      intro hj
      obtain ⟨i1, i2⟩ := ih (by omega)
      obtain ⟨n1, n2⟩ := run_at hl j (by omega)
      obtain ⟨_, c2, c3, _⟩ := next_ok n1
      have e : l.take (j + 1) = l.take j ++ [l[j]] := List.take_succ_eq_append_getElem (by omega)
      rw [n2, e, opsOfR_app]
      generalize l[j] = r at *
      by_cases hk : r.1 = 1
      · have e1 : opsOfR [r] = [r.2.2.2.2] := by simp [opsOfR, hk]
        have hs : insE (foldL (opsOfR (l.take j))) (foldT (opsOfR (l.take j))) r.2.2.2.2 = 0 := by
          unfold stepE at c3
          rw [if_pos hk, i2] at c3
          split at c3
          · omega
          · split at c3
            · omega
            · exact c3
        obtain ⟨f1, f2, f3⟩ := ins_folded i1 hs
        rw [e1]
        refine ⟨f1, ?_⟩
        unfold stepH
        rw [if_pos hk]
        simp only
        rw [i2]
        simp only
        rw [f2, f3]
      · have e1 : opsOfR [r] = [] := by simp [opsOfR, hk]
        rw [e1, List.append_nil]
        refine ⟨i1, ?_⟩
        unfold stepH
        rw [if_neg hk]
        split
        · exact i2
        · exact i2
  have := key l.length (Nat.le_refl _)
  rwa [List.take_length] at this
end Orangery

/- Hubs in memory: peers, each with its roots; rows of them; a hub's value. -/
namespace Go.Proofs.YthlhnokgcnieeadGreatDoor
open Go.ChangeShapes Go.WideShapes Go.ChangeAt Go.RowKit
open Orangery (Pl Mv Stp Rc Pr Hb)

/-- a peer in memory: it, its roots' address, the room there -/
abbrev Pm := Pr × Option Addr × Nat
abbrev prV (f q : Int) (r : Value) : Value := .agg #[.int .i64 f, .int .i64 q, r]
abbrev Pm.val (x : Pm) : Value := prV x.1.1 x.1.2.1 (.slice x.2.1 x.1.2.2.length x.2.2)
def prC (x : Pm) : List Value := [.int .i64 x.1.1, .int .i64 x.1.2.1, .slice x.2.1 x.1.2.2.length x.2.2]
theorem prC_val (x : Pm) : x.val = .agg (prC x).toArray := rfl
theorem prC_len (x : Pm) : (prC x).length = 3 := rfl
theorem prC_one (x : Pm) : ∀ v ∈ prC x, v.oneCell' = true := by
  intro v hv
  simp [prC] at hv
  rcases hv with rfl | rfl | rfl <;> rfl
theorem pr_cells {w : World} {b o : Nat} {x : Pm} (h : w.rangeAt b o (prC x)) :
    w.cell? ⟨b, o, none⟩ = some (.int .i64 x.1.1) ∧ w.cell? ⟨b, o + 1, none⟩ = some (.int .i64 x.1.2.1) ∧ w.cell? ⟨b, o + 2, none⟩ = some (.slice x.2.1 x.1.2.2.length x.2.2) :=
  ⟨h 0 _ rfl, h 1 _ rfl, h 2 _ rfl⟩
theorem infoPeer : (Tryz.prog.info? 66).map (fun i => (i.zero, i.size, i.bytes)) = some (some (.agg #[.int .i64 0, .int .i64 0, .slice none 0 0]), 3, 40) := by kernel_rfl
theorem sizePeer : (Tryz.prog.info? 66).map (·.size) = some 3 := by kernel_rfl
theorem sizeHub : (Tryz.prog.info? 31).map (·.size) = some 4 := by kernel_rfl

/-- its roots read -/
def PIn (w : World) (x : Pm) : Prop := SlI w x.2.1 x.1.2.2 ∧ x.1.2.2.length ≤ maxLen
theorem PIn.keep {w w' : World} {x : Pm} (h : PIn w x) (hb : Below w.heap.size w w') : PIn w' x := ⟨h.1.below hb, h.2⟩
theorem PIn.nil (w : World) (f q : Int) (c : Nat) : PIn w ((f, q, []), none, c) := ⟨Or.inl rfl, by unfold maxLen; simp⟩
/-- a row of peers that is read -/
structure SlH (w : World) (a : Option Addr) (X : List Pm) : Prop where
  reads : SlE prC w a X
  roots : ∀ x ∈ X, PIn w x
theorem SlH.keep {w w' : World} {a : Option Addr} {X : List Pm} (h : SlH w a X) (hb : Below w.heap.size w w') : SlH w' a X := ⟨h.reads.below hb, fun x hx => (h.roots x hx).keep hb⟩

/-- the value of a hub -/
abbrev huV (s t : Value) (n : Int) (p : Value) : Value := .agg #[s, t, .int .i64 n, p]
/-- the value v is the hub h -/
structure HuAt (w : World) (a p q : Option Addr) (X : List Pm) (h : Hb) : Prop where
  steps : SlE stC w a h.1.1
  places : SlP w p h.1.2
  peers : SlH w q X
  are : X.map (·.1) = h.2.2
  few1 : h.1.1.length * 88 ≤ 140737488351232
  few2 : h.1.2.length ≤ maxLen
  few3 : X.length ≤ maxLen
theorem HuAt.keep {w w' : World} {a p q : Option Addr} {X : List Pm} {h : Hb} (hh : HuAt w a p q X h) (hb : Below w.heap.size w w') : HuAt w' a p q X h :=
  ⟨hh.steps.below hb, hh.places.below hb, hh.peers.keep hb, hh.are, hh.few1, hh.few2, hh.few3⟩
def HuIs (w : World) (v : Value) (h : Hb) : Prop :=
  ∃ a c p d q g X, v = huV (.slice a h.1.1.length c) (.slice p h.1.2.length d) h.2.1 (.slice q X.length g) ∧ HuAt w a p q X h
theorem HuIs.keep {w w' : World} {v : Value} {h : Hb} (hh : HuIs w v h) (hb : Below w.heap.size w w') : HuIs w' v h := by
  obtain ⟨a, c, p, d, q, g, X, e, hx⟩ := hh
  exact ⟨a, c, p, d, q, g, X, e, hx.keep hb⟩
theorem HuIs.no (w : World) : HuIs w (huV (.slice none 0 0) (.slice none 0 0) 0 (.slice none 0 0)) Orangery.noHb :=
  ⟨none, 0, none, 0, none, 0, [], rfl, ⟨Or.inl rfl, Or.inl rfl, ⟨Or.inl rfl, by intro x hx; simp at hx⟩, rfl, by simp [Orangery.noHb], by simp [Orangery.noHb, maxLen], by simp [maxLen]⟩⟩

/-- another block is written -/
theorem SlE.apartH {α : Type} {enc : α → List Value} {w w' : World} {a : Option Addr} {l : List α} (h : SlE enc w a l) (hs : w.heap.size ≤ w'.heap.size)
    (hk : ∀ b off, a = some ⟨b, off, none⟩ → b < w.heap.size → w'.heap[b]? = w.heap[b]?) : SlE enc w' a l := by
  rcases h with h | ⟨b, off, ha, hb, hr⟩
  · exact Or.inl h
  · refine Or.inr ⟨b, off, ha, by omega, fun j v hv => ?_⟩
    rw [World.cell?_of_block (w := w) (w' := w') (a := ⟨b, off + j, none⟩) (hk b off ha hb)]
    exact hr j v hv
theorem SlI.apartH {w w' : World} {a : Option Addr} {l : List Int} (h : SlI w a l) (hs : w.heap.size ≤ w'.heap.size)
    (hk : ∀ b off, a = some ⟨b, off, none⟩ → b < w.heap.size → w'.heap[b]? = w.heap[b]?) : SlI w' a l := by
  rcases h with h | ⟨b, off, ha, hb, hr⟩
  · exact Or.inl h
  · refine Or.inr ⟨b, off, ha, by omega, fun j hj => ?_⟩
    rw [World.cell?_of_block (w := w) (w' := w') (a := ⟨b, off + j, none⟩) (hk b off ha hb)]
    exact hr j hj
theorem SlP.apartH {w w' : World} {a : Option Addr} {l : List Pl} (h : SlP w a l) (hs : w.heap.size ≤ w'.heap.size)
    (hk : ∀ b off, a = some ⟨b, off, none⟩ → b < w.heap.size → w'.heap[b]? = w.heap[b]?) : SlP w' a l := by
  rcases h with h | ⟨b, off, ha, hb, hr⟩
  · exact Or.inl h
  · refine Or.inr ⟨b, off, ha, by omega, fun i hi => ?_⟩
    have hbl := hk b off ha hb
    obtain ⟨h1, h2, h3⟩ := hr i hi
    exact ⟨by rw [World.cell?_of_block (w := w) (w' := w') (by exact hbl)]; exact h1, by rw [World.cell?_of_block (w := w) (w' := w') (by exact hbl)]; exact h2, by rw [World.cell?_of_block (w := w) (w' := w') (by exact hbl)]; exact h3⟩

/-- peers held against each other -/
def sameP (x y : Pr) : Bool := decide (x = y)
def eqPs : List Pm → List Pm → Bool
  | [], [] => true
  | x :: X, y :: Y => sameP x.1 y.1 && eqPs X Y
  | _, _ => false
theorem sameP_iff (x y : Pr) : sameP x y = true ↔ x = y := by simp [sameP]
theorem eqPs_iff (X : List Pm) : ∀ Y : List Pm, eqPs X Y = true ↔ X.map (·.1) = Y.map (·.1) := by
  induction X with
  | nil =>
    intro Y
    cases Y with
    | nil => simp [eqPs]
    | cons y Y => simp [eqPs]
  | cons x X ih =>
    intro Y
    cases Y with
    | nil => simp [eqPs]
    | cons y Y =>
      rw [eqPs, Bool.and_eq_true, sameP_iff, ih Y]
      simp
theorem eqPs_yes {X Y : List Pm} (h : X.map (·.1) = Y.map (·.1)) : eqPs X Y = true := (eqPs_iff X Y).2 h
theorem eqPs_no {X Y : List Pm} (h : X.map (·.1) ≠ Y.map (·.1)) : eqPs X Y = false := by
  cases hq : eqPs X Y
  · rfl
  · exact absurd ((eqPs_iff X Y).1 hq) h
theorem mapP_ne {X Y : List Pm} {k : Nat} (hx : k < X.length) (hy : k < Y.length) (h : X[k].1 ≠ Y[k].1) : X.map (·.1) ≠ Y.map (·.1) := by
  intro e
  have h1 : (X.map (·.1))[k]? = some X[k].1 := by simp [hx]
  have h2 : (Y.map (·.1))[k]? = some Y[k].1 := by simp [hy]
  rw [e, h2] at h1
  exact h (by simpa using h1.symm)
end Go.Proofs.YthlhnokgcnieeadGreatDoor

/- package hub: within, checkPeer; orangeryref's and hub's ways to hold peers against each other; slices.EqualFunc at peers. -/
namespace Go.Proofs.YthlhnokgcnieeadGreatDoor
open Go.ChangeShapes Go.WideShapes Go.ChangeAt Go.RowKit
open Orangery (Pl Mv Stp Rc Pr Hb peerE peersE rootsOk)

set_option maxHeartbeats 400000 in
theorem uwithin_any (w : World) (n m : Int) :
    Calls Tryz.prog 37 #[.int .i64 n, .int .i64 m] w fun e w' => e = .returned (.bool (decide (0 ≤ n ∧ n ≤ m))) ∧ w' = w := by
  by_cases h1 : 0 ≤ n
  · by_cases h2 : n ≤ m
    · have e : (decide (0 ≤ n ∧ n ≤ m)) = true := by simp; omega
      rw [e]
      go_enter Tryz.func37, Tryz.ntmps37
      go_wp2
      go_ret
      exact ⟨rfl, rfl⟩
    · have e : (decide (0 ≤ n ∧ n ≤ m)) = false := by simp; omega
      rw [e]
      go_enter Tryz.func37, Tryz.ntmps37
      go_wp2
      go_ret
      exact ⟨rfl, rfl⟩
  · have e : (decide (0 ≤ n ∧ n ≤ m)) = false := by simp; omega
    rw [e]
    go_enter Tryz.func37, Tryz.ntmps37
    go_wp2
    go_ret
    exact ⟨rfl, rfl⟩

/-- what peerE says, case by case -/
theorem peerE_life {f q : Int} {R : List Int} (h : ¬ (0 ≤ f ∧ f ≤ 50)) : peerE (f, q, R) = 3 := by
  unfold peerE; rw [if_pos (Or.inl h)]
theorem peerE_seq {f q : Int} {R : List Int} (h : ¬ (0 ≤ q ∧ q ≤ 30)) : peerE (f, q, R) = 3 := by
  unfold peerE; rw [if_pos (Or.inr h)]
theorem peerE_form {f q : Int} {R : List Int} (h1 : 0 ≤ f ∧ f ≤ 50) (h2 : 0 ≤ q ∧ q ≤ 30) (h0 : f = 0) (h : q ≠ 0 ∨ R ≠ []) : peerE (f, q, R) = 4 := by
  unfold peerE; rw [if_neg (by simp only [not_or, Decidable.not_not]; exact ⟨h1, h2⟩), if_pos ⟨h0, h⟩]
theorem peerE_rest {f q : Int} {R : List Int} (h1 : 0 ≤ f ∧ f ≤ 50) (h2 : 0 ≤ q ∧ q ≤ 30) (h : ¬ (f = 0 ∧ (q ≠ 0 ∨ R ≠ []))) : peerE (f, q, R) = rootsOk R := by
  unfold peerE; rw [if_neg (by simp only [not_or, Decidable.not_not]; exact ⟨h1, h2⟩), if_neg h]

set_option maxHeartbeats 1000000 in
theorem ucheckPeer_any (w : World) (x : Pm) (h : PIn w x) :
    Calls Tryz.prog 38 #[x.val] w fun e w' => e = .returned (.int .i64 (peerE x.1)) ∧ Below w.heap.size w w' := by
  obtain ⟨⟨f, q, R⟩, a, c⟩ := x
  obtain ⟨h, hl⟩ := h
  simp only at h hl
  have hl' : R.length ≤ 9223372036854775807 := hl
  have HB : Hid (Below w.heap.size w (w.alloc (Obj.cells #[Value.int IntKind.i64 f, .int .i64 q, .slice a R.length c] 66))) := Go.Joins.below_alloc1 w _
  have HH := Lib.hid (h.below HB.out)
  have HL := Lib.hid hl
  clear h hl
  go_enter Tryz.func38, Tryz.ntmps38
  go_wp2_with fail
  refine (uwithin_any _ f 50).mono ?_
  rintro e w1 ⟨rfl, rfl⟩
  by_cases h1 : 0 ≤ f ∧ f ≤ 50
  case neg =>
    have d1 : decide (0 ≤ f ∧ f ≤ 50) = false := decide_eq_false h1
    have HE := Lib.hid (peerE_life (q := q) (R := R) h1)
    rw [d1]
    clear h1 d1
    go_wp2
    go_ret
    exact ⟨ret_int HE.out.symm, HB.out⟩
  have d1 : decide (0 ≤ f ∧ f ≤ 50) = true := decide_eq_true h1
  rw [d1]
  clear d1
  go_wp2_with fail
  refine (uwithin_any _ q 30).mono ?_
  rintro e w1 ⟨rfl, rfl⟩
  by_cases h2 : 0 ≤ q ∧ q ≤ 30
  case neg =>
    have d1 : decide (0 ≤ q ∧ q ≤ 30) = false := decide_eq_false h2
    have HE := Lib.hid (peerE_seq (f := f) (R := R) h2)
    rw [d1]
    clear h2 d1
    go_wp2
    go_ret
    exact ⟨ret_int HE.out.symm, HB.out⟩
  have d1 : decide (0 ≤ q ∧ q ≤ 30) = true := decide_eq_true h2
  rw [d1]
  clear d1
  by_cases h3 : f = 0 ∧ (q ≠ 0 ∨ R ≠ [])
  · have HE := Lib.hid (peerE_form h1 h2 h3.1 h3.2)
    obtain ⟨h4, h5⟩ := h3
    subst h4
    by_cases h6 : q = 0
    · subst h6
      have h7 : 0 < R.length := by
        cases R with
        | nil => simp at h5
        | cons x R => simp
      have d7 : decide ((R.length : Int) > 0) = true := by simp; omega
      clear h1 h2 h5
      go_wp2
      go_ret
      exact ⟨ret_int HE.out.symm, HB.out⟩
    · have d6 : (q != 0) = true := by simpa using h6
      clear h1 h2 h5
      go_wp2
      go_ret
      exact ⟨ret_int HE.out.symm, HB.out⟩
  · have HE := Lib.hid (peerE_rest h1 h2 h3)
    by_cases h4 : f = 0
    · subst h4
      simp only [true_and, not_or, Decidable.not_not, ne_eq] at h3
      obtain ⟨rfl, rfl⟩ := h3
      clear h1 h2
      go_wp2_with fail
      refine (vroots_any _ a c [] HL.out HH.out).mono ?_
      rintro e w2 ⟨rfl, rfl⟩
      go_wp2
      go_ret
      exact ⟨ret_int HE.out.symm, HB.out⟩
    · have d4 : (f == 0) = false := by simpa using h4
      clear h1 h2 h3
      go_wp2_with fail
      refine (vroots_any _ a c R HL.out HH.out).mono ?_
      rintro e w2 ⟨rfl, rfl⟩
      go_wp2
      go_ret
      exact ⟨ret_int HE.out.symm, HB.out⟩

theorem sameP_no1 {f q f' q' : Int} {R R' : List Int} (h : f ≠ f') : sameP (f, q, R) (f', q', R') = false := by simp [sameP, h]
theorem sameP_no2 {f q f' q' : Int} {R R' : List Int} (h : q ≠ q') : sameP (f, q, R) (f', q', R') = false := by simp [sameP, h]
theorem sameP_eq {f q : Int} {R R' : List Int} : sameP (f, q, R) (f, q, R') = eqIs R R' := by
  cases hq : eqIs R R'
  · have : R ≠ R' := by
      intro e
      subst e
      rw [eqIs_yes rfl] at hq
      simp at hq
    simp [sameP, this]
  · have : R = R' := by simpa [eqIs] using hq
    subst this
    simp [sameP]

set_option maxHeartbeats 1000000 in
theorem usame1_any (w : World) (x y : Pm) (hx : PIn w x) (hy : PIn w y) :
    Calls Tryz.prog 31 #[x.val, y.val] w fun e w' => e = .returned (.bool (sameP x.1 y.1)) ∧ Below w.heap.size w w' := by
  obtain ⟨⟨f, q, R⟩, a, c⟩ := x
  obtain ⟨⟨f', q', R'⟩, a', c'⟩ := y
  obtain ⟨hx, hl⟩ := hx
  obtain ⟨hy, -⟩ := hy
  simp only at hx hy hl
  by_cases h1 : f = f'
  case neg =>
    have HE := Lib.hid (sameP_no1 (q := q) (q' := q') (R := R) (R' := R') h1)
    have d1 : (f == f') = false := by simpa using h1
    clear h1
    go_enter Tryz.func31, Tryz.ntmps31
    go_wp2
    go_ret
    exact ⟨ret_bool HE.out.symm, (Go.Joins.below_alloc1 w _).alloc (by simp) _⟩
  subst h1
  by_cases h2 : q = q'
  case neg =>
    have HE := Lib.hid (sameP_no2 (f := f) (f' := f) (R := R) (R' := R') h2)
    have d1 : (q == q') = false := by simpa using h2
    clear h2
    go_enter Tryz.func31, Tryz.ntmps31
    go_wp2
    go_ret
    exact ⟨ret_bool HE.out.symm, (Go.Joins.below_alloc1 w _).alloc (by simp) _⟩
  subst h2
  have HE := Lib.hid (sameP_eq (f := f) (q := q) (R := R) (R' := R'))
  go_enter Tryz.func31, Tryz.ntmps31
  go_wp2_with fail
  obtain ⟨W0, hW, -, -, hB, -⟩ := laid2 w [Value.int IntKind.i64 f, .int .i64 q, .slice a R.length c] 66 [Value.int IntKind.i64 f, .int .i64 q, .slice a' R'.length c'] 66
  rw [hW]
  clear hW
  refine (equal_is W0 a a' c c' R R' hl (hx.below hB) (hy.below hB)).mono ?_
  rintro e w1 ⟨rfl, n, rfl⟩
  have HB1 : Hid (Below w.heap.size w (W0.drewN n)) := hB.trans (below_drewN_any _ _ _)
  clear hx hy hB
  generalize W0.drewN n = W1 at *
  go_wp2
  go_ret
  exact ⟨ret_bool HE.out.symm, HB1.out⟩

set_option maxHeartbeats 2000000 in
set_option maxRecDepth 100000 in
theorem eqFuncP_any (w : World) (a a' : Option Addr) (c c' : Nat) (X Y : List Pm) (g : Nat) (hl : X.length ≤ maxLen) (hx : SlH w a X) (hy : SlH w a' Y)
    (eg : ∀ args w, (callFunc g args).run Tryz.prog w = .ok (.enter g args) w)
    (hg : ∀ W (x y : Pm), PIn W x → PIn W y → Calls Tryz.prog g #[x.val, y.val] W fun e w' => e = .returned (.bool (sameP x.1 y.1)) ∧ Below W.heap.size W w') :
    Calls Tryz.prog 34 #[.slice a X.length c, .slice a' Y.length c', .func (.func g) #[] #[]] w
      fun e w' => e = .returned (.bool (eqPs X Y)) ∧ Below w.heap.size w w' := by
  have hl' : X.length ≤ 9223372036854775807 := hl
  have HX := Lib.hid hx
  have HY := Lib.hid hy
  have HG := Lib.hid hg
  clear hx hy hg hl
  by_cases hlen : X.length = Y.length
  case neg =>
    have d1 : ((X.length : Int) != (Y.length : Int)) = true := by simp; omega
    have HE : Hid (eqPs X Y = false) := eqPs_no (by intro e; have := congrArg List.length e; simp at this; omega)
    clear hlen
    go_enter Tryz.func34, Tryz.ntmps34
    go_wp2
    go_ret
    exact ⟨ret_bool HE.out.symm, Below.refl _ _⟩
  have d1 : ((X.length : Int) != (Y.length : Int)) = false := by simp; omega
  have hl2 : Y.length ≤ 9223372036854775807 := by omega
  have HLEN : Hid (X.length = Y.length) := hlen
  clear hlen
  go_enter Tryz.func34, Tryz.ntmps34
  go_wp2
  go_loopw [17] (fun i W => ∃ k : Nat, k ≤ X.length ∧ i = .int .i64 k ∧ (X.take k).map (·.1) = (Y.take k).map (·.1) ∧ Below w.heap.size w W) (fun i _ => X.length - (intOf i).toNat)
  case atStart => exact ⟨0, Nat.zero_le _, rfl, rfl, Below.refl _ _⟩
  case round =>
    obtain ⟨j, hj, rfl, hpre, hb⟩ := hrel
    have HP : Hid ((X.take j).map (·.1) = (Y.take j).map (·.1)) := hpre
    have HB := Lib.hid hb
    clear hpre hb
    by_cases hlt : j < X.length
    case neg =>
      have HE : Hid (eqPs X Y = true) := by
        refine eqPs_yes ?_
        have e := HP.out
        rw [List.take_of_length_le (by omega), List.take_of_length_le (by have := HLEN.out; omega)] at e
        exact e
      go_wp2
      go_ret
      exact ⟨ret_bool HE.out.symm, HB.out⟩
    have hlt2 : j < Y.length := by have := HLEN.out; omega
    have hXr := HX.out.keep HB.out
    have hYr := HY.out.keep HB.out
    obtain ⟨bx, ox, rfl, hbx, hrx⟩ := hXr.reads.at prC_len j hlt
    obtain ⟨by', oy, rfl, hby, hry⟩ := hYr.reads.at prC_len j hlt2
    have HRX := Lib.hid (hXr.roots _ (List.getElem_mem hlt))
    have HRY := Lib.hid (hYr.roots _ (List.getElem_mem hlt2))
    have HT1 : Hid ((X.take (j + 1)).map (·.1) = (X.take j).map (·.1) ++ [X[j].1]) := by show _ = _; rw [List.take_succ_eq_append_getElem hlt, List.map_append]; rfl
    have HT2 : Hid ((Y.take (j + 1)).map (·.1) = (Y.take j).map (·.1) ++ [Y[j].1]) := by show _ = _; rw [List.take_succ_eq_append_getElem hlt2, List.map_append]; rfl
    have HNE : Hid (X[j].1 ≠ Y[j].1 → X.map (·.1) ≠ Y.map (·.1)) := mapP_ne hlt hlt2
    obtain ⟨g0, g1, g2⟩ := pr_cells hrx
    obtain ⟨y0, y1, y2⟩ := pr_cells hry
    clear hrx hry hXr hYr
    generalize X[j] = x at *
    generalize Y[j] = y at *
    obtain ⟨⟨f1, q1, R1⟩, a1, c1⟩ := x
    obtain ⟨⟨f2, q2, R2⟩, a2, c2⟩ := y
    simp only at g0 g1 g2 y0 y1 y2
    have hlti : (j : Int) < (Y.length : Int) := by omega
    go_wp2_with fail
    obtain ⟨W2, hW, -, -, hB2, -⟩ := laid2 wr [Value.int IntKind.i64 f1, .int .i64 q1, .slice a1 R1.length c1] 66 [Value.int IntKind.i64 f2, .int .i64 q2, .slice a2 R2.length c2] 66
    rw [hW]
    clear hW g0 g1 g2 y0 y1 y2
    refine (HG.out W2 ((f1, q1, R1), a1, c1) ((f2, q2, R2), a2, c2) (HRX.out.keep hB2) (HRY.out.keep hB2)).mono ?_
    rintro e w3 ⟨rfl, hb3⟩
    have HB3 := Lib.hid (HB.out.trans ((hB2.trans (hb3.mono hB2.size)).mono HB.out.size))
    clear hB2 hb3 HRX HRY
    by_cases hq : (f1, q1, R1) = (f2, q2, R2)
    · rw [(sameP_iff _ _).2 hq]
      have HQ : Hid ((f1, q1, R1) = (f2, q2, R2)) := hq
      clear hq
      go_wp2
      go_roundw
      case rel => exact ⟨j + 1, hlt, by go_num, by rw [HT1.out, HT2.out, HP.out, HQ.out], HB3.out⟩
      case measure => simp [intOf]; omega
    · have hs : sameP (f1, q1, R1) (f2, q2, R2) = false := by simpa [sameP] using hq
      rw [hs]
      have HE : Hid (eqPs X Y = false) := eqPs_no (HNE.out hq)
      clear hq hs
      go_wp2
      go_ret
      exact ⟨ret_bool HE.out.symm, HB3.out⟩
end Go.Proofs.YthlhnokgcnieeadGreatDoor

/- A hub that is worked into: its box, its row of peers; slices.Clone at steps and at peers; hub.clone. -/
namespace Go.Proofs.YthlhnokgcnieeadGreatDoor
open Go.ChangeShapes Go.WideShapes Go.ChangeAt Go.RowKit
open Orangery (Pl Mv Stp Rc Pr Hb peerE peersE rootsOk hubE histE)

/-- what is read there is not in block g -/
def OffL {α : Type} (g : Nat) (a : Option Addr) (l : List α) : Prop := l = [] ∨ ∀ b off, a = some ⟨b, off, none⟩ → b ≠ g
theorem SlE.off {α : Type} {enc : α → List Value} {w : World} {a : Option Addr} {l : List α} {g : Nat} (h : SlE enc w a l) (hg : w.heap.size ≤ g) : OffL g a l := by
  rcases h with h | ⟨b, off, ha, hb, _⟩
  · exact Or.inl h
  · refine Or.inr (fun b' off' e => ?_)
    rw [ha] at e
    obtain ⟨rfl, _⟩ : b = b' ∧ off = off' := by simpa using e
    omega
theorem SlI.off {w : World} {a : Option Addr} {l : List Int} {g : Nat} (h : SlI w a l) (hg : w.heap.size ≤ g) : OffL g a l := by
  rcases h with h | ⟨b, off, ha, hb, _⟩
  · exact Or.inl h
  · refine Or.inr (fun b' off' e => ?_)
    rw [ha] at e
    obtain ⟨rfl, _⟩ : b = b' ∧ off = off' := by simpa using e
    omega
theorem SlP.off {w : World} {a : Option Addr} {l : List Pl} {g : Nat} (h : SlP w a l) (hg : w.heap.size ≤ g) : OffL g a l := by
  rcases h with h | ⟨b, off, ha, hb, _⟩
  · exact Or.inl h
  · refine Or.inr (fun b' off' e => ?_)
    rw [ha] at e
    obtain ⟨rfl, _⟩ : b = b' ∧ off = off' := by simpa using e
    omega
theorem row_off {α : Type} {w : World} {base n k c : Nat} {e : TypeId} {a : Option Addr} {cs : List Value} {l : List α} {g : Nat} (h : w.ownsRow base e k (.slice a n c) n cs) (hg : g < base) : OffL g a l := by
  refine Or.inr (fun b off ha => ?_)
  rcases h.2 with ⟨h', _⟩ | ⟨g', cap, cur, h', hb, _⟩
  · simp [ha] at h'
  · rw [ha] at h'
    obtain ⟨⟨rfl, _⟩, _⟩ : (b = g' ∧ off = 0) ∧ _ := by simpa using h'
    omega
theorem sets_heap (b g : Nat) (hne : b ≠ g) : ∀ (us : List Value) (o : Nat) (w : World), (w.setCells g o us).heap[b]? = w.heap[b]?
  | [], _, _ => rfl
  | u :: us, o, w => by
    show ((w.setCell ⟨g, o, none⟩ u).setCells g (o + 1) us).heap[b]? = _
    rw [sets_heap b g hne us (o + 1) _]
    exact heap_setCell_other w ⟨g, o, none⟩ b u hne
theorem SlE.sets {α : Type} {enc : α → List Value} {w : World} {a : Option Addr} {l : List α} {g : Nat} (h : SlE enc w a l) (ho : OffL g a l) (us : List Value) (o : Nat) : SlE enc (w.setCells g o us) a l := by
  rcases ho with rfl | ho
  · exact Or.inl rfl
  · exact h.apartH (by simp [Go.Sort.size_setCells]) (fun b off ha _ => sets_heap b g (ho b off ha) us o w)
theorem SlI.setsO {w : World} {a : Option Addr} {l : List Int} {g : Nat} (h : SlI w a l) (ho : OffL g a l) (us : List Value) (o : Nat) : SlI (w.setCells g o us) a l := by
  rcases ho with rfl | ho
  · exact Or.inl rfl
  · exact h.apartH (by simp [Go.Sort.size_setCells]) (fun b off ha _ => sets_heap b g (ho b off ha) us o w)
theorem SlP.sets {w : World} {a : Option Addr} {l : List Pl} {g : Nat} (h : SlP w a l) (ho : OffL g a l) (us : List Value) (o : Nat) : SlP (w.setCells g o us) a l := by
  rcases ho with rfl | ho
  · exact Or.inl rfl
  · exact h.apartH (by simp [Go.Sort.size_setCells]) (fun b off ha _ => sets_heap b g (ho b off ha) us o w)
theorem set_sets (w : World) (g o : Nat) (u : Value) : w.setCell ⟨g, o, none⟩ u = w.setCells g o [u] := rfl

/-- what is read there is in a block of D -/
def InL {α : Type} (D : Nat → Prop) (a : Option Addr) (l : List α) : Prop := l = [] ∨ ∀ b off, a = some ⟨b, off, none⟩ → D b
theorem InL.off {α : Type} {D : Nat → Prop} {a : Option Addr} {l : List α} {g : Nat} (h : InL D a l) (hg : ∀ b, D b → b ≠ g) : OffL g a l := by
  rcases h with h | h
  · exact Or.inl h
  · exact Or.inr (fun b off e => hg b (h b off e))
theorem InL.imp {α : Type} {D D' : Nat → Prop} {a : Option Addr} {l : List α} (h : InL D a l) (hg : ∀ b, D b → D' b) : InL D' a l := by
  rcases h with h | h
  · exact Or.inl h
  · exact Or.inr (fun b off e => hg b (h b off e))
theorem InL.and {α : Type} {D D' : Nat → Prop} {a : Option Addr} {l : List α} (h : InL D a l) (h' : InL D' a l) : InL (fun b => D b ∧ D' b) a l := by
  rcases h with h | h
  · exact Or.inl h
  · rcases h' with h' | h'
    · exact Or.inl h'
    · exact Or.inr (fun b off e => ⟨h b off e, h' b off e⟩)
theorem SlE.isin {α : Type} {enc : α → List Value} {w : World} {a : Option Addr} {l : List α} (h : SlE enc w a l) : InL (· < w.heap.size) a l := by
  rcases h with h | ⟨b, off, ha, hb, _⟩
  · exact Or.inl h
  · refine Or.inr (fun b' off' e => ?_)
    rw [ha] at e
    obtain ⟨rfl, _⟩ : b = b' ∧ off = off' := by simpa using e
    exact hb
theorem SlI.isin {w : World} {a : Option Addr} {l : List Int} (h : SlI w a l) : InL (· < w.heap.size) a l := by
  rcases h with h | ⟨b, off, ha, hb, _⟩
  · exact Or.inl h
  · refine Or.inr (fun b' off' e => ?_)
    rw [ha] at e
    obtain ⟨rfl, _⟩ : b = b' ∧ off = off' := by simpa using e
    exact hb
theorem SlP.isin {w : World} {a : Option Addr} {l : List Pl} (h : SlP w a l) : InL (· < w.heap.size) a l := by
  rcases h with h | ⟨b, off, ha, hb, _⟩
  · exact Or.inl h
  · refine Or.inr (fun b' off' e => ?_)
    rw [ha] at e
    obtain ⟨rfl, _⟩ : b = b' ∧ off = off' := by simpa using e
    exact hb
theorem row_in {α : Type} {w : World} {base n k c : Nat} {e : TypeId} {a : Option Addr} {cs : List Value} {l : List α} (h : w.ownsRow base e k (.slice a n c) n cs) : InL (base ≤ ·) a l := by
  refine Or.inr (fun b off ha => ?_)
  rcases h.2 with ⟨h', _⟩ | ⟨g', cap, cur, h', hb, _⟩
  · simp [ha] at h'
  · rw [ha] at h'
    obtain ⟨⟨rfl, _⟩, _⟩ : (b = g' ∧ off = 0) ∧ _ := by simpa using h'
    exact hb

/-- a row of three peers in a block -/
structure Row3 (W : World) (g : Nat) (X : List Pm) : Prop where
  blk : Blk W g (X.flatMap prC)
  len : X.length = 3
  roots : ∀ x ∈ X, PIn W x
  off : ∀ x ∈ X, OffL g x.2.1 x.1.2.2
theorem Row3.keep {W W' : World} {g : Nat} {X : List Pm} (h : Row3 W g X) (hb : Below W.heap.size W W') : Row3 W' g X :=
  ⟨h.blk.keep hb, h.len, fun x hx => (h.roots x hx).keep hb, h.off⟩
/-- another block is written -/
theorem Row3.other {W : World} {g b : Nat} {X : List Pm} (h : Row3 W g X) (hne : g ≠ b) (ho : ∀ x ∈ X, OffL b x.2.1 x.1.2.2) (us : List Value) (o : Nat) : Row3 (W.setCells b o us) g X :=
  ⟨h.blk.others hne us o, h.len, fun x hx => ⟨(h.roots x hx).1.setsO (ho x hx) us o, (h.roots x hx).2⟩, h.off⟩
theorem Row3.three {W : World} {g : Nat} {X : List Pm} (h : Row3 W g X) : ∃ x y z, X = [x, y, z] := by
  have := h.len
  match X, this with
  | [x, y, z], _ => exact ⟨x, y, z, rfl⟩
/-- one peer of it set, cell by cell or whole -/
theorem Row3.set {W : World} {g : Nat} {X : List Pm} (h : Row3 W g X) (k : Nat) (hk : k < 3) (x : Pm) (hx : PIn W x) (ho : OffL g x.2.1 x.1.2.2) : Row3 (W.setCells g (k * 3) (prC x)) g (X.set k x) := by
  have hroots : ∀ y ∈ X.set k x, PIn (W.setCells g (k * 3) (prC x)) y := by
    intro y hy
    rcases List.mem_or_eq_of_mem_set hy with hy | rfl
    · exact ⟨(h.roots y hy).1.setsO (h.off y hy) _ _, (h.roots y hy).2⟩
    · exact ⟨hx.1.setsO ho _ _, hx.2⟩
  have hoff : ∀ y ∈ X.set k x, OffL g y.2.1 y.1.2.2 := by
    intro y hy
    rcases List.mem_or_eq_of_mem_set hy with hy | rfl
    · exact h.off y hy
    · exact ho
  refine ⟨?_, by simpa using h.len, hroots, hoff⟩
  obtain ⟨x0, x1, x2, rfl⟩ := h.three
  have hb := h.blk
  match k, hk with
  | 0, _ => exact (((hb.set 0 (by simp [prC]) _).set 1 (by simp [prC]) _).set 2 (by simp [prC]) _)
  | 1, _ => exact (((hb.set 3 (by simp [prC]) _).set 4 (by simp [prC]) _).set 5 (by simp [prC]) _)
  | 2, _ => exact (((hb.set 6 (by simp [prC]) _).set 7 (by simp [prC]) _).set 8 (by simp [prC]) _)
theorem Row3.setSeq {W : World} {g : Nat} {X : List Pm} (h : Row3 W g X) (k : Nat) (hk : k < X.length) (q : Int) : Row3 (W.setCell ⟨g, k * 3 + 1, none⟩ (.int .i64 q)) g (X.set k ((X[k].1.1, q, X[k].1.2.2), X[k].2)) := by
  have hm : X[k] ∈ X := List.getElem_mem hk
  have hroots : ∀ y ∈ X.set k ((X[k].1.1, q, X[k].1.2.2), X[k].2), PIn (W.setCell ⟨g, k * 3 + 1, none⟩ (.int .i64 q)) y := by
    intro y hy
    rcases List.mem_or_eq_of_mem_set hy with hy | rfl
    · exact ⟨(h.roots y hy).1.setsO (h.off y hy) [_] _, (h.roots y hy).2⟩
    · exact ⟨(h.roots _ hm).1.setsO (h.off _ hm) [_] _, (h.roots _ hm).2⟩
  have hoff : ∀ y ∈ X.set k ((X[k].1.1, q, X[k].1.2.2), X[k].2), OffL g y.2.1 y.1.2.2 := by
    intro y hy
    rcases List.mem_or_eq_of_mem_set hy with hy | rfl
    · exact h.off y hy
    · exact h.off X[k] hm
  refine ⟨?_, by simpa using h.len, hroots, hoff⟩
  have hb := h.blk
  clear hroots hoff hm
  obtain ⟨x0, x1, x2, rfl⟩ := h.three
  match k, hk with
  | 0, _ => exact hb.set 1 (by simp [prC]) _
  | 1, _ => exact hb.set 4 (by simp [prC]) _
  | 2, _ => exact hb.set 7 (by simp [prC]) _
theorem Row3.setRoots {W : World} {g : Nat} {X : List Pm} (h : Row3 W g X) (k : Nat) (hk : k < X.length) (R : List Int) (a : Option Addr) (c : Nat) (hr : SlI W a R) (hl : R.length ≤ maxLen) (ho : OffL g a R) :
    Row3 (W.setCell ⟨g, k * 3 + 2, none⟩ (.slice a R.length c)) g (X.set k ((X[k].1.1, X[k].1.2.1, R), a, c)) := by
  have hroots : ∀ y ∈ X.set k ((X[k].1.1, X[k].1.2.1, R), a, c), PIn (W.setCell ⟨g, k * 3 + 2, none⟩ (.slice a R.length c)) y := by
    intro y hy
    rcases List.mem_or_eq_of_mem_set hy with hy | rfl
    · exact ⟨(h.roots y hy).1.setsO (h.off y hy) [_] _, (h.roots y hy).2⟩
    · exact ⟨hr.setsO ho [_] _, hl⟩
  have hoff : ∀ y ∈ X.set k ((X[k].1.1, X[k].1.2.1, R), a, c), OffL g y.2.1 y.1.2.2 := by
    intro y hy
    rcases List.mem_or_eq_of_mem_set hy with hy | rfl
    · exact h.off y hy
    · exact ho
  refine ⟨?_, by simpa using h.len, hroots, hoff⟩
  have hb := h.blk
  clear hroots hoff
  obtain ⟨x0, x1, x2, rfl⟩ := h.three
  match k, hk with
  | 0, _ => exact hb.set 2 (by simp [prC]) _
  | 1, _ => exact hb.set 5 (by simp [prC]) _
  | 2, _ => exact hb.set 8 (by simp [prC]) _
theorem Row3.reads {W : World} {g : Nat} {X : List Pm} (h : Row3 W g X) : SlH W (some ⟨g, 0, none⟩) X := ⟨Or.inr ⟨g, 0, rfl, h.blk.lt, h.blk.range⟩, h.roots⟩
theorem Row3.cells {W : World} {g : Nat} {X : List Pm} (h : Row3 W g X) (k : Nat) (hk : k < X.length) :
    W.cell? ⟨g, k * 3, none⟩ = some (.int .i64 X[k].1.1) ∧ W.cell? ⟨g, k * 3 + 1, none⟩ = some (.int .i64 X[k].1.2.1) ∧ W.cell? ⟨g, k * 3 + 2, none⟩ = some (.slice X[k].2.1 X[k].1.2.2.length X[k].2.2) := by
  obtain ⟨b, off, e, _, hr⟩ := h.reads.reads.at prC_len k hk
  obtain ⟨rfl, rfl⟩ : g = b ∧ 0 = off := by simpa using e
  rw [Nat.zero_add] at hr
  exact pr_cells hr
/-- a row of the call's own -/
theorem own_blk {α : Type} {enc : α → List Value} {k : Nat} {e : TypeId} {w : World} {base g cap : Nat} {l : List α} (h : OwnE enc k e w base (.slice (some ⟨g, 0, none⟩) l.length cap) l) : Blk w g (l.flatMap enc) ∧ base ≤ g := by
  rcases h.2 with ⟨h', _⟩ | ⟨g', cap', cur, h', hb, hg, hn, hm, hs, ht⟩
  · simp at h'
  · obtain ⟨rfl, rfl⟩ : g = g' ∧ cap = cap' := by simpa using h'
    refine ⟨⟨blk_lt hg, fun j => ?_, fun i v hv => ?_⟩, hb⟩
    · unfold World.frozen?
      simp only [hg]
      simp
    · rw [← ht] at hv
      rw [Go.Joins.cell_of_block hg]
      have hi : i < l.length * k := by
        have := (List.getElem?_eq_some_iff.1 hv).1
        simp at this
        omega
      rw [List.getElem?_take_of_lt hi] at hv
      simpa using hv

set_option maxHeartbeats 1000000 in
theorem cloneSteps_any (w : World) (a : Option Addr) (c : Nat) (l : List Stp) (hl : l.length ≤ 1000) (h : SlE stC w a l) :
    Calls Tryz.prog 41 #[.slice a l.length c] w
      fun e w' => ∃ v, e = .returned v ∧ OwnE stC 11 95 w' w.heap.size v l ∧ Below w.heap.size w w' := by
  obtain ⟨i0, hi, hz0, hz1, hz2⟩ := info_parts infoStep
  have hq := fun (W : World) (a : Option Addr) (n c : Nat) => Lib.run_eql_slice_nil (P := Tryz.prog) W 23 95 a n c 0 0 Tryz.underlying23
  cases a with
  | none =>
    have hl0 : l = [] := by
      rcases h with h | ⟨b, off, h, _⟩
      · exact h
      · simp at h
    subst hl0
    go_enter Tryz.func41, Tryz.ntmps41
    go_wp2
    go_ret
    exact ⟨_, rfl, OwnE.nil _ _, Below.refl _ _⟩
  | some ad =>
    have hB := Go.Joins.below_alloc1 w (Obj.cells #[] 95)
    have hP := h.below hB
    have hown : (w.alloc (Obj.cells #[] 95)).ownsRow w.heap.size 95 11 (.slice (some ⟨w.heap.size, 0, none⟩) 0 0) 0 [] :=
      ⟨rfl, Or.inr ⟨w.heap.size, 0, #[], rfl, Nat.le_refl _, blk_new rfl, Nat.le_refl _, by unfold maxLen; omega, rfl, rfl⟩⟩
    have hnews : ∀ j u, (l.flatMap stC)[j]? = some u → (w.alloc (Obj.cells #[] 95)).cell? (ad.add j) = some u := by
      rcases hP with hP | ⟨b, off, ha, _, hp⟩
      · intro j u hj; subst hP; simp at hj
      · simp at ha
        subst ha
        intro j u hj
        rw [Addr.add_mid]
        exact hp j u hj
    have HN : Hid (∀ j u, (l.flatMap stC)[j]? = some u → (w.alloc (Obj.cells #[] 95)).cell? (ad.add j) = some u) := hnews
    clear hP h hnews
    go_enter Tryz.func41, Tryz.ntmps41
    go_wp2_with (at_builtin; refine wpList_append_own _ rfl _ _ 23 rfl w.heap.size 95 i0 _ 11 88 Tryz.underlying23 hi hz0 hz1 hz2 rfl (by decide) _ _ _ rfl hown ad l.length c (l.flatMap stC) rfl (flatE_len stC_len l) ?c1 ?c2 ?c3 ?c4 ?c5 ?_)
    case c1 => exact HN.out
    case c2 => exact flat_oneE stC_one l
    case c3 => unfold maxLen; omega
    case c4 => omega
    case c5 => exact hB.size
    · intro v' w1 hown' hgrow _
      have hb1 := hB.trans (below_grown hown hB.size hgrow)
      have hO : OwnE stC 11 95 w1 w.heap.size v' l := by simpa [OwnE] using hown'
      clear hgrow hown hown'
      go_wp2
      go_ret
      exact ⟨_, rfl, hO, hb1⟩

set_option maxHeartbeats 1000000 in
theorem clonePeers_any (w : World) (a : Option Addr) (c : Nat) (l : List Pm) (hl : l.length = 3) (h : SlE prC w a l) :
    Calls Tryz.prog 43 #[.slice a l.length c] w
      fun e w' => ∃ g cap, e = .returned (.slice (some ⟨g, 0, none⟩) l.length cap) ∧ OwnE prC 3 66 w' w.heap.size (.slice (some ⟨g, 0, none⟩) l.length cap) l ∧ Below w.heap.size w w' := by
  obtain ⟨i0, hi, hz0, hz1, hz2⟩ := info_parts infoPeer
  have hq := fun (W : World) (a : Option Addr) (n c : Nat) => Lib.run_eql_slice_nil (P := Tryz.prog) W 29 66 a n c 0 0 Tryz.underlying29
  cases a with
  | none =>
    exfalso
    rcases h with h | ⟨b, off, h, _⟩
    · subst h; simp at hl
    · simp at h
  | some ad =>
    have hB := Go.Joins.below_alloc1 w (Obj.cells #[] 66)
    have hP := h.below hB
    have hown : (w.alloc (Obj.cells #[] 66)).ownsRow w.heap.size 66 3 (.slice (some ⟨w.heap.size, 0, none⟩) 0 0) 0 [] :=
      ⟨rfl, Or.inr ⟨w.heap.size, 0, #[], rfl, Nat.le_refl _, blk_new rfl, Nat.le_refl _, by unfold maxLen; omega, rfl, rfl⟩⟩
    have hnews : ∀ j u, (l.flatMap prC)[j]? = some u → (w.alloc (Obj.cells #[] 66)).cell? (ad.add j) = some u := by
      rcases hP with hP | ⟨b, off, ha, _, hp⟩
      · intro j u hj; subst hP; simp at hj
      · simp at ha
        subst ha
        intro j u hj
        rw [Addr.add_mid]
        exact hp j u hj
    have HN : Hid (∀ j u, (l.flatMap prC)[j]? = some u → (w.alloc (Obj.cells #[] 66)).cell? (ad.add j) = some u) := hnews
    have HL := Lib.hid hl
    have hl2 : l.length ≤ 1000 := by omega
    clear hP h hnews hl
    go_enter Tryz.func43, Tryz.ntmps43
    go_wp2_with (at_builtin; refine wpList_append_own _ rfl _ _ 29 rfl w.heap.size 66 i0 _ 3 40 Tryz.underlying29 hi hz0 hz1 hz2 rfl (by decide) _ _ _ rfl hown ad l.length c (l.flatMap prC) rfl (flatE_len prC_len l) ?c1 ?c2 ?c3 ?c4 ?c5 ?_)
    case c1 => exact HN.out
    case c2 => exact flat_oneE prC_one l
    case c3 => unfold maxLen; omega
    case c4 => omega
    case c5 => exact hB.size
    · intro v' w1 hown' hgrow _
      have hb1 := hB.trans (below_grown hown hB.size hgrow)
      have hO : OwnE prC 3 66 w1 w.heap.size v' l := by simpa [OwnE] using hown'
      clear hgrow hown hown'
      go_wp2
      go_ret
      have hl := HL.out
      have hO2 := hO
      rcases hO2.2 with ⟨h', hn⟩ | ⟨g', cap', cur, h', _⟩
      · omega
      · subst h'
        exact ⟨_, _, rfl, hO, hb1⟩
theorem clonePeers3_any (w : World) (a : Option Addr) (c : Nat) (l : List Pm) (hl : l.length = 3) (h : SlE prC w a l) :
    Calls Tryz.prog 43 #[.slice a 3 c] w
      fun e w' => ∃ g cap, e = .returned (.slice (some ⟨g, 0, none⟩) 3 cap) ∧ Blk w' g (l.flatMap prC) ∧ w.heap.size ≤ g ∧ Below w.heap.size w w' := by
  have h1 := clonePeers_any w a c l hl h
  rw [hl] at h1
  refine h1.mono ?_
  rintro e w' ⟨g, cap, rfl, ho, hb⟩
  rw [← hl] at ho
  exact ⟨g, cap, rfl, (own_blk ho).1, (own_blk ho).2, hb⟩
end Go.Proofs.YthlhnokgcnieeadGreatDoor

