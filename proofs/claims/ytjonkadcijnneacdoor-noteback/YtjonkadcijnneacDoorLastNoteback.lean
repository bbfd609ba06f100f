/- For every two records and every text orangerylaw.NoteBack answers true: what is printed is read, what is read is printed as it was, unlike records have unlike texts. The card: the library's variables that are read are tied to the program's text. No condition. -/
import Derived.Deep.Slices
import Derived.Deep.Strs
import Derived.ChangeOld
import Derived.SizedLaws
import Derived.Lib.AppendZerosOnto
import Derived.Laws.AppendOwnNone
import Derived.Lib.LaidTab
import Derived.Stop.LaidErr
import Derived.Shelf.Vars
import Derived.Test.YtjonkadcijnneacDoorCards
import Derived.Test.YtjonkadcijnneacDoorTie
import Derived.Deep.DeepHandedRow
import Derived.Lay
import Derived.SevenTiedAt
import Derived.ChangeMaps5
import Derived.Test.YtjonkadcijnneacDoorP05
import Derived.Test.YtjonkadcijnneacDoorP07
import Derived.Test.YtjonkadcijnneacDoorP03
import Derived.Test.YtjonkadcijnneacDoorP04
/- note.Same, orangeryref.SameRec. -/
namespace Go.Proofs.YtjonkadcijnneacDoor
open Go.ChangeShapes Go.WideShapes Go.ChangeAt Go.RowKit
open Orangery (Pl Mv Rc)

def sameR (r q : Rc) : Bool := decide (r.1 = q.1 ∧ r.2.1 = q.2.1 ∧ r.2.2.1 = q.2.2.1 ∧ r.2.2.2.1 = q.2.2.2.1 ∧ r.2.2.2.2 = q.2.2.2.2)
theorem sameR_iff (r q : Rc) : sameR r q = true ↔ r = q := by
  obtain ⟨k, u, f, R, o⟩ := r
  obtain ⟨k', u', f', R', p⟩ := q
  simp only [sameR, decide_eq_true_eq, Prod.mk.injEq]
theorem sameR_yes {r q : Rc} (h : r = q) : sameR r q = true := (sameR_iff r q).2 h
theorem sameR_no {r q : Rc} (h : r ≠ q) : sameR r q = false := by
  cases hq : sameR r q
  · rfl
  · exact absurd ((sameR_iff r q).1 hq) h
theorem eqIs_ne {l m : List Int} (h : eqIs l m = false) : l ≠ m := by simpa [eqIs] using h
theorem eqIs_eq {l m : List Int} (h : eqIs l m = true) : l = m := by simpa [eqIs] using h
theorem below_drewN' (B : Nat) (w : World) (n : Nat) : Below B w (w.drewN n) := ⟨rfl, rfl, rfl, Nat.le_refl _, fun _ _ => rfl⟩


set_option maxHeartbeats 2000000 in
theorem nsame_any (w : World) (k u f k' u' f' : Int) (a a' : Option Addr) (c c' : Nat) (R R' : List Int) (o p : Mv) (hl : R.length ≤ maxLen) (h : SlI w a R) (h' : SlI w a' R') :
    Calls Tryd.prog 10 #[rcV k u f (.slice a R.length c) o, rcV k' u' f' (.slice a' R'.length c') p] w fun e w' => e = .returned (.bool (sameR (k, u, f, R, o) (k', u', f', R', p))) ∧ Below w.heap.size w w' := by
  by_cases ek : k = k'
  case neg =>
    have HE : Hid (sameR (k, u, f, R, o) (k', u', f', R', p) = false) := sameR_no (by intro e; apply ek; simp at e; simp [e])
    have dk : (k == k') = false := by simpa using ek
    clear ek
    go_enter Tryd.func10, Tryd.ntmps10
    go_wp2
    go_ret
    exact ⟨ret_bool HE.out.symm, Go.Joins.below_alloc2 w _ _⟩
  subst ek
  by_cases eu : u = u'
  case neg =>
    have HE : Hid (sameR (k, u, f, R, o) (k, u', f', R', p) = false) := sameR_no (by intro e; apply eu; simp at e; simp [e])
    have du : (u == u') = false := by simpa using eu
    clear eu
    go_enter Tryd.func10, Tryd.ntmps10
    go_wp2
    go_ret
    exact ⟨ret_bool HE.out.symm, Go.Joins.below_alloc2 w _ _⟩
  subst eu
  by_cases ef : f = f'
  case neg =>
    have HE : Hid (sameR (k, u, f, R, o) (k, u, f', R', p) = false) := sameR_no (by intro e; apply ef; simp at e; simp [e])
    have df : (f == f') = false := by simpa using ef
    clear ef
    go_enter Tryd.func10, Tryd.ntmps10
    go_wp2
    go_ret
    exact ⟨ret_bool HE.out.symm, Go.Joins.below_alloc2 w _ _⟩
  subst ef
  have hq := run_eql_opg o p
  have hgd := guard_op
  go_enter Tryd.func10, Tryd.ntmps10
  go_wp2_with fail
  obtain ⟨W0, hW, hA, hC, hB, -⟩ := laid2 w [.int .i64 k, .int .i64 u, .int .i64 f, .slice a R.length c, .int .i64 o.1, .int .i64 o.2.1, .int .i64 o.2.2.1.1, .int .i64 o.2.2.1.2.1, .int .i64 o.2.2.1.2.2, .int .i64 o.2.2.2.1, .int .i64 o.2.2.2.2] 28 [.int .i64 k, .int .i64 u, .int .i64 f, .slice a' R'.length c', .int .i64 p.1, .int .i64 p.2.1, .int .i64 p.2.2.1.1, .int .i64 p.2.2.1.2.1, .int .i64 p.2.2.1.2.2, .int .i64 p.2.2.2.1, .int .i64 p.2.2.2.2] 28
  rw [hW]
  clear hW
  refine (equal_is W0 a a' c c' R R' hl (h.below hB) (h'.below hB)).mono ?_
  rintro e w1 ⟨rfl, n, rfl⟩
  have hb1 : Below W0.heap.size W0 (W0.drewN n) := below_drewN' _ _ _
  have hA1 := hA.keep hb1
  have hC1 := hC.keep hb1
  have HB1 : Hid (Below w.heap.size w (W0.drewN n)) := hB.trans (hb1.mono hB.size)
  clear hA hC hB hb1 h h'
  generalize W0.drewN n = W1 at *
  have x4 := hA1.at 4 rfl
  have y4 := hC1.at 4 rfl
  have x5 := hA1.at 5 rfl
  have y5 := hC1.at 5 rfl
  have x6 := hA1.at 6 rfl
  have y6 := hC1.at 6 rfl
  have x7 := hA1.at 7 rfl
  have y7 := hC1.at 7 rfl
  have x8 := hA1.at 8 rfl
  have y8 := hC1.at 8 rfl
  have x9 := hA1.at 9 rfl
  have y9 := hC1.at 9 rfl
  have x10 := hA1.at 10 rfl
  have y10 := hC1.at 10 rfl
  clear hA1 hC1
  cases he : eqIs R R'
  · have HE : Hid (sameR (k, u, f, R, o) (k, u, f, R', p) = false) := sameR_no (by intro e; simp at e; exact eqIs_ne he e.1)
    go_wp2
    go_ret
    exact ⟨ret_bool HE.out.symm, HB1.out⟩
  · have HE : Hid (sameR (k, u, f, R, o) (k, u, f, R', p) = decide (o = p)) := by
      have := eqIs_eq he
      subst this
      show sameR _ _ = _
      simp [sameR]
    clear he
    go_wp2
    go_ret
    exact ⟨ret_bool HE.out.symm, HB1.out⟩

set_option maxHeartbeats 2000000 in
theorem rsameRec_any (w : World) (k u f k' u' f' : Int) (a a' : Option Addr) (c c' : Nat) (R R' : List Int) (o p : Mv) (hl : R.length ≤ maxLen) (h : SlI w a R) (h' : SlI w a' R') :
    Calls Tryd.prog 11 #[rcV k u f (.slice a R.length c) o, rcV k' u' f' (.slice a' R'.length c') p] w fun e w' => e = .returned (.bool (sameR (k, u, f, R, o) (k', u', f', R', p))) ∧ Below w.heap.size w w' := by
  by_cases ek : k = k'
  case neg =>
    have HE : Hid (sameR (k, u, f, R, o) (k', u', f', R', p) = false) := sameR_no (by intro e; apply ek; simp at e; simp [e])
    have dk : (k == k') = false := by simpa using ek
    clear ek
    go_enter Tryd.func11, Tryd.ntmps11
    go_wp2
    go_ret
    exact ⟨ret_bool HE.out.symm, Go.Joins.below_alloc2 w _ _⟩
  subst ek
  by_cases eu : u = u'
  case neg =>
    have HE : Hid (sameR (k, u, f, R, o) (k, u', f', R', p) = false) := sameR_no (by intro e; apply eu; simp at e; simp [e])
    have du : (u == u') = false := by simpa using eu
    clear eu
    go_enter Tryd.func11, Tryd.ntmps11
    go_wp2
    go_ret
    exact ⟨ret_bool HE.out.symm, Go.Joins.below_alloc2 w _ _⟩
  subst eu
  by_cases ef : f = f'
  case neg =>
    have HE : Hid (sameR (k, u, f, R, o) (k, u, f', R', p) = false) := sameR_no (by intro e; apply ef; simp at e; simp [e])
    have df : (f == f') = false := by simpa using ef
    clear ef
    go_enter Tryd.func11, Tryd.ntmps11
    go_wp2
    go_ret
    exact ⟨ret_bool HE.out.symm, Go.Joins.below_alloc2 w _ _⟩
  subst ef
  have hq := run_eql_opg o p
  have hgd := guard_op
  go_enter Tryd.func11, Tryd.ntmps11
  go_wp2_with fail
  obtain ⟨W0, hW, hA, hC, hB, -⟩ := laid2 w [.int .i64 k, .int .i64 u, .int .i64 f, .slice a R.length c, .int .i64 o.1, .int .i64 o.2.1, .int .i64 o.2.2.1.1, .int .i64 o.2.2.1.2.1, .int .i64 o.2.2.1.2.2, .int .i64 o.2.2.2.1, .int .i64 o.2.2.2.2] 28 [.int .i64 k, .int .i64 u, .int .i64 f, .slice a' R'.length c', .int .i64 p.1, .int .i64 p.2.1, .int .i64 p.2.2.1.1, .int .i64 p.2.2.1.2.1, .int .i64 p.2.2.1.2.2, .int .i64 p.2.2.2.1, .int .i64 p.2.2.2.2] 28
  rw [hW]
  clear hW
  refine (equal_is W0 a a' c c' R R' hl (h.below hB) (h'.below hB)).mono ?_
  rintro e w1 ⟨rfl, n, rfl⟩
  have hb1 : Below W0.heap.size W0 (W0.drewN n) := below_drewN' _ _ _
  have hA1 := hA.keep hb1
  have hC1 := hC.keep hb1
  have HB1 : Hid (Below w.heap.size w (W0.drewN n)) := hB.trans (hb1.mono hB.size)
  clear hA hC hB hb1 h h'
  generalize W0.drewN n = W1 at *
  have x4 := hA1.at 4 rfl
  have y4 := hC1.at 4 rfl
  have x5 := hA1.at 5 rfl
  have y5 := hC1.at 5 rfl
  have x6 := hA1.at 6 rfl
  have y6 := hC1.at 6 rfl
  have x7 := hA1.at 7 rfl
  have y7 := hC1.at 7 rfl
  have x8 := hA1.at 8 rfl
  have y8 := hC1.at 8 rfl
  have x9 := hA1.at 9 rfl
  have y9 := hC1.at 9 rfl
  have x10 := hA1.at 10 rfl
  have y10 := hC1.at 10 rfl
  clear hA1 hC1
  cases he : eqIs R R'
  · have HE : Hid (sameR (k, u, f, R, o) (k, u, f, R', p) = false) := sameR_no (by intro e; simp at e; exact eqIs_ne he e.1)
    go_wp2
    go_ret
    exact ⟨ret_bool HE.out.symm, HB1.out⟩
  · have HE : Hid (sameR (k, u, f, R, o) (k, u, f, R', p) = decide (o = p)) := by
      have := eqIs_eq he
      subst this
      show sameR _ _ = _
      simp [sameR]
    clear he
    go_wp2
    go_ret
    exact ⟨ret_bool HE.out.symm, HB1.out⟩
end Go.Proofs.YtjonkadcijnneacDoor

/- orangerylaw.NoteBack: the walk. -/
namespace Go.Proofs.YtjonkadcijnneacDoor
open Go.ChangeShapes Go.WideShapes Go.ChangeAt Go.RowKit
open Orangery (Mv Rc noOp recText recT checkRec parseE parseR)

set_option maxHeartbeats 8000000 in
set_option maxRecDepth 100000 in
theorem noteBack_any (w : World) (k u f : Int) (a : Option Addr) (c : Nat) (R : List Int) (o : Mv) (k' u' f' : Int) (a' : Option Addr) (c' : Nat) (R' : List Int) (p : Mv) (t : List UInt8)
    (m1 : R.length ≤ maxLen) (n1 : a = none → c = 0) (h1 : SlI w a R) (m2 : R'.length ≤ maxLen) (n2 : a' = none → c' = 0) (h2 : SlI w a' R') (hl : t.length ≤ maxLen) (hv : Vars w) :
    Calls Tryd.prog 4 #[rcV k u f (.slice a R.length c) o, rcV k' u' f' (.slice a' R'.length c') p, txV t] w
      fun e w' => e = .returned (.bool true) ∧ Below w.heap.size w w' := by
  go_enter Tryd.func4, Tryd.ntmps4
  go_wp2_with fail
  obtain ⟨W0, hW, hA0, hC0, hB, -⟩ := laid2 w [Value.int IntKind.i64 k, .int .i64 u, .int .i64 f, .slice a R.length c, .int .i64 o.1, .int .i64 o.2.1, .int .i64 o.2.2.1.1, .int .i64 o.2.2.1.2.1, .int .i64 o.2.2.1.2.2, .int .i64 o.2.2.2.1, .int .i64 o.2.2.2.2] 28 [Value.int IntKind.i64 k', .int .i64 u', .int .i64 f', .slice a' R'.length c', .int .i64 p.1, .int .i64 p.2.1, .int .i64 p.2.2.1.1, .int .i64 p.2.2.1.2.1, .int .i64 p.2.2.1.2.2, .int .i64 p.2.2.2.1, .int .i64 p.2.2.2.2] 28
  rw [hW]
  clear hW
  have hI0 := h1.below hB
  have hJ0 := h2.below hB
  have HV0 := Lib.hid (hv.on hB)
  have HB0 := Lib.hid hB
  clear h1 h2 hv hB
  refine (nprint_any W0 k u f a c R o m1 n1 hI0 HV0.out).mono ?_
  rintro e w1 ⟨rfl, hb⟩
  have hA1 := hA0.keep hb
  have hC1 := hC0.keep hb
  have hI1 := hI0.below hb
  have hJ1 := hJ0.below hb
  have HV1 := Lib.hid (HV0.out.on hb)
  have HB1 : Hid (Below w.heap.size w w1) := HB0.out.trans (hb.mono HB0.out.size)
  clear hA0 hC0 hI0 hJ0 HV0 HB0  hb
  have y0 := hC1.at 0 rfl
  have y1 := hC1.at 1 rfl
  have y2 := hC1.at 2 rfl
  have y3 := hC1.at 3 rfl
  have y4 := hC1.at 4 rfl
  have y5 := hC1.at 5 rfl
  have y6 := hC1.at 6 rfl
  have y7 := hC1.at 7 rfl
  have y8 := hC1.at 8 rfl
  have y9 := hC1.at 9 rfl
  have y10 := hC1.at 10 rfl
  go_wp2_with fail
  refine (nprint_any w1 k' u' f' a' c' R' p m2 n2 hJ1 HV1.out).mono ?_
  rintro e w2 ⟨rfl, hb⟩
  clear y0 y1 y2 y3 y4 y5 y6 y7 y8 y9 y10
  have hA2 := hA1.keep hb
  have hC2 := hC1.keep hb
  have hI2 := hI1.below hb
  have hJ2 := hJ1.below hb
  have HV2 := Lib.hid (HV1.out.on hb)
  have HB2 : Hid (Below w.heap.size w w2) := HB1.out.trans (hb.mono HB1.out.size)
  clear hA1 hC1 hI1 hJ1 HV1 HB1  hb
  go_wp2_with fail
  refine (lined_any w2 HV2.out).mono ?_
  rintro e w3 ⟨rfl, hb⟩
  have hA3 := hA2.keep hb
  have hC3 := hC2.keep hb
  have hI3 := hI2.below hb
  have hJ3 := hJ2.below hb
  have HV3 := Lib.hid (HV2.out.on hb)
  have HB3 : Hid (Below w.heap.size w w3) := HB2.out.trans (hb.mono HB2.out.size)
  clear hA2 hC2 hI2 hJ2 HV2 HB2  hb
  by_cases hr : checkRec (k, u, f, R, o) = 0
  case neg =>
    have d1 : (checkRec (k, u, f, R, o) == 0) = false := by simpa using hr
    clear hr
    generalize checkRec (k, u, f, R, o) = E1 at *
    generalize recText (k, u, f, R, o) = T1 at *
    go_wp2_with fail
    refine (nparse_any w3 t hl HV3.out).mono ?_
    rintro e w4 ⟨⟨vP, rfl, za, zc, eP, hzI, hzF, hzN⟩, hb⟩
    have HTP : Hid (parseE t = 0 → checkRec (parseR t) = 0 ∧ recT (parseR t) = t) := fun e => Orangery.text_parse e
    have HB4 : Hid (Below w.heap.size w w4) := HB3.out.trans (hb.mono HB3.out.size)
    have HV4 := Lib.hid (HV3.out.on hb)
    clear hb HV3 HB3 hA3 hC3 hI3 hJ3
    generalize parseR t = z at *
    obtain ⟨zk, zu, zf, zR, zo⟩ := z
    replace eP : vP = rcV zk zu zf (.slice za zR.length zc) zo := eP
    replace hzI : SlI w4 za zR := hzI
    subst eP
    by_cases hg : parseE t = 0
    · obtain ⟨hz0, hzt⟩ := HTP.out hg
      have HZ : Hid (recText (zk, zu, zf, zR, zo) = t ∧ checkRec (zk, zu, zf, zR, zo) = 0) := ⟨(recText_ok hz0).trans hzt, hz0⟩
      have hzl := roots_few hz0
      rw [hg]
      clear hg HTP hz0 hzt hzF
      have hbz := Go.Joins.below_alloc1 w4 (Obj.cells [Value.int IntKind.i64 zk, .int .i64 zu, .int .i64 zf, .slice za zR.length zc, .int .i64 zo.1, .int .i64 zo.2.1, .int .i64 zo.2.2.1.1, .int .i64 zo.2.2.1.2.1, .int .i64 zo.2.2.1.2.2, .int .i64 zo.2.2.2.1, .int .i64 zo.2.2.2.2].toArray 28)
      have hpr := nprint_any _ zk zu zf za zc zR zo (by unfold maxLen; omega) hzN (hzI.below hbz) (HV4.out.on hbz)
      rw [HZ.out.1, HZ.out.2] at hpr
      have HPR := Lib.hid hpr
      clear hpr
      go_wp2_with fail
      refine HPR.out.mono ?_
      rintro e wz ⟨rfl, hb⟩
      have HBz : Hid (Below w.heap.size w wz) := HB4.out.trans ((hbz.trans (hb.mono hbz.size)).mono HB4.out.size)
      have dT : (t == t) = true := by simp
      clear hb hbz HPR hzI
      go_wp2
      go_ret
      exact ⟨rfl, HBz.out⟩
    · have d8 : (parseE t != 0) = true := by simpa using hg
      have HBz : Hid (Below w.heap.size w (w4.alloc (Obj.cells [Value.int IntKind.i64 zk, .int .i64 zu, .int .i64 zf, .slice za zR.length zc, .int .i64 zo.1, .int .i64 zo.2.1, .int .i64 zo.2.2.1.1, .int .i64 zo.2.2.1.2.1, .int .i64 zo.2.2.1.2.2, .int .i64 zo.2.2.2.1, .int .i64 zo.2.2.2.2].toArray 28))) := HB4.out.alloc HB4.out.size _
      clear hg HTP hzI hzF
      generalize parseE t = E at *
      go_wp2
      go_ret
      exact ⟨rfl, HBz.out⟩
  have HCR : Hid (checkRec (k, u, f, R, o) = 0) := hr
  rw [hr, recText_ok hr]
  clear hr
  by_cases hq : checkRec (k', u', f', R', p) = 0
  case neg =>
    have d1 : (checkRec (k', u', f', R', p) == 0) = false := by simpa using hq
    clear hq
    generalize checkRec (k', u', f', R', p) = E2 at *
    generalize recText (k', u', f', R', p) = T2 at *
    have hpa := nparse_any w3 (recT (k, u, f, R, o)) (by have := Orangery.recT_len HCR.out; unfold maxLen; omega) HV3.out
    rw [(Orangery.parse_text HCR.out).1, (Orangery.parse_text HCR.out).2] at hpa
    have HPA := Lib.hid hpa
    clear hpa
    go_wp2_with fail
    refine HPA.out.mono ?_
    rintro e w4 ⟨⟨vX, rfl, xa, xc, eX, hxI, hxF, hxN⟩, hb⟩
    clear HPA
    have hA4 := hA3.keep hb
    have hC4 := hC3.keep hb
    have hI4 := hI3.below hb
    have hJ4 := hJ3.below hb
    have HV4 := Lib.hid (HV3.out.on hb)
    have HB4 : Hid (Below w.heap.size w w4) := HB3.out.trans (hb.mono HB3.out.size)
    clear hA3 hC3 hI3 hJ3 HV3 HB3  hb
    replace eX : vX = rcV k u f (.slice xa R.length xc) o := eX
    replace hxI : SlI w4 xa R := hxI
    subst eX
    have hbx := Go.Joins.below_alloc1 w4 (Obj.cells [Value.int IntKind.i64 k, .int .i64 u, .int .i64 f, .slice xa R.length xc, .int .i64 o.1, .int .i64 o.2.1, .int .i64 o.2.2.1.1, .int .i64 o.2.2.1.2.1, .int .i64 o.2.2.1.2.2, .int .i64 o.2.2.2.1, .int .i64 o.2.2.2.2].toArray 28)
    have hxI' := hxI.below hbx
    have hA5 := hA4.keep hbx
    have hC5 := hC4.keep hbx
    have hI5 := hI4.below hbx
    have hJ5 := hJ4.below hbx
    have HV5 := Lib.hid (HV4.out.on hbx)
    have HB5 : Hid (Below w.heap.size w (w4.alloc (Obj.cells [Value.int IntKind.i64 k, .int .i64 u, .int .i64 f, .slice xa R.length xc, .int .i64 o.1, .int .i64 o.2.1, .int .i64 o.2.2.1.1, .int .i64 o.2.2.1.2.1, .int .i64 o.2.2.1.2.2, .int .i64 o.2.2.2.1, .int .i64 o.2.2.2.2].toArray 28))) := HB4.out.trans (hbx.mono HB4.out.size)
    clear hA4 hC4 hI4 hJ4 HV4 HB4  hbx
    have x0 := hA5.at 0 rfl
    have x1 := hA5.at 1 rfl
    have x2 := hA5.at 2 rfl
    have x3 := hA5.at 3 rfl
    have x4 := hA5.at 4 rfl
    have x5 := hA5.at 5 rfl
    have x6 := hA5.at 6 rfl
    have x7 := hA5.at 7 rfl
    have x8 := hA5.at 8 rfl
    have x9 := hA5.at 9 rfl
    have x10 := hA5.at 10 rfl
    have hsm := nsame_any (w4.alloc (Obj.cells [Value.int IntKind.i64 k, .int .i64 u, .int .i64 f, .slice xa R.length xc, .int .i64 o.1, .int .i64 o.2.1, .int .i64 o.2.2.1.1, .int .i64 o.2.2.1.2.1, .int .i64 o.2.2.1.2.2, .int .i64 o.2.2.2.1, .int .i64 o.2.2.2.2].toArray 28)) k u f k u f xa a xc c R R o o m1 hxI' hI5
    rw [sameR_yes rfl] at hsm
    have HSM := Lib.hid hsm
    clear hsm hxI hxI' hxF hxN
    go_wp2_with fail
    refine HSM.out.mono ?_
    rintro e w6 ⟨rfl, hb⟩
    clear HSM
    clear x0 x1 x2 x3 x4 x5 x6 x7 x8 x9 x10
    have hA6 := hA5.keep hb
    have hC6 := hC5.keep hb
    have hI6 := hI5.below hb
    have hJ6 := hJ5.below hb
    have HV6 := Lib.hid (HV5.out.on hb)
    have HB6 : Hid (Below w.heap.size w w6) := HB5.out.trans (hb.mono HB5.out.size)
    clear hA5 hC5 hI5 hJ5 HV5 HB5  hb
    go_wp2_with fail
    refine (nparse_any w6 t hl HV6.out).mono ?_
    rintro e w7 ⟨⟨vP, rfl, za, zc, eP, hzI, hzF, hzN⟩, hb⟩
    have HTP : Hid (parseE t = 0 → checkRec (parseR t) = 0 ∧ recT (parseR t) = t) := fun e => Orangery.text_parse e
    have HB7 : Hid (Below w.heap.size w w7) := HB6.out.trans (hb.mono HB6.out.size)
    have HV7 := Lib.hid (HV6.out.on hb)
    clear hb HV6 HB6 hA6 hC6 hI6 hJ6
    generalize parseR t = z at *
    obtain ⟨zk, zu, zf, zR, zo⟩ := z
    replace eP : vP = rcV zk zu zf (.slice za zR.length zc) zo := eP
    replace hzI : SlI w7 za zR := hzI
    subst eP
    by_cases hg : parseE t = 0
    · obtain ⟨hz0, hzt⟩ := HTP.out hg
      have HZ : Hid (recText (zk, zu, zf, zR, zo) = t ∧ checkRec (zk, zu, zf, zR, zo) = 0) := ⟨(recText_ok hz0).trans hzt, hz0⟩
      have hzl := roots_few hz0
      rw [hg]
      clear hg HTP hz0 hzt hzF
      have hbz := Go.Joins.below_alloc1 w7 (Obj.cells [Value.int IntKind.i64 zk, .int .i64 zu, .int .i64 zf, .slice za zR.length zc, .int .i64 zo.1, .int .i64 zo.2.1, .int .i64 zo.2.2.1.1, .int .i64 zo.2.2.1.2.1, .int .i64 zo.2.2.1.2.2, .int .i64 zo.2.2.2.1, .int .i64 zo.2.2.2.2].toArray 28)
      have hpr := nprint_any _ zk zu zf za zc zR zo (by unfold maxLen; omega) hzN (hzI.below hbz) (HV7.out.on hbz)
      rw [HZ.out.1, HZ.out.2] at hpr
      have HPR := Lib.hid hpr
      clear hpr
      go_wp2_with fail
      refine HPR.out.mono ?_
      rintro e wz ⟨rfl, hb⟩
      have HBz : Hid (Below w.heap.size w wz) := HB7.out.trans ((hbz.trans (hb.mono hbz.size)).mono HB7.out.size)
      have dT : (t == t) = true := by simp
      clear hb hbz HPR hzI
      go_wp2
      go_ret
      exact ⟨rfl, HBz.out⟩
    · have d8 : (parseE t != 0) = true := by simpa using hg
      have HBz : Hid (Below w.heap.size w (w7.alloc (Obj.cells [Value.int IntKind.i64 zk, .int .i64 zu, .int .i64 zf, .slice za zR.length zc, .int .i64 zo.1, .int .i64 zo.2.1, .int .i64 zo.2.2.1.1, .int .i64 zo.2.2.1.2.1, .int .i64 zo.2.2.1.2.2, .int .i64 zo.2.2.2.1, .int .i64 zo.2.2.2.2].toArray 28))) := HB7.out.alloc HB7.out.size _
      clear hg HTP hzI hzF
      generalize parseE t = E at *
      go_wp2
      go_ret
      exact ⟨rfl, HBz.out⟩
  rw [hq, recText_ok hq]
  have hinj := Orangery.text_inj HCR.out hq
  obtain ⟨sb, hsb, hsc⟩ : ∃ sb, sameR (k, u, f, R, o) (k', u', f', R', p) = sb ∧ (recT (k, u, f, R, o) == recT (k', u', f', R', p)) = sb := by
    refine ⟨_, rfl, ?_⟩
    cases hs : sameR (k, u, f, R, o) (k', u', f', R', p)
    · have : (k, u, f, R, o) ≠ (k', u', f', R', p) := fun e => by rw [sameR_yes e] at hs; exact absurd hs (by simp)
      have : recT (k, u, f, R, o) ≠ recT (k', u', f', R', p) := fun e => this (hinj.1 e)
      simpa using this
    · have := (sameR_iff _ _).1 hs
      rw [this]
      simp
  have x0 := hA3.at 0 rfl
  have x1 := hA3.at 1 rfl
  have x2 := hA3.at 2 rfl
  have x3 := hA3.at 3 rfl
  have x4 := hA3.at 4 rfl
  have x5 := hA3.at 5 rfl
  have x6 := hA3.at 6 rfl
  have x7 := hA3.at 7 rfl
  have x8 := hA3.at 8 rfl
  have x9 := hA3.at 9 rfl
  have x10 := hA3.at 10 rfl
  have y0 := hC3.at 0 rfl
  have y1 := hC3.at 1 rfl
  have y2 := hC3.at 2 rfl
  have y3 := hC3.at 3 rfl
  have y4 := hC3.at 4 rfl
  have y5 := hC3.at 5 rfl
  have y6 := hC3.at 6 rfl
  have y7 := hC3.at 7 rfl
  have y8 := hC3.at 8 rfl
  have y9 := hC3.at 9 rfl
  have y10 := hC3.at 10 rfl
  have hsm := nsame_any w3 k u f k' u' f' a a' c c' R R' o p m1 hI3 hJ3
  rw [hsb] at hsm
  have HSM := Lib.hid hsm
  clear hsm hsb hinj hq
  generalize recT (k', u', f', R', p) = T2 at *
  go_wp2_with fail
  refine HSM.out.mono ?_
  rintro e w4 ⟨rfl, hb⟩
  clear HSM
  clear x0 x1 x2 x3 x4 x5 x6 x7 x8 x9 x10 y0 y1 y2 y3 y4 y5 y6 y7 y8 y9 y10
  have hA4 := hA3.keep hb
  have hC4 := hC3.keep hb
  have hI4 := hI3.below hb
  have hJ4 := hJ3.below hb
  have HV4 := Lib.hid (HV3.out.on hb)
  have HB4 : Hid (Below w.heap.size w w4) := HB3.out.trans (hb.mono HB3.out.size)
  clear hA3 hC3 hI3 hJ3 HV3 HB3  hb
  have dB : (sb != sb) = false := by simp
  have hpa := nparse_any w4 (recT (k, u, f, R, o)) (by have := Orangery.recT_len HCR.out; unfold maxLen; omega) HV4.out
  rw [(Orangery.parse_text HCR.out).1, (Orangery.parse_text HCR.out).2] at hpa
  have HPA := Lib.hid hpa
  clear hpa
  go_wp2_with fail
  refine HPA.out.mono ?_
  rintro e w5 ⟨⟨vX, rfl, xa, xc, eX, hxI, hxF, hxN⟩, hb⟩
  clear HPA
  have hA5 := hA4.keep hb
  have hC5 := hC4.keep hb
  have hI5 := hI4.below hb
  have hJ5 := hJ4.below hb
  have HV5 := Lib.hid (HV4.out.on hb)
  have HB5 : Hid (Below w.heap.size w w5) := HB4.out.trans (hb.mono HB4.out.size)
  clear hA4 hC4 hI4 hJ4 HV4 HB4  hb
  replace eX : vX = rcV k u f (.slice xa R.length xc) o := eX
  replace hxI : SlI w5 xa R := hxI
  subst eX
  have hbx := Go.Joins.below_alloc1 w5 (Obj.cells [Value.int IntKind.i64 k, .int .i64 u, .int .i64 f, .slice xa R.length xc, .int .i64 o.1, .int .i64 o.2.1, .int .i64 o.2.2.1.1, .int .i64 o.2.2.1.2.1, .int .i64 o.2.2.1.2.2, .int .i64 o.2.2.2.1, .int .i64 o.2.2.2.2].toArray 28)
  have hxI' := hxI.below hbx
  have hA6 := hA5.keep hbx
  have hC6 := hC5.keep hbx
  have hI6 := hI5.below hbx
  have hJ6 := hJ5.below hbx
  have HV6 := Lib.hid (HV5.out.on hbx)
  have HB6 : Hid (Below w.heap.size w (w5.alloc (Obj.cells [Value.int IntKind.i64 k, .int .i64 u, .int .i64 f, .slice xa R.length xc, .int .i64 o.1, .int .i64 o.2.1, .int .i64 o.2.2.1.1, .int .i64 o.2.2.1.2.1, .int .i64 o.2.2.1.2.2, .int .i64 o.2.2.2.1, .int .i64 o.2.2.2.2].toArray 28))) := HB5.out.trans (hbx.mono HB5.out.size)
  clear hA5 hC5 hI5 hJ5 HV5 HB5  hbx
  have x0 := hA6.at 0 rfl
  have x1 := hA6.at 1 rfl
  have x2 := hA6.at 2 rfl
  have x3 := hA6.at 3 rfl
  have x4 := hA6.at 4 rfl
  have x5 := hA6.at 5 rfl
  have x6 := hA6.at 6 rfl
  have x7 := hA6.at 7 rfl
  have x8 := hA6.at 8 rfl
  have x9 := hA6.at 9 rfl
  have x10 := hA6.at 10 rfl
  have hsm := nsame_any (w5.alloc (Obj.cells [Value.int IntKind.i64 k, .int .i64 u, .int .i64 f, .slice xa R.length xc, .int .i64 o.1, .int .i64 o.2.1, .int .i64 o.2.2.1.1, .int .i64 o.2.2.1.2.1, .int .i64 o.2.2.1.2.2, .int .i64 o.2.2.2.1, .int .i64 o.2.2.2.2].toArray 28)) k u f k u f xa a xc c R R o o m1 hxI' hI6
  rw [sameR_yes rfl] at hsm
  have HSM := Lib.hid hsm
  clear hsm hxI hxI' hxF hxN
  go_wp2_with fail
  refine HSM.out.mono ?_
  rintro e w7 ⟨rfl, hb⟩
  clear HSM
  clear x0 x1 x2 x3 x4 x5 x6 x7 x8 x9 x10
  have hA7 := hA6.keep hb
  have hC7 := hC6.keep hb
  have hI7 := hI6.below hb
  have hJ7 := hJ6.below hb
  have HV7 := Lib.hid (HV6.out.on hb)
  have HB7 : Hid (Below w.heap.size w w7) := HB6.out.trans (hb.mono HB6.out.size)
  clear hA6 hC6 hI6 hJ6 HV6 HB6  hb
  go_wp2_with fail
  refine (nparse_any w7 t hl HV7.out).mono ?_
  rintro e w8 ⟨⟨vP, rfl, za, zc, eP, hzI, hzF, hzN⟩, hb⟩
  have HTP : Hid (parseE t = 0 → checkRec (parseR t) = 0 ∧ recT (parseR t) = t) := fun e => Orangery.text_parse e
  have HB8 : Hid (Below w.heap.size w w8) := HB7.out.trans (hb.mono HB7.out.size)
  have HV8 := Lib.hid (HV7.out.on hb)
  clear hb HV7 HB7 hA7 hC7 hI7 hJ7
  generalize parseR t = z at *
  obtain ⟨zk, zu, zf, zR, zo⟩ := z
  replace eP : vP = rcV zk zu zf (.slice za zR.length zc) zo := eP
  replace hzI : SlI w8 za zR := hzI
  subst eP
  by_cases hg : parseE t = 0
  · obtain ⟨hz0, hzt⟩ := HTP.out hg
    have HZ : Hid (recText (zk, zu, zf, zR, zo) = t ∧ checkRec (zk, zu, zf, zR, zo) = 0) := ⟨(recText_ok hz0).trans hzt, hz0⟩
    have hzl := roots_few hz0
    rw [hg]
    clear hg HTP hz0 hzt hzF
    have hbz := Go.Joins.below_alloc1 w8 (Obj.cells [Value.int IntKind.i64 zk, .int .i64 zu, .int .i64 zf, .slice za zR.length zc, .int .i64 zo.1, .int .i64 zo.2.1, .int .i64 zo.2.2.1.1, .int .i64 zo.2.2.1.2.1, .int .i64 zo.2.2.1.2.2, .int .i64 zo.2.2.2.1, .int .i64 zo.2.2.2.2].toArray 28)
    have hpr := nprint_any _ zk zu zf za zc zR zo (by unfold maxLen; omega) hzN (hzI.below hbz) (HV8.out.on hbz)
    rw [HZ.out.1, HZ.out.2] at hpr
    have HPR := Lib.hid hpr
    clear hpr
    go_wp2_with fail
    refine HPR.out.mono ?_
    rintro e wz ⟨rfl, hb⟩
    have HBz : Hid (Below w.heap.size w wz) := HB8.out.trans ((hbz.trans (hb.mono hbz.size)).mono HB8.out.size)
    have dT : (t == t) = true := by simp
    clear hb hbz HPR hzI
    go_wp2
    go_ret
    exact ⟨rfl, HBz.out⟩
  · have d8 : (parseE t != 0) = true := by simpa using hg
    have HBz : Hid (Below w.heap.size w (w8.alloc (Obj.cells [Value.int IntKind.i64 zk, .int .i64 zu, .int .i64 zf, .slice za zR.length zc, .int .i64 zo.1, .int .i64 zo.2.1, .int .i64 zo.2.2.1.1, .int .i64 zo.2.2.1.2.1, .int .i64 zo.2.2.1.2.2, .int .i64 zo.2.2.2.1, .int .i64 zo.2.2.2.2].toArray 28))) := HB8.out.alloc HB8.out.size _
    clear hg HTP hzI hzF
    generalize parseE t = E at *
    go_wp2
    go_ret
    exact ⟨rfl, HBz.out⟩
end Go.Proofs.YtjonkadcijnneacDoor

/- A tree that came in as an argument: which places it holds. -/
namespace Go.Proofs.YtjonkadcijnneacDoor
open Go.ChangeShapes Go.WideShapes Go.ChangeAt Go.RowKit
open Orangery (Pl)

theorem cells3_of {w : World} {base : Nat} {a : Addr} {cs : List Value} (h : w.cells? base a 3 = some cs) :
    ∃ x y z, cs = [x, y, z] ∧ w.cell? (a.add 0) = some x ∧ w.cell? (a.add 1) = some y ∧ w.cell? (a.add 2) = some z := by
  unfold World.cells? at h
  split at h
  · simp only [show List.range 3 = [0, 1, 2] from rfl, List.mapM_cons, List.mapM_nil] at h
    cases h0 : w.cell? (a.add 0) with
    | none => simp [h0] at h
    | some x =>
      cases h1 : w.cell? (a.add 1) with
      | none => simp [h0, h1] at h
      | some y =>
        cases h2 : w.cell? (a.add 2) with
        | none => simp [h0, h1, h2] at h
        | some z =>
          simp [h0, h1, h2] at h
          exact ⟨x, y, z, h.symm, rfl, rfl, rfl⟩
  · simp at h

theorem add_at (b off i : Nat) : (⟨b, off, none⟩ : Addr).add i = ⟨b, off + i, none⟩ := by
  unfold Addr.add
  by_cases hz : i = 0 <;> simp [hz]

end Go.Proofs.YtjonkadcijnneacDoor

/- Operations and steps that came in as arguments. -/
namespace Go.Proofs.YtjonkadcijnneacDoor
open Go.ChangeShapes Go.WideShapes Go.ChangeAt Go.RowKit
open Orangery (Pl Mv Stp)

theorem list7 {cs : List Value} (h : cs.length = 7) : ∃ a b c d e f g, cs = [a, b, c, d, e, f, g] := by
  match cs, h with
  | [a, b, c, d, e, f, g], _ => exact ⟨a, b, c, d, e, f, g, rfl⟩
theorem list11 {cs : List Value} (h : cs.length = 11) : ∃ a b c d e f g i j k l, cs = [a, b, c, d, e, f, g, i, j, k, l] := by
  match cs, h with
  | [a, b, c, d, e, f, g, i, j, k, l], _ => exact ⟨a, b, c, d, e, f, g, i, j, k, l, rfl⟩

set_option maxRecDepth 100000 in
theorem open_opC {H : Type} {enc : TypeId × Value → H} {w : World} {base fuel : Nat} {spare : Nat → Bool} {held : Bool} {cs : List Value} {x : DataW H × List MemPlace}
    (h : DataW.trod enc Tryd.prog w base spare held fuel 26 cs = some x) : ∃ o : Mv, cs = opC o := by
  obtain ⟨xs, n, _, _, hl, hlen, hf⟩ := DataW.trod_struct Tryd.underlying26 h
  have hC : Tryd.prog.cellsOf 26 = 7 := by kernel_rfl
  have hI : Tryd.prog.cellsOf 3 = 1 := by kernel_rfl
  have hT : Tryd.prog.cellsOf 24 = 2 := by kernel_rfl
  rw [hC] at hl
  obtain ⟨c0, c1, c2, c3, c4, c5, c6, rfl⟩ := list7 hl
  have hx : xs.length = 6 := hlen
  have g0 := hf 0 _ rfl
  have g1 := hf 1 _ rfl
  have g2 := hf 2 _ rfl
  have g3 := hf 3 _ rfl
  have g4 := hf 4 _ rfl
  have g5 := hf 5 _ rfl
  simp [hI, hT] at g0 g1 g2 g3 g4 g5
  rw [List.getElem?_eq_getElem (by omega)] at g0 g1 g2 g3 g4 g5
  obtain ⟨o3, e3, _, _⟩ := DataW.trod_int Tryd.underlying3 g1
  obtain ⟨o4, e4, _, _⟩ := DataW.trod_int Tryd.underlying3 g2
  obtain ⟨o5, e5, _, _⟩ := DataW.trod_int Tryd.underlying3 g3
  obtain ⟨o6, e6, _, _⟩ := DataW.trod_int Tryd.underlying3 g4
  obtain ⟨o7, e7, _, _⟩ := DataW.trod_int Tryd.underlying3 g5
  obtain ⟨y0, y1, n', _, _, t0, t1⟩ := trod_struct2 Tryd.underlying24 g0
  simp [hI] at t0 t1
  obtain ⟨o1, e1, _, _⟩ := DataW.trod_int Tryd.underlying3 t0
  obtain ⟨o2, e2, _, _⟩ := DataW.trod_int Tryd.underlying3 t1
  simp at e1 e2 e3 e4 e5 e6 e7
  subst e1 e2 e3 e4 e5 e6 e7
  exact ⟨(o1, o2, (o3, o4, o5), o6, o7), rfl⟩

set_option maxRecDepth 100000 in
/-- an operation that came in -/
theorem open_op {H : Type} {enc : TypeId × Value → H} {w : World} {r : Reach} {b0 base : Nat} {spare : Nat → Bool} {held : Bool} {v : Value} {d : DataW H} {p : List MemPlace}
    (hv : Value.okWide Tryd.prog w r b0 26 v) (h : DataW.Trod enc Tryd.prog w base spare held 26 v d p) : ∃ o : Mv, v = opV o := by
  obtain ⟨cs, rfl, hsz⟩ := okWide_struct Tryd.underlying26 hv
  obtain ⟨fuel, hf⟩ := h
  obtain ⟨o, ho⟩ := open_opC hf
  refine ⟨o, ?_⟩
  have : cs = (opC o).toArray := by rw [← ho]; simp [Value.cells]
  rw [this]
  rfl

end Go.Proofs.YtjonkadcijnneacDoor

/- Slices of operations and histories that came in as arguments, and what they weigh. -/
namespace Go.Proofs.YtjonkadcijnneacDoor
open Go.ChangeShapes Go.WideShapes Go.ChangeAt Go.RowKit
open Orangery (Pl Mv Stp)

/-- a slice of such elements that came in, with what it weighs -/
theorem open_slW {α : Type} [Inhabited α] {enc : α → List Value} {k : Nat} {H : Type} {en : TypeId × Value → H} {w : World} {base fuel : Nat} {spare : Nat → Bool} {held : Bool} {v : Value} {x : DataW H × List MemPlace} {t e : TypeId}
    (hk : ∀ x, (enc x).length = k) (hpos : 0 < k) (ht : Tryd.prog.underlying t = some (.slice e)) (hC : Tryd.prog.cellsOf e = k)
    (hel : ∀ (n : Nat) (cs : List Value) (y : DataW H × List MemPlace), DataW.trod en Tryd.prog w base spare held n e cs = some y → ∃ z : α, cs = enc z)
    (h : DataW.trod en Tryd.prog w base spare held fuel t [v] = some x) : ∃ a c, ∃ l : List α, v = .slice a l.length c ∧ l.length ≤ maxLen ∧ l.length ≤ c ∧ (c ≤ maxLen ∧ (a = none → c = 0)) ∧ SlE enc w a l ∧ (l = [] ∨ ∃ m, l.length ≤ m ∧ m * Tryd.prog.bytesOf e ∈ x.1.weights Tryd.prog t) := by
  rcases Go.Deep.open_slice ht h with ⟨hcs, _⟩ | ⟨a, len, cap, m, n, D, Pq, hcs, _, hle, hm, hmm, hxx, hx⟩
  · simp at hcs
    subst hcs
    exact ⟨none, 0, [], rfl, by simp, by simp, ⟨by simp, fun _ => rfl⟩, Or.inl rfl, Or.inl rfl⟩
  · simp at hcs
    subst hcs
    have hlm : len ≤ m := by rw [hmm]; split <;> omega
    have key : ∀ i, i < len → ∃ z : α, ∀ (j : Nat) (v : Value), (enc z)[j]? = some v → w.cell? ((a.add (i * k)).add j) = some v := by
      intro i hi
      obtain ⟨cs', h1, h2⟩ := hx i (by omega)
      rw [hC] at h1
      obtain ⟨z, rfl⟩ := hel _ _ _ h2
      exact ⟨z, (cells_range h1).2⟩
    obtain ⟨f, hf⟩ := Go.Deep.choose_lt key
    refine ⟨some a, cap, (List.range len).map f, by simp, by simp; omega, by simp; omega, ⟨hm, fun e => by simp at e⟩, ?_, Or.inr ⟨m, by simpa using hlm, ?_⟩⟩
    · by_cases hz : len = 0
      · exact Or.inl (by simp [hz])
      · right
        obtain ⟨u, hu⟩ : ∃ u, (enc (f 0))[0]? = some u := ⟨_, List.getElem?_eq_getElem (by rw [hk]; exact hpos)⟩
        have h0 := hf 0 (by omega) 0 u hu
        obtain ⟨b, off, spot⟩ := a
        have hspot : spot = none := by simpa [Addr.add] using World.cell?_spot h0
        subst hspot
        have hb : b < w.heap.size := by
          have := World.block_lt_of_cell? w _ h0
          rw [Addr.add_mid, Addr.add_mid] at this
          exact this
        refine ⟨b, off, rfl, hb, fun j v hv => ?_⟩
        have hj : j < len * k := by
          have := (List.getElem?_eq_some_iff.1 hv).1
          rw [flatE_len hk] at this
          simpa using this
        have hi : j / k < len := (Nat.div_lt_iff_lt_mul hpos).2 hj
        have hc : j % k < k := Nat.mod_lt _ hpos
        have e1 : j / k * k + j % k = j := by rw [Nat.mul_comm]; exact Nat.div_add_mod j k
        have e2 := flatE_get hk ((List.range len).map f) (j / k) (by simpa using hi) (j % k) hc
        rw [e1, hv] at e2
        have e3 := hf (j / k) hi (j % k) v (by simpa using e2.symm)
        rw [Addr.add_mid, Addr.add_mid] at e3
        rw [show off + j = off + j / k * k + j % k by omega]
        exact e3
    · subst hxx
      simp only [DataW.weights, ht]
      have e : ((List.range len).map D).length + ((List.range (m - len)).map fun j => D (len + j)).length = m := by simp; omega
      rw [e]
      exact List.mem_cons_self

end Go.Proofs.YtjonkadcijnneacDoor

/- slices.Grow of nothing, slices.Concat at places. -/
namespace Go.Proofs.YtjonkadcijnneacDoor
open Go.ChangeShapes Go.WideShapes Go.ChangeAt Go.RowKit
open Orangery (Pl)

theorem encPl_one (p : Pl) : ∀ v ∈ encPl p, v.oneCell' = true := by
  intro v hv
  simp [encPl] at hv
  rcases hv with rfl | rfl | rfl <;> rfl
theorem encPl_len (x : Pl) : (encPl x).length = 3 := rfl
/-- one slice behind another one of the call's own -/
theorem SlP.news {w : World} {ad : Addr} {l : List Pl} (h : SlP w (some ad) l) : ∀ j u, (l.flatMap encPl)[j]? = some u → w.cell? (ad.add j) = some u := by
  intro j u hj
  rcases h with rfl | ⟨b, off, ha, _, hp⟩
  · simp at hj
  · simp at ha
    subst ha
    exact pls_flat hp j u hj
theorem SlP.none_nil {w : World} {l : List Pl} (h : SlP w none l) : l = [] := by
  rcases h with rfl | ⟨b, off, h, _⟩
  · rfl
  · simp at h

end Go.Proofs.YtjonkadcijnneacDoor

/- Ints, places with the room behind them, and views that came in as arguments. -/
namespace Go.Proofs.YtjonkadcijnneacDoor
open Go.ChangeShapes Go.WideShapes Go.ChangeAt Go.RowKit
open Orangery (Pl)

def intC (x : Int) : List Value := [.int .i64 x]
theorem intC_len (x : Int) : (intC x).length = 1 := rfl

theorem sli_of {w : World} {a : Option Addr} {l : List Int} (h : SlE intC w a l) : SlI w a l := by
  rcases h with h | ⟨b, off, ha, hlt, hp⟩
  · exact Or.inl h
  · refine Or.inr ⟨b, off, ha, hlt, fun i hi => ?_⟩
    have := elemE intC_len hp i hi 0 (.int .i64 l[i]) rfl
    rw [Nat.mul_one, Nat.add_zero] at this
    exact this
theorem slp_of {w : World} {a : Option Addr} {l : List Pl} (h : SlE encPl w a l) : SlP w a l := by
  rcases h with h | ⟨b, off, ha, hlt, hp⟩
  · exact Or.inl h
  · refine Or.inr ⟨b, off, ha, hlt, fun i hi => ?_⟩
    have hr := elemE encPl_len hp i hi
    exact ⟨hr 0 _ rfl, hr 1 _ rfl, hr 2 _ rfl⟩

theorem open_intC {H : Type} {enc : TypeId × Value → H} {w : World} {base fuel : Nat} {spare : Nat → Bool} {held : Bool} {cs : List Value} {x : DataW H × List MemPlace}
    (h : DataW.trod enc Tryd.prog w base spare held fuel 3 cs = some x) : ∃ z : Int, cs = intC z := by
  obtain ⟨q, e, _, _⟩ := DataW.trod_int Tryd.underlying3 h
  exact ⟨q, e⟩
set_option maxRecDepth 100000 in
theorem open_plC {H : Type} {enc : TypeId × Value → H} {w : World} {base fuel : Nat} {spare : Nat → Bool} {held : Bool} {cs : List Value} {x : DataW H × List MemPlace}
    (h : DataW.trod enc Tryd.prog w base spare held fuel 78 cs = some x) : ∃ z : Pl, cs = encPl z := by
  obtain ⟨y0, y1, y2, n', _, hl, t0, t1, t2⟩ := Go.Deep.trod_struct3 Tryd.underlying78 h
  have hC : Tryd.prog.cellsOf 78 = 3 := by kernel_rfl
  have hI : Tryd.prog.cellsOf 3 = 1 := by kernel_rfl
  rw [hC] at hl
  obtain ⟨c0, c1, c2, rfl⟩ : ∃ c0 c1 c2, cs = [c0, c1, c2] := by
    match cs, hl with
    | [x, y, z], _ => exact ⟨x, y, z, rfl⟩
  simp [hI] at t0 t1 t2
  obtain ⟨q0, e0, _, _⟩ := DataW.trod_int Tryd.underlying3 t0
  obtain ⟨q1, e1, _, _⟩ := DataW.trod_int Tryd.underlying3 t1
  obtain ⟨q2, e2, _, _⟩ := DataW.trod_int Tryd.underlying3 t2
  simp at e0 e1 e2
  subst e0 e1 e2
  exact ⟨(q0, q1, q2), rfl⟩

set_option maxRecDepth 100000 in
/-- ints that came in -/
theorem open_ints {H : Type} {enc : TypeId × Value → H} {w : World} {r : Reach} {b0 base : Nat} {spare : Nat → Bool} {held : Bool} {v : Value} {d : DataW H} {p : List MemPlace}
    (hv : Value.okWide Tryd.prog w r b0 22 v) (h : DataW.Trod enc Tryd.prog w base spare held 22 v d p) : ∃ a c, ∃ l : List Int, v = .slice a l.length c ∧ l.length ≤ maxLen ∧ (l.length ≤ c ∧ c ≤ maxLen) ∧ SlI w a l := by
  obtain ⟨a', n', c', rfl⟩ := okWide_slice Tryd.underlying22 hv
  obtain ⟨fuel, hf⟩ := h
  obtain ⟨a, c, l, e, h1, h2, ⟨h4, _⟩, h3, _⟩ := open_slW intC_len (by omega) Tryd.underlying22 (by kernel_rfl) (fun n cs y hy => open_intC hy) hf
  exact ⟨a, c, l, e, h1, ⟨h2, h4⟩, sli_of h3⟩

end Go.Proofs.YtjonkadcijnneacDoor

/- Records and texts that came in as arguments; what the library's variables hold at the start. -/
namespace Go.Proofs.YtjonkadcijnneacDoor
open Go.ChangeShapes Go.WideShapes Go.ChangeAt Go.RowKit
open Orangery (Mv)

set_option maxRecDepth 100000 in
theorem open_rec {H : Type} {enc : TypeId × Value → H} {w : World} {r : Reach} {b0 base : Nat} {spare : Nat → Bool} {held : Bool} {v : Value} {d : DataW H} {p : List MemPlace}
    (hv : Value.okWide Tryd.prog w r b0 28 v) (h : DataW.Trod enc Tryd.prog w base spare held 28 v d p) :
    ∃ k u f a c R o, v = rcV k u f (.slice a R.length c) o ∧ R.length ≤ maxLen ∧ (a = none → c = 0) ∧ SlI w a R := by
  obtain ⟨cs, rfl, hsz⟩ := okWide_struct Tryd.underlying28 hv
  obtain ⟨fuel, hf⟩ := h
  obtain ⟨xs, n, _, _, hl, hlen, hg⟩ := DataW.trod_struct Tryd.underlying28 hf
  have hC : Tryd.prog.cellsOf 28 = 11 := by kernel_rfl
  have hI : Tryd.prog.cellsOf 3 = 1 := by kernel_rfl
  have hD : Tryd.prog.cellsOf 22 = 1 := by kernel_rfl
  have hO : Tryd.prog.cellsOf 26 = 7 := by kernel_rfl
  rw [hC] at hl
  obtain ⟨l⟩ := cs
  simp only [Value.cells] at hl hg
  obtain ⟨c0, c1, c2, c3, c4, c5, c6, c7, c8, c9, c10, rfl⟩ := list11 hl
  have hx : xs.length = 5 := hlen
  have g0 := hg 0 _ rfl
  have g1 := hg 1 _ rfl
  have g2 := hg 2 _ rfl
  have g3 := hg 3 _ rfl
  have g4 := hg 4 _ rfl
  simp [hI, hD, hO] at g0 g1 g2 g3 g4
  rw [List.getElem?_eq_getElem (by omega)] at g0 g1 g2 g3 g4
  obtain ⟨k, e0, _, _⟩ := DataW.trod_int Tryd.underlying3 g0
  obtain ⟨u, e1, _, _⟩ := DataW.trod_int Tryd.underlying3 g1
  obtain ⟨f, e2, _, _⟩ := DataW.trod_int Tryd.underlying3 g2
  obtain ⟨a, c, R, e3, m0, _, ⟨_, n1⟩, hR, _⟩ := open_slW intC_len (by omega) Tryd.underlying22 (by kernel_rfl) (fun n cs y hy => open_intC hy) g3
  obtain ⟨o, ho⟩ := open_opC g4
  simp at e0 e1 e2
  simp [opC] at ho
  subst e0 e1 e2 e3
  obtain ⟨rfl, rfl, rfl, rfl, rfl, rfl, rfl⟩ := ho
  exact ⟨k, u, f, a, c, R, o, rfl, m0, n1, sli_of hR⟩

theorem gPow : Tryd.prog.globalNamed "internal/strconv.uint64pow10" = some 3 := by kernel_rfl
theorem gPowT : (Tryd.prog.globals[3]?).map (·.type) = some 105 := by kernel_rfl
theorem gSyn : Tryd.prog.globalNamed "strconv.ErrSyntax" = some 1 := by kernel_rfl
theorem gSynT : (Tryd.prog.globals[1]?).map (·.type) = some 45 := by kernel_rfl
theorem gRan : Tryd.prog.globalNamed "strconv.ErrRange" = some 2 := by kernel_rfl
theorem gRanT : (Tryd.prog.globals[2]?).map (·.type) = some 45 := by kernel_rfl
theorem gB64 : Tryd.prog.globalNamed "math/bits.deBruijn64tab" = some 7 := by kernel_rfl
theorem star : ("*errors.errorString" : String) = "*" ++ "errors.errorString" := by decide
set_option maxRecDepth 100000 in
theorem errRow (u : TypeId) (h : Tryd.prog.typeName? 3 u = some "*errors.errorString") : u = 112 :=
  typeName_ptr_named (nm := "errors.errorString") (by rw [← star]; kernel_rfl) (by kernel_rfl) (by decide) u (by rw [← star]; exact h)

/-- the library's variables, out of what the row lists -/
theorem vars_of {W : World} {d0 d1 d3 : DataW Unit} {x y : List UInt8} {rest : List (String × DataW Unit)}
    (h : laidMet Tryd.prog (("math/bits.deBruijn32tab", d0) :: ("math/bits.deBruijn64tab", d1) :: ("internal/strconv.uint64pow10", Lib.tabData .u64 Lib.pow10Tab) :: ("unicode/utf8.acceptRanges", d3) :: ("strconv.ErrRange", .iface "*errors.errorString" (.ptr (.agg [.lit (.string x)]))) :: ("strconv.ErrSyntax", .iface "*errors.errorString" (.ptr (.agg [.lit (.string y)]))) :: rest) W)
    (hs : W.ShapedOpen Tryd.prog) : Vars W := by
  have h1 := h.tail
  have h2 := h1.tail
  have h4 := h2.tail.tail
  have h5 := h4.tail
  have c80 : Tryd.prog.cellsOf 80 = 1 := by kernel_rfl
  have c105 : Tryd.prog.cellsOf 105 = 20 := by kernel_rfl
  have c114 : Tryd.prog.cellsOf 114 = 1 := by kernel_rfl
  have c9 : Tryd.prog.cellsOf 9 = 1 := by kernel_rfl
  refine ⟨?_, ?_, ?_, ?_, ?_⟩
  · obtain ⟨ps, ⟨g', t', cs, fuel, p, q, hg', ht', hvar, hd, _, _⟩, _⟩ := h1
    obtain rfl := Option.some.inj (gB64.symm.trans hg')
    unfold World.var? at hvar
    rw [gB64] at hvar
    simp only [Option.bind_some] at hvar
    rcases Nat.lt_or_ge 7 W.heap.size with hlt | hge
    · omega
    · rw [Array.getElem?_eq_none hge] at hvar
      simp at hvar
  · exact Lib.tabIs_of_head gPow gPowT Tryd.underlying105 Tryd.underlying80 c80 c105 h2
  · obtain ⟨a0, s0, hv0, -, -, -⟩ := laid_sentinel h5 gSyn gSynT Tryd.underlying45 errRow Tryd.underlying112 Tryd.underlying114 rfl rfl Tryd.underlying9 c114 c9
    exact ⟨_, _, hv0⟩
  · obtain ⟨a0, s0, hv0, -, -, -⟩ := laid_sentinel h4 gRan gRanT Tryd.underlying45 errRow Tryd.underlying112 Tryd.underlying114 rfl rfl Tryd.underlying9 c114 c9
    exact ⟨_, _, hv0⟩
  · exact cell_of_shapedOpen_int (zero := #[.int .i64 0]) hs (by decide +kernel) (by kernel_rfl) rfl (by kernel_rfl) (by kernel_rfl) Tryd.underlying3
end Go.Proofs.YtjonkadcijnneacDoor

/- For every two records and every text orangerylaw.NoteBack answers true: what is printed is read, what is read is printed as it was, unlike records have unlike texts. The card: the library's variables that are read are tied to the program's text. No condition. -/
namespace Go.Proofs.YtjonkadcijnneacDoor.noteBack
open Go.ChangeShapes Go.WideShapes Go.ChangeAt Go.RowKit
set_option linter.unusedVariables false

theorem own : ownKnob Tryd.prog.godebug = none := by kernel_rfl
theorem laidOut : laidOutB Tryd.prog = true := by kernel_rfl

set_option maxRecDepth 100000 in
/-- what the walk gives, for every argument and every world that holds the variables -/
theorem contract (H : Type) (enc : TypeId × Value → H) (W : World) (base : Nat) (args : Array Value) (ds gs : List (DataW H)) (before : List MemPlace)
    (hval : ∀ (j : Nat) t v, Tryd.f4.params[j]? = some t → args[j]? = some v → Value.okWide Tryd.prog W .any base t v)
    (hW : DataW.Whole enc Tryd.prog Tryd.f4.params.toList Rows.noteBackSpec.vars false W args.toList ds gs before) (hL : laidMetH Tryd.prog Rows.noteBackRow.laid W) (hsh : W.ShapedOpen Tryd.prog) :
    Calls Tryd.prog 4 args W fun e W' => ∃ v, e = .returned v ∧ Rows.noteBackSpec.post enc Tryd.prog Tryd.f4 false true false false W args v W' := by
  have hW' := hW
  obtain ⟨p, q, hA0, hV, rfl, hfz, hnd⟩ := hW
  have hA : DataW.TrodAll enc Tryd.prog W 0 (fun _ => true) true Tryd.f4.params.toList args.toList ds p := hA0
  rw [Tryd.params4] at hA hval
  obtain ⟨v0, vs0, d0, ds0, p0, q0, hargs, rfl, rfl, h0, r0⟩ := trodAll_cons hA
  obtain ⟨v1, vs1, d1, ds1, p1, q1, rfl, rfl, rfl, h1, r1⟩ := trodAll_cons r0
  obtain ⟨v2, vs2, d2, ds2, p2, q2, rfl, rfl, rfl, h2, r2⟩ := trodAll_cons r1
  obtain ⟨rfl, rfl, rfl⟩ := trodAll_nil r2
  obtain rfl : args = #[v0, v1, v2] := by cases args; simp_all
  obtain ⟨rfl, rfl⟩ := trodVars_none hV
  have k0 := h0
  have lt0 : ∀ x ∈ p0, x.block < W.heap.size := by obtain ⟨m, hm⟩ := k0; exact DataW.trod_lt m _ _ _ hm
  obtain ⟨k, u, f, a, c, R, o, rfl, m0, n0, P0⟩ := open_rec (hval 0 28 v0 rfl rfl) h0
  have k1 := h1
  have lt1 : ∀ x ∈ p1, x.block < W.heap.size := by obtain ⟨m, hm⟩ := k1; exact DataW.trod_lt m _ _ _ hm
  obtain ⟨k', u', f', a', c', R', o', rfl, m1, n1, P1⟩ := open_rec (hval 1 28 v1 rfl rfl) h1
  have k2 := h2
  have lt2 : ∀ x ∈ p2, x.block < W.heap.size := by obtain ⟨m, hm⟩ := k2; exact DataW.trod_lt m _ _ _ hm
  obtain ⟨s, rfl, rfl, rfl, ws⟩ := Go.ChangeMaps.open_string Tryd.underlying9 (hval 2 9 v2 rfl rfl) h2
  clear hA0
  rw [MakeChecks.laidMetH_plain _ _ _ (by kernel_rfl)] at hL
  have hvars : Vars W := vars_of hL hsh
  have hwalk := noteBack_any W k u f a c R o k' u' f' a' c' R' o' s.data.toList m0 n0 P0 m1 n1 P1 (by rw [← Lib.size_eq]; exact ws) hvars
  rw [show txV s.data.toList = Value.string s from congrArg Value.string (Orangery.bytes_eq s)] at hwalk
  refine hwalk.mono fun e W' ⟨he, bel⟩ => ?_
  subst he
  exact ⟨_, rfl, _, _, _, [], _, [], hW', trodAll_mk1 (shut_bool Tryd.underlying4 _), (trodAll_cons_mk (Below.trod laidOut (by kernel_rfl) (of_decide_eq_true (by kernel_rfl)) k0 bel lt0) (trodAll_cons_mk (Below.trod laidOut (by kernel_rfl) (of_decide_eq_true (by kernel_rfl)) k1 bel lt1) (trodAll_cons_mk (Below.trod laidOut (by kernel_rfl) (of_decide_eq_true (by kernel_rfl)) k2 bel lt2) trodAll_mk0))), rfl, bel.frame _, fun h => by cases h⟩

/-- the arguments of the witness: two empty records, no text -/
def noArgs : Array Value := #[.agg #[.int .i64 0, .int .i64 0, .int .i64 0, .slice none 0 0, .int .i64 0, .int .i64 0, .int .i64 0, .int .i64 0, .int .i64 0, .int .i64 0, .int .i64 0], .agg #[.int .i64 0, .int .i64 0, .int .i64 0, .slice none 0 0, .int .i64 0, .int .i64 0, .int .i64 0, .int .i64 0, .int .i64 0, .int .i64 0, .int .i64 0], .string ⟨#[]⟩]
theorem laid_met (os : Os) : laidMetH Tryd.prog Rows.noteBackRow.laid ((World.laidAll Tryd.prog os Rows.noteBackRow.laid).forCall (fun _ _ => 0) ⟨#[], noArgs, []⟩).memory := by
  rw [MakeChecks.laidMetH_plain _ _ _ (by kernel_rfl)]
  exact laidMet_laidAll _ (by kernel_rfl) (by kernel_rfl)
def noRec {H : Type} : DataW H := .agg [.lit (.int .i64 0), .lit (.int .i64 0), .lit (.int .i64 0), .nil, .agg [.agg [.lit (.int .i64 0), .lit (.int .i64 0)], .lit (.int .i64 0), .lit (.int .i64 0), .lit (.int .i64 0), .lit (.int .i64 0), .lit (.int .i64 0)]]
theorem reads (os : Os) {H : Type} (enc : TypeId × Value → H) : ∃ ds places, DataW.whole enc Tryd.prog ((World.laidAll Tryd.prog os Rows.noteBackRow.laid).forCall (fun _ _ => 0) ⟨#[], noArgs, []⟩).memory Tryd.f4.params.toList Rows.noteBackSpec.vars false noArgs.toList 8 = some (ds, [], places) :=
  ⟨[noRec, noRec, .lit (.string [])], [], by kernel_rfl⟩

set_option maxRecDepth 100000 in
theorem lifted (os : Os) (started : os.Started) (H : Type) (enc : TypeId × Value → H) (F : Stop.Interp) :
    ReturnsInHanded {} Tryd.checked os 4 .any ((OpenSpec.ofChange Rows.noteBackSpec).preRow enc Tryd.prog Tryd.f4 Rows.noteBackRow.domain false Rows.noteBackRow.laid) (((OpenSpec.ofChange Rows.noteBackSpec).at F).post enc Tryd.prog Tryd.f4 false true false false) := by
  obtain ⟨ds, places, hx⟩ := reads os enc
  have hok : Input.okWideB Tryd.prog ((World.laidAll Tryd.prog os Rows.noteBackRow.laid).forCall (fun _ _ => 0) ⟨#[], noArgs, []⟩) 4 ⟨#[], noArgs, []⟩ = true := by kernel_rfl
  refine returnsInHanded_of_row (C := Tryd.checked) (s := OpenSpec.ofChange Rows.noteBackSpec) own started (by kernel_rfl) Tryd.func4
    ⟨World.laidAll Tryd.prog os Rows.noteBackRow.laid, fun _ _ => 0, ⟨#[], noArgs, []⟩, World.laidAll_os _ _ _, World.shaped_of_ZipB (by kernel_rfl) (by kernel_rfl), (Input.okWide_of_okWideB (base := 0) hok).1, (Input.okWide_of_okWideB hok).2,
      OpenSpec.preRow_of_cond 8 hx (by kernel_rfl) (fun k hk => by cases hk) (by kernel_rfl) (laid_met os), by
        simp only [Assume.holds]
        exact ⟨by simp, by simp, fun _ => Modest.zero, by simp, by simp⟩⟩ ?_
  intro W base args ds gs before hval hW _ _ _ hL hsh _
  exact contract H enc W base args ds gs before hval hW hL hsh

theorem said : Rows.NoteBackSaid :=
  OpenClaim.holds_of_cond 4 Tryd.f4 rfl rfl rfl rfl rfl rfl rfl ⟨rfl, rfl, rfl, rfl, rfl⟩ rfl rfl rfl rfl rfl (by kernel_rfl) Tryd.func4 (by kernel_rfl)
    (of_decide_eq_true (by kernel_rfl)) (by unfold Func.isWrapper; first | (rw [if_pos (by decide +kernel)]; kernel_rfl) | (rw [if_neg (by decide +kernel)]; exact ⟨rfl, rfl⟩))
    (fun os started H enc _ F => by rw [OpenClaim.pre_eq_preRow]; exact lifted os started H enc F)

theorem plain (f : FuncId) (fn : Func) (hf : Tryd.pinned.checked.prog.funcNamed "orangery/orangerylaw.NoteBack" = some f) (hfn : Tryd.pinned.checked.prog.funcs[f]? = some fn) :
    true = Tryd.pinned.checked.prog.looks [] ∧ ∀ (j : Nat) t, fn.params[j]? = some t → Tryd.pinned.checked.prog.wantsStandIn t = false := by
  obtain rfl : f = 4 := Option.some.inj ((show Tryd.prog.funcNamed "orangery/orangerylaw.NoteBack" = some 4 by kernel_rfl).symm.trans hf) |>.symm
  obtain rfl : fn = Tryd.f4 := (Option.some.inj (Tryd.func4.symm.trans hfn)).symm
  refine ⟨by kernel_rfl, fun j t ht => ?_⟩
  rw [Tryd.params4] at ht
  have hm : t ∈ [28, 28, 9] := by simpa using Array.mem_of_getElem? ht
  have hall : ([28, 28, 9].all fun u => !Tryd.prog.wantsStandIn u) = true := by kernel_rfl
  exact (show Tryd.prog.wantsStandIn t = false by simpa using List.all_eq_true.1 hall t hm)

/-- The statement. -/
theorem proved : Rows.NoteBackCardSaid :=
  Claim7.holds_tied_plain_at .later [] _ _ _ _ said (fun _ h => by cases h) (by kernel_rfl) (fun _ h => by cases h) noteBack_row_tie rfl ⟨rfl, rfl⟩ (by kernel_rfl) rfl plain (by kernel_rfl)
#print axioms proved
end Go.Proofs.YtjonkadcijnneacDoor.noteBack

