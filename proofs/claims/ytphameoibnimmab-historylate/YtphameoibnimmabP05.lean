/- 6 texts of the proof: Results that lie in cells: how a call hands them back. tree.Under. move.Do. Regions that draw their order, walked step by step: an operation that is not wanted is taken too. An append in a region that draws its order. orangerylaw.op; an own slice is read. -/
import Derived.Deep.RegionHeld3
import Derived.Deep.DeepCutAuto
import Derived.Laws.AppendOwn
import Derived.Test.YtphameoibnimmabP01
import Derived.Test.YtphameoibnimmabP02
import Derived.Test.YtphameoibnimmabP04
import Derived.Test.YtphameoibnimmabP03
/- Results that lie in cells: how a call hands them back. -/
namespace Go.Proofs.Ytphameoibnimmab
open Go.ChangeShapes Go.WideShapes Go.ChangeAt Go.RowKit

theorem Blk.range {w : World} {b : Nat} {vs : List Value} (h : Blk w b vs) : w.rangeAt b 0 vs := fun j v hv => by rw [Nat.zero_add]; exact h.at j hv
theorem Blk.there {w : World} {b : Nat} {vs : List Value} (h : Blk w b vs) : w.there b 0 vs.length := fun j hj =>
  ⟨by rw [Nat.zero_add, h.at j (List.getElem?_eq_getElem hj)]; rfl, by rw [Nat.zero_add]; exact h.frz j⟩

theorem Blk.load {w : World} {b : Nat} {vs : List Value} {ty : TypeId} {d : TypeDesc} (h : Blk w b vs) (hu : Try.prog.underlying ty = some d) (hd : d.isRow = true)
    (hi : (Try.prog.info? ty).map (·.size) = some vs.length) : (loadVar ty ⟨b, 0, none⟩).run Try.prog w = .ok (.agg vs.toArray) w :=
  run_loadVar_mid w b 0 ty vs d h.range hu hd hi

theorem ret_cell {fn : Func} {R : Ending → World → Prop} {tmps : Array Value} {W : World} {p : Tmp} {ty : TypeId} {b : Nat} {vs : List Value}
    (h : fn.results = #[.cell p ty]) (hp : tmps.getD p undef = .pointer (some ⟨b, 0, none⟩)) (hl : (loadVar ty ⟨b, 0, none⟩).run Try.prog W = .ok (.agg vs.toArray) W)
    (hR : R (.returned (.agg vs.toArray)) W) : bodyPost Try.prog fn R .ret { tmps := tmps, defers := [] } W := by
  refine bodyPost_ret ?_ rfl hR
  have hp' : tmps[p]?.getD undef = .pointer (some ⟨b, 0, none⟩) := by simpa using hp
  simp [results, h, hp', asAddr, hl]

theorem ret_cell_tmp {fn : Func} {R : Ending → World → Prop} {tmps : Array Value} {W : World} {p u : Tmp} {ty : TypeId} {b : Nat} {vs : List Value} {v : Value}
    (h : fn.results = #[.cell p ty, .tmp u]) (hp : tmps.getD p undef = .pointer (some ⟨b, 0, none⟩)) (hv : tmps.getD u undef = v) (hl : (loadVar ty ⟨b, 0, none⟩).run Try.prog W = .ok (.agg vs.toArray) W)
    (hR : R (.returned (.tuple #[.agg vs.toArray, v])) W) : bodyPost Try.prog fn R .ret { tmps := tmps, defers := [] } W := by
  refine bodyPost_ret ?_ rfl hR
  have hp' : tmps[p]?.getD undef = .pointer (some ⟨b, 0, none⟩) := by simpa using hp
  have hv' : tmps[u]?.getD undef = v := by simpa using hv
  simp [results, h, hp', hv', asAddr, hl]

theorem ret_tmp_cell {fn : Func} {R : Ending → World → Prop} {tmps : Array Value} {W : World} {p u : Tmp} {ty : TypeId} {b : Nat} {vs : List Value} {v : Value}
    (h : fn.results = #[.tmp u, .cell p ty]) (hp : tmps.getD p undef = .pointer (some ⟨b, 0, none⟩)) (hv : tmps.getD u undef = v) (hl : (loadVar ty ⟨b, 0, none⟩).run Try.prog W = .ok (.agg vs.toArray) W)
    (hR : R (.returned (.tuple #[v, .agg vs.toArray])) W) : bodyPost Try.prog fn R .ret { tmps := tmps, defers := [] } W := by
  refine bodyPost_ret ?_ rfl hR
  have hp' : tmps[p]?.getD undef = .pointer (some ⟨b, 0, none⟩) := by simpa using hp
  have hv' : tmps[u]?.getD undef = v := by simpa using hv
  simp [results, h, hp', hv', asAddr, hl]

theorem ret_cell_cell_tmp {fn : Func} {R : Ending → World → Prop} {tmps : Array Value} {W : World} {p q u : Tmp} {ty tz : TypeId} {b b' : Nat} {vs us : List Value} {v : Value}
    (h : fn.results = #[.cell p ty, .cell q tz, .tmp u]) (hp : tmps.getD p undef = .pointer (some ⟨b, 0, none⟩)) (hq : tmps.getD q undef = .pointer (some ⟨b', 0, none⟩)) (hv : tmps.getD u undef = v)
    (hl : (loadVar ty ⟨b, 0, none⟩).run Try.prog W = .ok (.agg vs.toArray) W) (hm : (loadVar tz ⟨b', 0, none⟩).run Try.prog W = .ok (.agg us.toArray) W)
    (hR : R (.returned (.tuple #[.agg vs.toArray, .agg us.toArray, v])) W) : bodyPost Try.prog fn R .ret { tmps := tmps, defers := [] } W := by
  refine bodyPost_ret ?_ rfl hR
  have hp' : tmps[p]?.getD undef = .pointer (some ⟨b, 0, none⟩) := by simpa using hp
  have hq' : tmps[q]?.getD undef = .pointer (some ⟨b', 0, none⟩) := by simpa using hq
  have hv' : tmps[u]?.getD undef = v := by simpa using hv
  simp [results, h, hp', hq', hv', asAddr, hl, hm]

theorem sizeTree : (Try.prog.info? 26).map (·.size) = some 1 := by kernel_rfl
theorem sizeStep : (Try.prog.info? 47).map (·.size) = some 11 := by kernel_rfl
theorem sizeOp : (Try.prog.info? 38).map (·.size) = some 7 := by kernel_rfl
theorem Blk.tree {w : World} {b : Nat} {v : Value} (h : Blk w b [v]) : (loadVar 26 ⟨b, 0, none⟩).run Try.prog w = .ok (.agg [v].toArray) w := h.load Try.underlying26 rfl sizeTree
end Go.Proofs.Ytphameoibnimmab

/- tree.Under. -/
namespace Go.Proofs.Ytphameoibnimmab
open Go.ChangeShapes Go.WideShapes Go.ChangeAt Go.RowKit
open Orangery (Pl find isNodeB inRangeB meetsN scan ringAt check underE underB)

set_option maxHeartbeats 1000000 in
theorem under_any (w : World) (a : Option Addr) (c : Nat) (l : List Pl) (n t : Int) (hl : l.length ≤ maxLen) (h : SlP w a l) :
    Calls Try.prog 54 #[.agg #[.slice a l.length c], .int .i64 n, .int .i64 t] w
      fun e w' => e = .returned (.tuple #[.bool (underB l n t), .int .i64 (underE l n t)]) ∧ Below w.heap.size w w' := by
  go_enter Try.func54, Try.ntmps54
  go_wp2_with fail
  have hB := Go.Joins.below_alloc2 w (Obj.cells #[Value.slice a l.length c] 26) (Obj.cells #[Value.int IntKind.i64 t] 3)
  generalize hW : (w.alloc (Obj.cells #[Value.slice a l.length c] 26)).alloc (Obj.cells #[Value.int IntKind.i64 t] 3) = W0 at hB
  have hS : W0.heap.size = w.heap.size + 2 := by subst hW; simp
  have hc : W0.cell? ⟨w.heap.size, 0, none⟩ = some (.slice a l.length c) := by subst hW; rw [(Go.Joins.below_alloc1 _ _).cell (by simp)]; simp
  have ht : W0.cell? ⟨w.heap.size + 1, 0, none⟩ = some (.int .i64 t) := by subst hW; simp
  clear hW
  have hP := h.below hB
  clear h
  refine (check_any W0 a c l hl hP).mono ?_
  rintro e w1 ⟨rfl, hb⟩
  have hb2 : Below w.heap.size w w1 := hB.trans (hb.mono (by omega))
  have hc1 := hc
  rw [← hb.cell (by show w.heap.size < _; omega)] at hc1
  have ht1 := ht
  rw [← hb.cell (by show w.heap.size + 1 < _; omega)] at ht1
  have hP1 := hP.below hb
  have hS1 : w.heap.size + 1 < w1.heap.size := by have := hb.size; omega
  clear hc ht hP hB hb
  by_cases hz : check l = 0
  · by_cases h1 : isNodeB n = true
    · by_cases h2 : isNodeB t = true
      · obtain ⟨e1, e2⟩ := Orangery.underE_ok l n t hz h1 h2
        have HE : Hid (underE l n t = 0) := e1
        have HB : Hid (underB l n t = ((n == t) || meetsN l (fun m => m == t) l.length n)) := e2
        clear e1 e2
        rw [hz]
        clear hz
        go_wp2_with fail
        refine (isNode_any _ n).mono ?_
        rintro e w2 ⟨rfl, rfl⟩
        go_wp2_with fail
        refine (isNode_any _ t).mono ?_
        rintro e w2 ⟨rfl, rfl⟩
        by_cases hnt : n = t
        · have hnt' : (n == t) = true := by simpa using hnt
          have HN : Hid ((n == t) = true) := hnt'
          clear hnt
          go_wp2
          go_ret2
          exact ⟨by rw [HE.out, HB.out, HN.out]; rfl, hb2⟩
        · have hnt' : (n == t) = false := by simpa using hnt
          have HN : Hid ((n == t) = false) := hnt'
          clear hnt
          go_wp2_with fail
          refine (meets_any _ _ c l n 63 (.pointer (some ⟨w.heap.size + 1, 0, none⟩)) (fun m => m == t) hl hP1 (Go.Proofs.enters_of Try.func63 (by kernel_rfl) rfl) ?_).mono ?_
          · intro W m hbW
            exact under1_any W m t (w.heap.size + 1) (by rw [hbW.cell hS1, ht1])
          rintro e w2 ⟨rfl, hbm⟩
          have hb3 : Below w.heap.size w w2 := hb2.trans (hbm.mono hb2.size)
          clear hbm
          go_wp2
          go_ret2
          exact ⟨by rw [HE.out, HB.out, HN.out]; rfl, hb3⟩
      · obtain ⟨e1, e2⟩ := Orangery.underE_who l n t hz (fun hh => h2 hh.2)
        have HE : Hid (underE l n t = 5 ∧ underB l n t = false) := ⟨e1, e2⟩
        have h2' : isNodeB t = false := by simpa using h2
        clear e1 e2 h2
        rw [hz]
        clear hz
        go_wp2_with fail
        refine (isNode_any _ n).mono ?_
        rintro e w2 ⟨rfl, rfl⟩
        go_wp2_with fail
        refine (isNode_any _ t).mono ?_
        rintro e w2 ⟨rfl, rfl⟩
        go_wp2
        go_ret2
        exact ⟨by rw [HE.out.1, HE.out.2]; rfl, hb2⟩
    · obtain ⟨e1, e2⟩ := Orangery.underE_who l n t hz (fun hh => h1 hh.1)
      have HE : Hid (underE l n t = 5 ∧ underB l n t = false) := ⟨e1, e2⟩
      have h1' : isNodeB n = false := by simpa using h1
      clear e1 e2 h1
      rw [hz]
      clear hz
      go_wp2_with fail
      refine (isNode_any _ n).mono ?_
      rintro e w2 ⟨rfl, rfl⟩
      go_wp2
      go_ret2
      exact ⟨by rw [HE.out.1, HE.out.2]; rfl, hb2⟩
  · obtain ⟨e1, e2⟩ := Orangery.underE_bad l n t hz
    have HE : Hid (underE l n t = check l ∧ underB l n t = false) := ⟨e1, e2⟩
    have hz' : (check l != 0) = true := by simpa using hz
    clear e1 e2 hz
    go_wp2
    go_ret2
    exact ⟨by rw [HE.out.1, HE.out.2]; rfl, hb2⟩
end Go.Proofs.Ytphameoibnimmab

/- move.Do. -/
namespace Go.Proofs.Ytphameoibnimmab
open Go.ChangeShapes Go.WideShapes Go.ChangeAt Go.RowKit
open Orangery (Pl Mv Stp outL inL check checkOp doE doT doS ring orI underB underE find noStep noOp)

set_option maxHeartbeats 2000000 in
set_option maxRecDepth 100000 in
theorem do_any (w : World) (a : Option Addr) (c : Nat) (l : List Pl) (o : Mv) (hl : l.length ≤ maxLen) (h : SlP w a l) :
    Calls Try.prog 40 #[.agg #[.slice a l.length c], opV o] w
      fun e w' => ∃ v, e = .returned (.tuple #[.agg #[v], stV (doS l o), .int .i64 (doE l o)]) ∧ OwnS w' w.heap.size v (doT l o) ∧ Below w.heap.size w w' := by
  obtain ⟨o1, o2, ⟨o3, o4, o5⟩, o6, o7⟩ := o
  go_enter Try.func40, Try.ntmps40
  go_wp2_with fail
  obtain ⟨W0, hW, hT, hO, hR, hQ, hB, hS⟩ := laid4 w [Value.slice a l.length c] 26 [Value.int IntKind.i64 o1, Value.int IntKind.i64 o2, Value.int IntKind.i64 o3, Value.int IntKind.i64 o4, Value.int IntKind.i64 o5, Value.int IntKind.i64 o6, Value.int IntKind.i64 o7] 38 [Value.slice none 0 0] 26 [Value.int IntKind.i64 0, Value.int IntKind.i64 0, Value.int IntKind.i64 0, Value.int IntKind.i64 0, Value.int IntKind.i64 0, Value.int IntKind.i64 0, Value.int IntKind.i64 0, Value.bool false, Value.int IntKind.i64 0, Value.int IntKind.i64 0, Value.int IntKind.i64 0] 47
  rw [hW]
  clear hW
  have hP := h.below hB
  clear h
  have t0 := hT.at 0 rfl
  have m0 := hO.at 0 rfl
  have m1 := hO.at 1 rfl
  have m2 := hO.at 2 rfl
  have m3 := hO.at 3 rfl
  have m4 := hO.at 4 rfl
  have m5 := hO.at 5 rfl
  have m6 := hO.at 6 rfl
  go_region_held3 (fun w' => w'.cell? ⟨w.heap.size, 0, none⟩ = some (.slice a l.length c) ∧ w'.cell? ⟨w.heap.size + 1, 0, none⟩ = some (.int .i64 o1) ∧ w'.cell? ⟨w.heap.size + 1, 1, none⟩ = some (.int .i64 o2) ∧ w'.cell? ⟨w.heap.size + 1, 2, none⟩ = some (.int .i64 o3) ∧ w'.cell? ⟨w.heap.size + 1, 3, none⟩ = some (.int .i64 o4) ∧ w'.cell? ⟨w.heap.size + 1, 4, none⟩ = some (.int .i64 o5) ∧ w'.cell? ⟨w.heap.size + 1, 5, none⟩ = some (.int .i64 o6) ∧ w'.cell? ⟨w.heap.size + 1, 6, none⟩ = some (.int .i64 o7)) (go_keep)
    (first | (go_at_call 12; refine (check_any _ a c l hl ?_).mono ?_; exact hP; rintro e w1 ⟨rfl, hb1⟩; have hb1' : Below W0.heap.size W0 w1 := ((Below.refl _ W0).drew).trans hb1; have t1 := (hT.keep hb1').at 0 rfl; have hO1 := hO.keep hb1'; have m10 := hO1.at 0 rfl; have m11 := hO1.at 1 rfl; have m12 := hO1.at 2 rfl; have m13 := hO1.at 3 rfl; have m14 := hO1.at 4 rfl; have m15 := hO1.at 5 rfl; have m16 := hO1.at 6 rfl) | (go_at_call 17; refine (moveCheck_any _ (o1, o2, (o3, o4, o5), o6, o7)).mono ?_; rintro e w2 ⟨rfl, hb2⟩; have hb2' := hb1'.trans (hb2.mono hb1'.size); have t2 := (hT.keep hb2').at 0 rfl; have hO2 := hO.keep hb2'; have m20 := hO2.at 0 rfl; have m21 := hO2.at 1 rfl; have m22 := hO2.at 2 rfl; have m23 := hO2.at 3 rfl; have m24 := hO2.at 4 rfl; have m25 := hO2.at 5 rfl; have m26 := hO2.at 6 rfl) | (go_at_call 26; refine (orE_any _ _ _ (check l) (checkOp (o1, o2, (o3, o4, o5), o6, o7)) ?_ ?_).mono ?_; simp; simp; rintro e w3 ⟨rfl, rfl⟩))
  have HE : Hid (doE l (o1, o2, (o3, o4, o5), o6, o7) = orI (check l) (checkOp (o1, o2, (o3, o4, o5), o6, o7))) := rfl
  have hT3 := (hT.keep hb2').alloc (Obj.cells #[Value.int IntKind.i64 (check l), Value.int IntKind.i64 (checkOp (o1, o2, (o3, o4, o5), o6, o7))] 29)
  have hO3 := hO2.alloc (Obj.cells #[Value.int IntKind.i64 (check l), Value.int IntKind.i64 (checkOp (o1, o2, (o3, o4, o5), o6, o7))] 29)
  have hR3 := (hR.keep hb2').alloc (Obj.cells #[Value.int IntKind.i64 (check l), Value.int IntKind.i64 (checkOp (o1, o2, (o3, o4, o5), o6, o7))] 29)
  have hQ3 := (hQ.keep hb2').alloc (Obj.cells #[Value.int IntKind.i64 (check l), Value.int IntKind.i64 (checkOp (o1, o2, (o3, o4, o5), o6, o7))] 29)
  have hb3 : Below W0.heap.size W0 (w2.alloc (Obj.cells #[Value.int IntKind.i64 (check l), Value.int IntKind.i64 (checkOp (o1, o2, (o3, o4, o5), o6, o7))] 29)) := hb2'.alloc hb2'.size _
  have hP3 := hP.below hb3
  have HB3 : Hid (Below w.heap.size w (w2.alloc (Obj.cells #[Value.int IntKind.i64 (check l), Value.int IntKind.i64 (checkOp (o1, o2, (o3, o4, o5), o6, o7))] 29))) := hB.trans (hb3.mono hB.size)
  generalize w2.alloc (Obj.cells #[Value.int IntKind.i64 (check l), Value.int IntKind.i64 (checkOp (o1, o2, (o3, o4, o5), o6, o7))] 29) = W3 at *
  clear hT hO hR hQ hB hP t0 m0 m1 m2 m3 m4 m5 m6 t1 m10 m11 m12 m13 m14 m15 m16 t2 m20 m21 m22 m23 m24 m25 m26 hb1 hb1' hb2 hb2' hO1 hO2
  by_cases hz : orI (check l) (checkOp (o1, o2, (o3, o4, o5), o6, o7)) = 0
  · obtain ⟨hck, hco⟩ := Orangery.doE_zero (l := l) (o := (o1, o2, (o3, o4, o5), o6, o7)) hz
    have hok := Orangery.checkOp_zero hco
    obtain ⟨hr1, hr2, hr3⟩ := Orangery.opOk_place hok
    have hlen := Orangery.check_len l hck
    have hby := ((Orangery.check_iff l).1 hck).2.1
    have hu1 := (Orangery.underE_ok l o4 o3 hck hr3 hr2).1
    have HZ : Hid (doE l (o1, o2, (o3, o4, o5), o6, o7) = 0) := by show _ = _; rw [HE.out]; exact hz
    rw [hz]
    clear hz hck hco hok hr1 hr2 hr3 HE
    have t0 := hT3.at 0 rfl
    have m0 := hO3.at 0 rfl
    have m1 := hO3.at 1 rfl
    have m2 := hO3.at 2 rfl
    have m3 := hO3.at 3 rfl
    have m4 := hO3.at 4 rfl
    have m5 := hO3.at 5 rfl
    have m6 := hO3.at 6 rfl
    go_wp2_with fail
    refine (under_any W3 a c l o4 o3 hl hP3).mono ?_
    rintro e w4 ⟨rfl, hb4⟩
    rw [hu1]
    have hT4 := hT3.keep hb4
    have hO4 := hO3.keep hb4
    have hR4 := hR3.keep hb4
    have hQ4 := hQ3.keep hb4
    have hP4 := hP3.below hb4
    have HB4 : Hid (Below w.heap.size w w4) := HB3.out.trans (hb4.mono HB3.out.size)
    clear hT3 hO3 hR3 hQ3 hP3 HB3 hb3 hb4 t0 m0 m1 m2 m3 m4 m5 m6 hu1
    have t0 := hT4.at 0 rfl
    have m0 := hO4.at 0 rfl
    have m1 := hO4.at 1 rfl
    have m2 := hO4.at 2 rfl
    have m3 := hO4.at 3 rfl
    have m4 := hO4.at 4 rfl
    have m5 := hO4.at 5 rfl
    have m6 := hO4.at 6 rfl
    generalize hrg : underB l o4 o3 = rg at *
    have HRG : Hid (ring l (o1, o2, (o3, o4, o5), o6, o7) = rg) := hrg
    clear hrg
    have n0 := World.new_ne w4 _ t0
    have n1 := World.new_ne w4 _ m0
    go_upto_region 7 with fail
    go_cut [10] from 10 to 43 (fun r wc => ∃ bs, r = .pointer (some ⟨bs, 0, none⟩) ∧ w4.heap.size ≤ bs ∧ Blk wc bs (stC ((o1, o2, (o3, o4, o5), o6, o7), !rg, find l o3)) ∧ Below w4.heap.size w4 wc)
    case first =>
      go_region_held3 (fun w' => w'.cell? ⟨w.heap.size, 0, none⟩ = some (.slice a l.length c) ∧ w'.cell? ⟨w.heap.size + 1, 0, none⟩ = some (.int .i64 o1) ∧ w'.cell? ⟨w.heap.size + 1, 1, none⟩ = some (.int .i64 o2) ∧ w'.cell? ⟨w.heap.size + 1, 2, none⟩ = some (.int .i64 o3) ∧ w'.cell? ⟨w.heap.size + 1, 3, none⟩ = some (.int .i64 o4) ∧ w'.cell? ⟨w.heap.size + 1, 4, none⟩ = some (.int .i64 o5) ∧ w'.cell? ⟨w.heap.size + 1, 5, none⟩ = some (.int .i64 o6) ∧ w'.cell? ⟨w.heap.size + 1, 6, none⟩ = some (.int .i64 o7)) (go_keep)
        (first | (go_at_call 14; refine (find_any _ a c l o3 hl ?_).mono ?_; exact hP4; rintro e w5 ⟨rfl, hb5⟩; have hb5' : Below w4.heap.size w4 w5 := ((Below.refl _ w4).drew).trans hb5; have t1 := (hT4.keep hb5').at 0 rfl; have hO5 := hO4.keep hb5'; have m10 := hO5.at 0 rfl; have m11 := hO5.at 1 rfl; have m12 := hO5.at 2 rfl; have m13 := hO5.at 3 rfl; have m14 := hO5.at 4 rfl; have m15 := hO5.at 5 rfl; have m16 := hO5.at 6 rfl; have y0 := World.new_ne w5 _ t1; have y1 := World.new_ne w5 _ m10) | (go_at_call 14; refine (find_any _ a c l o3 hl ?_).mono ?_; exact hP4.below (((Below.refl _ w4).alloc (Nat.le_refl _) _).drew); rintro e w5 ⟨rfl, hb5⟩; have hb5' : Below w4.heap.size w4 w5 := (((Below.refl _ w4).alloc (Nat.le_refl _) _).drew).trans (hb5.mono (by simp)); have hN5 := ((Blk.new w4 (stC noStep) 47).drew).keep hb5; have z0 := hN5.at 0 rfl; have z1 := hN5.at 1 rfl; have z2 := hN5.at 2 rfl; have z3 := hN5.at 3 rfl; have z4 := hN5.at 4 rfl; have z5 := hN5.at 5 rfl; have z6 := hN5.at 6 rfl; have z7 := hN5.at 7 rfl; have z8 := hN5.at 8 rfl; have z9 := hN5.at 9 rfl; have z10 := hN5.at 10 rfl; have zf := hN5.frz; have t1 := (hT4.keep hb5').at 0 rfl; have hO5 := hO4.keep hb5'; have m10 := hO5.at 0 rfl; have m11 := hO5.at 1 rfl; have m12 := hO5.at 2 rfl; have m13 := hO5.at 3 rfl; have m14 := hO5.at 4 rfl; have m15 := hO5.at 5 rfl; have m16 := hO5.at 6 rfl; have y0 := World.new_ne w5 _ t1; have y1 := World.new_ne w5 _ m10))
      · go_wp2
        go_meet
        case rel => exact ⟨w5.heap.size, rfl, hb5'.size, Blk.new w5 (stC ((o1, o2, (o3, o4, o5), o6, o7), !rg, find l o3)) 47, hb5'.alloc hb5'.size _⟩
      · go_wp2
        go_meet
        case rel => exact ⟨w4.heap.size, rfl, Nat.le_refl _, hN5.sets (stC ((o1, o2, (o3, o4, o5), o6, o7), !rg, find l o3)) rfl, below_sets hb5' w4.heap.size (Nat.le_refl _) (stC ((o1, o2, (o3, o4, o5), o6, o7), !rg, find l o3)) 0⟩
    case rest =>
      obtain ⟨bs, rfl, hbs, hS5, hb5⟩ := hcut
      have hT5 := hT4.keep hb5
      have hO5 := hO4.keep hb5
      have hR5 := hR4.keep hb5
      have hQ5 := hQ4.keep hb5
      have hP5 := hP4.below hb5
      have HB5 : Hid (Below w.heap.size w wc) := HB4.out.trans (hb5.mono HB4.out.size)
      have hqlt := hQ4.lt
      have hwc : w.heap.size + 1 + 1 + 1 + 1 ≤ wc.heap.size := by have := hb5.size; omega
      have n2 : ¬ bs = w.heap.size := by omega
      have n3 : ¬ bs = w.heap.size + 1 + 1 := by omega
      have n4 : ¬ bs = w.heap.size + 1 + 1 + 1 := by omega
      have n5 : ¬ w.heap.size + 1 + 1 = bs := by omega
      have n6 : ¬ w.heap.size + 1 + 1 + 1 = bs := by omega
      have n11 : ¬ bs = w.heap.size + 1 := by omega
      have n12 : ¬ w.heap.size + 1 + 1 = w.heap.size + 1 := by omega
      have n13 : ¬ w.heap.size + 1 + 1 + 1 = w.heap.size + 1 := by omega
      have n7 : ¬ w.heap.size + 1 + 1 = w.heap.size := by omega
      have n8 : ¬ w.heap.size + 1 + 1 + 1 = w.heap.size := by omega
      have n9 : ¬ w.heap.size + 1 + 1 + 1 = w.heap.size + 1 + 1 := by omega
      have n10 : ¬ w.heap.size + 1 + 1 = w.heap.size + 1 + 1 + 1 := by omega
      clear hT4 hO4 hR4 hQ4 hP4 HB4 t0 m0 m1 m2 m3 m4 m5 m6 n0 n1
      have t0 := hT5.at 0 rfl
      cases rg
      · have HBY : Hid (Orangery.byNode l) := hby
        clear hby
        have s0 := hS5.at 0 rfl
        have s1 := hS5.at 1 rfl
        have s2 := hS5.at 2 rfl
        have s3 := hS5.at 3 rfl
        have s4 := hS5.at 4 rfl
        have s5 := hS5.at 5 rfl
        have s6 := hS5.at 6 rfl
        have s7 := hS5.at 7 rfl
        have s8 := hS5.at 8 rfl
        have s9 := hS5.at 9 rfl
        have s10 := hS5.at 10 rfl
        have m0 := hO5.at 0 rfl
        have m1 := hO5.at 1 rfl
        have m2 := hO5.at 2 rfl
        have m3 := hO5.at 3 rfl
        have m4 := hO5.at 4 rfl
        have m5 := hO5.at 5 rfl
        have m6 := hO5.at 6 rfl
        go_wp2_with fail
        go_region_held3 (fun w' => w'.cell? ⟨w.heap.size, 0, none⟩ = some (.slice a l.length c) ∧ w'.cell? ⟨w.heap.size + 1, 0, none⟩ = some (.int .i64 o1) ∧ w'.cell? ⟨w.heap.size + 1, 1, none⟩ = some (.int .i64 o2) ∧ w'.cell? ⟨w.heap.size + 1, 2, none⟩ = some (.int .i64 o3) ∧ w'.cell? ⟨w.heap.size + 1, 3, none⟩ = some (.int .i64 o4) ∧ w'.cell? ⟨w.heap.size + 1, 4, none⟩ = some (.int .i64 o5) ∧ w'.cell? ⟨w.heap.size + 1, 5, none⟩ = some (.int .i64 o6) ∧ w'.cell? ⟨w.heap.size + 1, 6, none⟩ = some (.int .i64 o7) ∧ w'.cell? ⟨bs, 0, none⟩ = some (.int .i64 o1) ∧ w'.cell? ⟨bs, 1, none⟩ = some (.int .i64 o2) ∧ w'.cell? ⟨bs, 2, none⟩ = some (.int .i64 o3) ∧ w'.cell? ⟨bs, 3, none⟩ = some (.int .i64 o4) ∧ w'.cell? ⟨bs, 4, none⟩ = some (.int .i64 o5) ∧ w'.cell? ⟨bs, 5, none⟩ = some (.int .i64 o6) ∧ w'.cell? ⟨bs, 6, none⟩ = some (.int .i64 o7) ∧ w'.cell? ⟨bs, 7, none⟩ = some (.bool true) ∧ w'.cell? ⟨bs, 8, none⟩ = some (.int .i64 (find l o3).1) ∧ w'.cell? ⟨bs, 9, none⟩ = some (.int .i64 (find l o3).2.1) ∧ w'.cell? ⟨bs, 10, none⟩ = some (.int .i64 (find l o3).2.2)) (go_keep)
          (first | (go_at_call 57; refine (target_any _ (o1, o2, (o3, o4, o5), o6, o7)).mono ?_; rintro e w6 ⟨rfl, hb6⟩; have hb6' : Below wc.heap.size wc w6 := ((Below.refl _ wc).drew).trans hb6; have hP6 := hP5.below hb6'; have t6 := (hT5.keep hb6').at 0 rfl; have hO6 := hO5.keep hb6'; have m6_0 := hO6.at 0 rfl; have m6_1 := hO6.at 1 rfl; have m6_2 := hO6.at 2 rfl; have m6_3 := hO6.at 3 rfl; have m6_4 := hO6.at 4 rfl; have m6_5 := hO6.at 5 rfl; have m6_6 := hO6.at 6 rfl; have hS6 := hS5.keep hb6'; have s6_0 := hS6.at 0 rfl; have s6_1 := hS6.at 1 rfl; have s6_2 := hS6.at 2 rfl; have s6_3 := hS6.at 3 rfl; have s6_4 := hS6.at 4 rfl; have s6_5 := hS6.at 5 rfl; have s6_6 := hS6.at 6 rfl; have s6_7 := hS6.at 7 rfl; have s6_8 := hS6.at 8 rfl; have s6_9 := hS6.at 9 rfl; have s6_10 := hS6.at 10 rfl) | (go_at_call 56; refine (with_any _ a c l (o3, o4, o5) (by omega) hP6 HBY.out).mono ?_; rintro e w7 ⟨v7, rfl, hO7', hb7⟩; obtain ⟨a7, c7, rfl⟩ := hO7'.val; have hb7' : Below wc.heap.size wc w7 := hb6'.trans (hb7.mono hb6'.size); have t7 := (hT5.keep hb7').at 0 rfl; have hO7 := hO5.keep hb7'; have m7_0 := hO7.at 0 rfl; have m7_1 := hO7.at 1 rfl; have m7_2 := hO7.at 2 rfl; have m7_3 := hO7.at 3 rfl; have m7_4 := hO7.at 4 rfl; have m7_5 := hO7.at 5 rfl; have m7_6 := hO7.at 6 rfl; have hS7 := hS5.keep hb7'; have s7_0 := hS7.at 0 rfl; have s7_1 := hS7.at 1 rfl; have s7_2 := hS7.at 2 rfl; have s7_3 := hS7.at 3 rfl; have s7_4 := hS7.at 4 rfl; have s7_5 := hS7.at 5 rfl; have s7_6 := hS7.at 6 rfl; have s7_7 := hS7.at 7 rfl; have s7_8 := hS7.at 8 rfl; have s7_9 := hS7.at 9 rfl; have s7_10 := hS7.at 10 rfl; have hR7 := hR5.keep hb7'; have r0 := hR7.at 0 rfl; have rf := hR7.frz; have hQ7 := hQ5.keep hb7'; have q0 := hQ7.at 0 rfl; have q1 := hQ7.at 1 rfl; have q2 := hQ7.at 2 rfl; have q3 := hQ7.at 3 rfl; have q4 := hQ7.at 4 rfl; have q5 := hQ7.at 5 rfl; have q6 := hQ7.at 6 rfl; have q7 := hQ7.at 7 rfl; have q8 := hQ7.at 8 rfl; have q9 := hQ7.at 9 rfl; have q10 := hQ7.at 10 rfl; have qf := hQ7.frz))
        go_wp2
        have hRf := (hR7.set 0 (by simp) (.slice a7 (inL l (o3, o4, o5)).length c7)).others (g := w.heap.size + 1 + 1 + 1) (by omega) (stC ((o1, o2, (o3, o4, o5), o6, o7), true, find l o3)) 0
        have hQf := (hQ7.other (g := w.heap.size + 1 + 1) (by omega) 0 (.slice a7 (inL l (o3, o4, o5)).length c7)).sets (stC ((o1, o2, (o3, o4, o5), o6, o7), true, find l o3)) rfl
        refine ret_cell_cell_tmp Try.results40 rfl rfl rfl hRf.tree (hQf.load Try.underlying47 rfl sizeStep) ?_
        refine ⟨.slice a7 (inL l (o3, o4, o5)).length c7, ?_, ?_, ?_⟩
        · rw [HZ.out]
          have e : doS l (o1, o2, (o3, o4, o5), o6, o7) = ((o1, o2, (o3, o4, o5), o6, o7), true, find l o3) := by unfold doS; rw [if_neg (by simp [HZ.out]), HRG.out]; rfl
          rw [e]
          rfl
        · have e : doT l (o1, o2, (o3, o4, o5), o6, o7) = inL l (o3, o4, o5) := by unfold doT; rw [if_neg (by simp [HZ.out]), HRG.out]; rfl
          rw [e]
          have h1 := (hO7'.mono (base' := wc.heap.size) hb6'.size).mono (base' := w.heap.size + 1 + 1 + 1 + 1) (by omega)
          exact (OwnS.others (w.heap.size + 1 + 1 + 1) (by omega) (stC ((o1, o2, (o3, o4, o5), o6, o7), true, find l o3)) 0 _ (h1.other (w.heap.size + 1 + 1) (by omega) 0 _)).mono (by omega)
        · have h1 : Below w.heap.size w w7 := HB5.out.trans (hb7'.mono HB5.out.size)
          exact below_sets (h1.setCell (by show _ ≤ w.heap.size + 1 + 1; omega) _) (w.heap.size + 1 + 1 + 1) (by omega) (stC ((o1, o2, (o3, o4, o5), o6, o7), true, find l o3)) 0
      · have s0 := hS5.at 0 rfl
        have s1 := hS5.at 1 rfl
        have s2 := hS5.at 2 rfl
        have s3 := hS5.at 3 rfl
        have s4 := hS5.at 4 rfl
        have s5 := hS5.at 5 rfl
        have s6 := hS5.at 6 rfl
        have s7 := hS5.at 7 rfl
        have s8 := hS5.at 8 rfl
        have s9 := hS5.at 9 rfl
        have s10 := hS5.at 10 rfl
        go_wp2_with fail
        go_region_held3 (fun w' => w'.cell? ⟨w.heap.size, 0, none⟩ = some (.slice a l.length c) ∧ w'.cell? ⟨bs, 0, none⟩ = some (.int .i64 o1) ∧ w'.cell? ⟨bs, 1, none⟩ = some (.int .i64 o2) ∧ w'.cell? ⟨bs, 2, none⟩ = some (.int .i64 o3) ∧ w'.cell? ⟨bs, 3, none⟩ = some (.int .i64 o4) ∧ w'.cell? ⟨bs, 4, none⟩ = some (.int .i64 o5) ∧ w'.cell? ⟨bs, 5, none⟩ = some (.int .i64 o6) ∧ w'.cell? ⟨bs, 6, none⟩ = some (.int .i64 o7) ∧ w'.cell? ⟨bs, 7, none⟩ = some (.bool false) ∧ w'.cell? ⟨bs, 8, none⟩ = some (.int .i64 (find l o3).1) ∧ w'.cell? ⟨bs, 9, none⟩ = some (.int .i64 (find l o3).2.1) ∧ w'.cell? ⟨bs, 10, none⟩ = some (.int .i64 (find l o3).2.2)) (go_keep)
          (first | (go_at_call 55; refine (clone_any _ a c l (by omega) ?_).mono ?_; exact hP5; rintro e w6 ⟨v6, rfl, hO6, hb6⟩; obtain ⟨a6, c6, rfl⟩ := hO6.val; have hb6' : Below wc.heap.size wc w6 := ((Below.refl _ wc).drew).trans hb6; have t1 := (hT5.keep hb6').at 0 rfl; have hS6 := hS5.keep hb6'; have s10 := hS6.at 0 rfl; have s11 := hS6.at 1 rfl; have s12 := hS6.at 2 rfl; have s13 := hS6.at 3 rfl; have s14 := hS6.at 4 rfl; have s15 := hS6.at 5 rfl; have s16 := hS6.at 6 rfl; have s17 := hS6.at 7 rfl; have s18 := hS6.at 8 rfl; have s19 := hS6.at 9 rfl; have s110 := hS6.at 10 rfl; have hR6 := hR5.keep hb6'; have r0 := hR6.at 0 rfl; have rf := hR6.frz; have hQ6 := hQ5.keep hb6'; have q0 := hQ6.at 0 rfl; have q1 := hQ6.at 1 rfl; have q2 := hQ6.at 2 rfl; have q3 := hQ6.at 3 rfl; have q4 := hQ6.at 4 rfl; have q5 := hQ6.at 5 rfl; have q6 := hQ6.at 6 rfl; have q7 := hQ6.at 7 rfl; have q8 := hQ6.at 8 rfl; have q9 := hQ6.at 9 rfl; have q10 := hQ6.at 10 rfl; have qf := hQ6.frz))
        go_wp2
        have hRf := (hR6.set 0 (by simp) (.slice a6 l.length c6)).others (g := w.heap.size + 1 + 1 + 1) (by omega) (stC ((o1, o2, (o3, o4, o5), o6, o7), false, find l o3)) 0
        have hQf := (hQ6.other (g := w.heap.size + 1 + 1) (by omega) 0 (.slice a6 l.length c6)).sets (stC ((o1, o2, (o3, o4, o5), o6, o7), false, find l o3)) rfl
        refine ret_cell_cell_tmp Try.results40 rfl rfl rfl hRf.tree (hQf.load Try.underlying47 rfl sizeStep) ?_
        refine ⟨.slice a6 l.length c6, ?_, ?_, ?_⟩
        · rw [HZ.out]
          have e : doS l (o1, o2, (o3, o4, o5), o6, o7) = ((o1, o2, (o3, o4, o5), o6, o7), false, find l o3) := by unfold doS; rw [if_neg (by simp [HZ.out]), HRG.out]; rfl
          rw [e]
          rfl
        · have e : doT l (o1, o2, (o3, o4, o5), o6, o7) = l := by unfold doT; rw [if_neg (by simp [HZ.out]), HRG.out]; rfl
          rw [e]
          have h1 := (hO6.mono (base' := wc.heap.size) (Nat.le_refl _)).mono (base' := w.heap.size + 1 + 1 + 1 + 1) (by omega)
          exact (OwnS.others (w.heap.size + 1 + 1 + 1) (by omega) (stC ((o1, o2, (o3, o4, o5), o6, o7), false, find l o3)) 0 _ (h1.other (w.heap.size + 1 + 1) (by omega) 0 _)).mono (by omega)
        · have h1 : Below w.heap.size w w6 := HB5.out.trans (hb6'.mono HB5.out.size)
          exact below_sets (h1.setCell (by show _ ≤ w.heap.size + 1 + 1; omega) _) (w.heap.size + 1 + 1 + 1) (by omega) (stC ((o1, o2, (o3, o4, o5), o6, o7), false, find l o3)) 0
  · have hz' : (orI (check l) (checkOp (o1, o2, (o3, o4, o5), o6, o7)) != 0) = true := by simpa using hz
    have HZ : Hid (orI (check l) (checkOp (o1, o2, (o3, o4, o5), o6, o7)) ≠ 0) := hz
    have HR3 : Hid (Blk W3 (w.heap.size + 1 + 1) [Value.slice none 0 0]) := hR3
    have HQ3 : Hid (Blk W3 (w.heap.size + 1 + 1 + 1) (stC noStep)) := hQ3
    generalize orI (check l) (checkOp (o1, o2, (o3, o4, o5), o6, o7)) = E at *
    have r0 := hR3.at 0 rfl
    have rf := hR3.frz
    clear hz hT3 hO3 hR3 hQ3 hb3 hP3
    have HTH : Hid ((W3.setCell ⟨w.heap.size + 1 + 1, 0, none⟩ (.slice none 0 0)).there (w.heap.size + 1 + 1 + 1) 0 11) := (HQ3.out.other (g := w.heap.size + 1 + 1) (by omega) 0 (.slice none 0 0)).there
    go_wp2_with (refine wpList_store_mid (by rfl) 47 _ _ (by rfl) (w.heap.size + 1 + 1 + 1) 0 (stC noStep).toArray (by rfl) (by rfl) HTH.out sizeStep (all_oneCell_toArray (stC_one _)) ?_)
    have hRf := (HR3.out.set 0 (by simp) (.slice none 0 0)).others (g := w.heap.size + 1 + 1 + 1) (by omega) (stC noStep) 0
    have hQf := (HQ3.out.other (g := w.heap.size + 1 + 1) (by omega) 0 (.slice none 0 0)).sets (stC noStep) rfl
    refine ret_cell_cell_tmp Try.results40 rfl rfl rfl hRf.tree (hQf.load Try.underlying47 rfl sizeStep) ?_
    refine ⟨.slice none 0 0, ?_, ?_, ?_⟩
    · rw [HE.out]
      have e : doS l (o1, o2, (o3, o4, o5), o6, o7) = noStep := by unfold doS; rw [if_pos (by rw [HE.out]; exact HZ.out)]
      rw [e]
      rfl
    · have e : doT l (o1, o2, (o3, o4, o5), o6, o7) = [] := by unfold doT; rw [if_pos (by rw [HE.out]; exact HZ.out)]
      rw [e]
      exact Or.inl ⟨rfl, rfl⟩
    · exact below_sets (HB3.out.setCell (by show _ ≤ w.heap.size + 1 + 1; omega) _) _ (by omega) _ _
end Go.Proofs.Ytphameoibnimmab

/- Regions that draw their order, walked step by step: an operation that is not wanted is taken too. -/
namespace Go.Proofs.Ytphameoibnimmab
open Go.ChangeShapes Go.WideShapes Go.ChangeAt Go.RowKit

/-- a wanted operation is taken first -/
theorem take_yes {P : Program} {md : Region.Mode} {ops : Array Oper} {Q : Exit → Act → World → Prop} {S : World → Prop} (i : Nat) (d : Nat) {oi : Oper} {v : Value} {fuel : Nat} {listed : Array Bool} {a : Act} {w : World} (hi : ops[i]? = some oi) (hd : oi.dst = some d)
    (hs : Region.noSelect ops = true) (hf : Region.free md ops listed i = true) (hr : (Region.ready md ops listed).contains i = true)
    (hQ : ∀ c a w, Q (.panic c) (a.put oi.dst v) w → Q (.panic c) a w) (hw : Region.wanted oi (yielded ops a.tmps) = true) (hy : ∀ w, S w → (execOp a.eval oi).run P w = .ok (.value v) w) (hS : S w)
    (h : wpAnyH P md ops Q S fuel (listed.setIfInBounds i true) (a.put (some d) v) w) : wpAnyH P md ops Q S (fuel + 1) listed a w :=
  wpAnyH_take hi hs hf hr hQ (Or.inl ⟨hw, hy⟩) hS (by rw [hd]; exact h)

/-- an operation that is not wanted is passed by -/
theorem take_no {P : Program} {md : Region.Mode} {ops : Array Oper} {Q : Exit → Act → World → Prop} {S : World → Prop} (i : Nat) (d : Nat) {oi : Oper} {fuel : Nat} {listed : Array Bool} {a : Act} {w : World} (hi : ops[i]? = some oi) (hd : oi.dst = some d)
    (hs : Region.noSelect ops = true) (hf : Region.free md ops listed i = true) (hr : (Region.ready md ops listed).contains i = true)
    (hQ : ∀ c a w, Q (.panic c) (a.put oi.dst undef) w → Q (.panic c) a w) (hw : Region.wanted oi (yielded ops a.tmps) = false) (hS : S w)
    (h : wpAnyH P md ops Q S fuel (listed.setIfInBounds i true) (a.put (some d) undef) w) : wpAnyH P md ops Q S (fuel + 1) listed a w :=
  wpAnyH_take hi hs hf hr hQ (Or.inr ⟨hw, rfl⟩) hS (by rw [hd]; exact h)
/-- a load of a whole row or struct is taken first -/
theorem take_load {P : Program} {md : Region.Mode} {ops : Array Oper} {Q : Exit → Act → World → Prop} {S : World → Prop} (i : Nat) (d : Nat) {oi : Oper} (ty : TypeId) {x : Operand} (b : Nat) (cs : List Value) {dd : TypeDesc} {fuel : Nat} {listed : Array Bool} {a : Act} {w : World} (hi : ops[i]? = some oi) (hd : oi.dst = some d)
    (hs : Region.noSelect ops = true) (hf : Region.free md ops listed i = true) (hr : (Region.ready md ops listed).contains i = true)
    (hQ : ∀ c a w, Q (.panic c) (a.put oi.dst (.agg cs.toArray)) w → Q (.panic c) a w) (hw : Region.wanted oi (yielded ops a.tmps) = true)
    (ho : oi.op = .load ty x) (hx : a.eval x = .pointer (some ⟨b, 0, none⟩)) (hc : ∀ w, S w → w.rangeAt b 0 cs)
    (hu : P.underlying ty = some dd) (hdd : dd.isRow = true) (hz : (P.info? ty).map (·.size) = some cs.length) (hS : S w)
    (h : wpAnyH P md ops Q S fuel (listed.setIfInBounds i true) (a.put (some d) (.agg cs.toArray)) w) : wpAnyH P md ops Q S (fuel + 1) listed a w :=
  wpAnyH_take hi hs hf hr hQ (yieldsIf_load_mid hw ty x ho b 0 hx cs dd hc hu hdd hz) hS (by rw [hd]; exact h)
/-- a store of a whole row or struct, the only one that may come up -/
theorem step_store {P : Program} {md : Region.Mode} {ops : Array Oper} {Q : Exit → Act → World → Prop} {S : World → Prop} (i : Nat) {oi : Oper} (ty : TypeId) {x y : Operand} (b : Nat) (cs : List Value) {fuel : Nat} {listed : Array Bool} {a : Act} {w : World} (hr : Region.ready md ops listed = [i]) (hi : ops[i]? = some oi) (hd : oi.dst = none)
    (hw : Region.wanted oi (yielded ops a.tmps) = true) (ho : oi.op = .store ty x y) (hx : a.eval x = .pointer (some ⟨b, 0, none⟩)) (hy : a.eval y = .agg cs.toArray)
    (ht : w.there b 0 cs.length) (hz : (P.info? ty).map (·.size) = some cs.length) (h1 : ∀ v ∈ cs, v.oneCell' = true) (hS : S (w.setCells b 0 cs))
    (h : wpAnyH P md ops Q S fuel (listed.setIfInBounds i true) a (w.setCells b 0 cs)) : wpAnyH P md ops Q S (fuel + 1) listed a w := by
  refine wpAnyH_ready hr (by simp) (AllReadyH.cons hi (fun K hK => ?_) AllReadyH.nil)
  rw [if_pos hw]
  refine wp_store_mid ty x y ho b 0 cs.toArray hx hy (by simpa using ht) (by simpa using hz) (all_oneCell_toArray h1) ?_
  rw [hd]
  have e : cs.toArray.toList = cs := rfl
  rw [e]
  exact hK.out _ _ hS (fun _ => h)
end Go.Proofs.Ytphameoibnimmab

/- An append in a region that draws its order. -/
namespace Go.Proofs.Ytphameoibnimmab
open Go.ChangeShapes Go.WideShapes Go.ChangeAt Go.RowKit

/-- an append to a slice of the call's own, the only operation that may come up -/
theorem step_append {P : Program} {md : Region.Mode} {ops : Array Oper} {Q : Exit → Act → World → Prop} {S : World → Prop} (i d : Nat) {oi : Oper} {s x : Operand} (t : TypeId) {fuel : Nat} {listed : Array Bool} {a : Act} {w : World} (hr : Region.ready md ops listed = [i]) (hi : ops[i]? = some oi) (hd : oi.dst = some d)
    (hw : Region.wanted oi (yielded ops a.tmps) = true) (ho : oi.op = .call { callee := .builtin .append, args := #[s, x], argTypes := #[t, t] })
    (base : Nat) (e : TypeId) (inf : TypeInfo) (z : Value) (size bytes : Nat) (ht : P.underlying t = some (.slice e)) (hinf : P.info? e = some inf) (hz : inf.zero = some z)
    (hsize : inf.size = size) (hby : inf.bytes = bytes) (hzs : z.cells.size = size) (hsz : 0 < size)
    (v : Value) (n : Nat) (xs : List Value) (hs : a.eval s = v) (hown : w.ownsRow base e size v n xs)
    (ad : Addr) (m c : Nat) (news : List Value) (hx : a.eval x = .slice (some ad) m c) (hl : news.length = m * size) (hnews : ∀ j u, news[j]? = some u → w.cell? (ad.add j) = some u) (h1 : ∀ u ∈ news, u.oneCell' = true)
    (h63 : n + m ≤ maxLen) (hbytes : (n + m) * bytes ≤ 140737488355328) (hbase : base ≤ w.heap.size)
    (h : ∀ v' w', w'.ownsRow base e size v' (n + m) (xs ++ news) → w.grownBy w' v.ownBlock → S w' ∧ wpAnyH P md ops Q S fuel (listed.setIfInBounds i true) (a.put (some d) v') w') : wpAnyH P md ops Q S (fuel + 1) listed a w := by
  refine wpAnyH_ready hr (by simp) (AllReadyH.cons hi (fun K hK => ?_) AllReadyH.nil)
  rw [if_pos hw]
  refine wp_append_own w s x t ho base e inf z size bytes ht hinf hz hsize hby hzs hsz v n xs hs hown ad m c news hx hl hnews h1 h63 hbytes hbase (fun v' w' h2 h3 _ => ?_)
  rw [hd]
  exact hK.out _ _ (h v' w' h2 h3).1 (fun _ => (h v' w' h2 h3).2)
end Go.Proofs.Ytphameoibnimmab

/- orangerylaw.op; an own slice is read. -/
namespace Go.Proofs.Ytphameoibnimmab
open Go.ChangeShapes Go.WideShapes Go.ChangeAt Go.RowKit
open Orangery (Pl Mv Stp)

/-- orangerylaw.op -/
def lopO (t u n p : Int) : Mv := (t, u, (n, p, 0), 1, t)

set_option maxHeartbeats 400000 in
theorem lop_any (w : World) (t u n p : Int) :
    Calls Try.prog 23 #[.int .i64 t, .int .i64 u, .int .i64 n, .int .i64 p] w fun e w' => e = .returned (opV (lopO t u n p)) ∧ Below w.heap.size w w' := by
  go_enter Try.func23, Try.ntmps23
  go_wp2
  refine bodyPost_ret (v := opV (lopO t u n p)) (by simp [results, Try.results23, go_sem, lopO]) rfl ⟨rfl, Go.Joins.below_alloc1 w _⟩

theorem OwnS.read {w : World} {base : Nat} {a : Option Addr} {n c : Nat} {l : List Pl} (h : OwnS w base (.slice a n c) l) : SlP w a l := by
  obtain ⟨a', c', e, h'⟩ := h.slp
  obtain ⟨rfl, _⟩ : a = a' ∧ _ := by simpa using e
  exact h'

end Go.Proofs.Ytphameoibnimmab

