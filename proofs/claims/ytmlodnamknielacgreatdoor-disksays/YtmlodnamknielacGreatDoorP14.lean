/- 4 texts of the proof: orangerylaw.DiskSays: the walk. A tree that came in as an argument: which places it holds. Operations and steps that came in as arguments. Slices of operations and histories that came in as arguments, and what they weigh. -/
import Derived.Deep.Slices
import Derived.Deep.Strs
import Derived.ChangeOld
import Derived.SizedLaws
import Derived.Test.YtmlodnamknielacGreatDoorP10
import Derived.Test.YtmlodnamknielacGreatDoorP12
import Derived.Test.YtmlodnamknielacGreatDoorP13
import Derived.Test.YtmlodnamknielacGreatDoorP03
import Derived.Test.YtmlodnamknielacGreatDoorP04
/- orangerylaw.DiskSays: the walk. -/
namespace Go.Proofs.YtmlodnamknielacGreatDoor
open Go.ChangeShapes Go.WideShapes Go.ChangeAt Go.RowKit
open Orangery (Mv Rc noRec noOp lnL lnN lnE diskE)

theorem eqB_self (l : List UInt8) : eqB l l = true := eqB_yes rfl
theorem rsameRm (W : World) (x y : Rm) (hx : RootsIn 0 W x) (hy : RootsIn 0 W y) : Calls Tryz.prog 17 #[x.val, y.val] W fun e w' => e = .returned (.bool (sameR x.1 y.1)) ∧ Below W.heap.size W w' := by
  obtain ⟨⟨k, u, f, R, o⟩, a, c⟩ := x
  obtain ⟨⟨k', u', f', R', o'⟩, a', c'⟩ := y
  exact rsameRec_any W k u f k' u' f' a a' c c' R R' o o' hx.few hx.reads hy.reads
theorem rsame_enters : ∀ args w, (callFunc 17 args).run Tryz.prog w = .ok (.enter 17 args) w := enters_of Tryz.func17 (by kernel_rfl) rfl
/-- the reference holds two disks against each other that hold the same bytes -/
theorem same_yes (w : World) (v v' : Value) (s t : List UInt8) (h : DkIs w v s t) (h' : DkIs w v' s t) : Calls Tryz.prog 12 #[v, v'] w fun e w' => e = .returned (.bool true) ∧ Below w.heap.size w w' := by
  have := rsameDisk_any w v v' s t s t h h'
  rw [eqB_self, eqB_self] at this
  exact this

theorem dk_take {w : World} {a a' : Option Addr} {c c' : Nat} {s t : List UInt8} {j : Nat} (h : DkIs w (dkV (.slice a s.length c) (.slice a' t.length c')) s t) (hj : j ≤ t.length) : DkIs w (dkV (.slice a s.length c) (.slice a' j c')) s (t.take j) := by
  obtain ⟨x, y, x', y', e, h1, h2⟩ := h
  obtain ⟨⟨rfl, rfl⟩, rfl, rfl⟩ : (a = x ∧ c = y) ∧ a' = x' ∧ c' = y' := by simpa using e
  refine ⟨a, c, a', c', ?_, h1, h2.take j⟩
  rw [List.length_take, Nat.min_eq_left hj]
theorem rcvL_len (s t : List UInt8) : (rcvL s t).length ≤ 120 := by
  by_cases h : diskE s t = 0
  · rw [(rcv_ok h).2]
    have h1 := Orangery.lnL_len 60 s
    have h2 := Orangery.lnL_len (60 - (lnL 60 s).length) t
    simp
    omega
  · rw [(rcv_bad h).2]; simp
set_option maxHeartbeats 8000000 in
set_option maxRecDepth 100000 in
theorem diskSays_any (w : World) (v v' : Value) (s t xs xt : List UInt8) (k u f : Int) (a3 : Option Addr) (c3 : Nat) (R : List Int) (o : Mv) (n : Int) (h : DkIs w v s t) (h' : DkIs w v' xs xt) (hl : R.length ≤ maxLen) (hn : a3 = none → c3 = 0) (hI : SlI w a3 R) (hv : Vars w) :
    Calls Tryz.prog 3 #[v, rcV k u f (.slice a3 R.length c3) o, .int .i64 n, v'] w
      fun e w' => e = .returned (.bool true) ∧ Below w.heap.size w w' := by
  obtain ⟨a, c, a', c', rfl, h1, h2⟩ := h
  obtain ⟨xa, xc, xb, xd, rfl, h3, h4⟩ := h'
  have hroom : t.length ≤ c' := h2.room
  have hcap : c' ≤ 9223372036854775807 := h2.cap
  have HN := Lib.hid hn
  have HL := Lib.hid hl
  clear hn hl
  go_enter Tryz.func3, Tryz.ntmps3
  go_wp2_with fail
  obtain ⟨W0, hW, hA0, hC0, hX0, hB, -⟩ := laid3 w [.slice a s.length c, .slice a' t.length c'] 24 [Value.int IntKind.i64 k, .int .i64 u, .int .i64 f, .slice a3 R.length c3, .int .i64 o.1, .int .i64 o.2.1, .int .i64 o.2.2.1.1, .int .i64 o.2.2.1.2.1, .int .i64 o.2.2.1.2.2, .int .i64 o.2.2.2.1, .int .i64 o.2.2.2.2] 31 [.slice xa xs.length xc, .slice xb xt.length xd] 24
  rw [hW]
  clear hW
  have HA0 := Lib.hid hA0
  have HC0 := Lib.hid hC0
  have HX0 := Lib.hid hX0
  have HD0 : Hid (DkIs W0 (dkV (.slice a s.length c) (.slice a' t.length c')) s t) := ⟨a, c, a', c', rfl, h1.keep hB, h2.keep hB⟩
  have HE0 : Hid (DkIs W0 (dkV (.slice xa xs.length xc) (.slice xb xt.length xd)) xs xt) := ⟨xa, xc, xb, xd, rfl, h3.keep hB, h4.keep hB⟩
  have HI0 := Lib.hid (hI.below hB)
  have HV0 := Lib.hid (hv.on hB)
  have HB0 := Lib.hid hB
  clear hA0 hC0 hX0 h1 h2 h3 h4 hI hv hB
  refine (kput_any W0 _ s t k u f a3 c3 R o HD0.out HL.out HN.out HI0.out HV0.out).mono ?_
  rintro e w_1 ⟨⟨v_1, rfl, hN⟩, hb⟩
  replace hN := hN.is
  have HA1 := Lib.hid (HA0.out.keep hb)
  have HC1 := Lib.hid (HC0.out.keep hb)
  have HX1 := Lib.hid (HX0.out.keep hb)
  have HD1 := Lib.hid (HD0.out.keep hb)
  have HE1 := Lib.hid (HE0.out.keep hb)
  have HI1 := Lib.hid (HI0.out.below hb)
  have HV1 := Lib.hid (HV0.out.on hb)
  have HB1 : Hid (Below w.heap.size w w_1) := HB0.out.trans (hb.mono HB0.out.size)
  clear HA0 HC0 HX0 HD0 HE0 HI0 HV0 HB0
  clear hb
  obtain ⟨E_1, hE⟩ : ∃ z, putAll s t (k, u, f, R, o) = z := ⟨_, rfl⟩
  have HE_1 : Hid (putAll s t (k, u, f, R, o) = E_1) := hE
  rw [hE]
  clear hE
  obtain ⟨S_1, hS⟩ : ∃ z, putS s t (k, u, f, R, o) = z := ⟨_, rfl⟩
  have HS_1 : Hid (putS s t (k, u, f, R, o) = S_1) := hS
  rw [hS] at hN
  clear hS
  obtain ⟨T_1, hT⟩ : ∃ z, putT s t (k, u, f, R, o) = z := ⟨_, rfl⟩
  have HT_1 : Hid (putT s t (k, u, f, R, o) = T_1) := hT
  rw [hT] at hN
  clear hT
  obtain ⟨a_1, c_1, b_1, d_1, rfl, hs, ht⟩ := hN
  have HD_11 : Hid (DkIs w_1 (dkV (.slice a_1 S_1.length c_1) (.slice b_1 T_1.length d_1)) S_1 T_1) := ⟨a_1, c_1, b_1, d_1, rfl, hs, ht⟩
  clear hs ht
  have hK := Blk.new w_1 [.slice a_1 S_1.length c_1, .slice b_1 T_1.length d_1] 24
  have hb := Go.Joins.below_alloc1 w_1 (Obj.cells [.slice a_1 S_1.length c_1, .slice b_1 T_1.length d_1].toArray 24)
  have HA2 := Lib.hid (HA1.out.keep hb)
  have HC2 := Lib.hid (HC1.out.keep hb)
  have HX2 := Lib.hid (HX1.out.keep hb)
  have HD2 := Lib.hid (HD1.out.keep hb)
  have HE2 := Lib.hid (HE1.out.keep hb)
  have HI2 := Lib.hid (HI1.out.below hb)
  have HV2 := Lib.hid (HV1.out.on hb)
  have HD_12 := Lib.hid (HD_11.out.keep hb)
  have HB2 : Hid (Below w.heap.size w (w_1.alloc (Obj.cells [.slice a_1 S_1.length c_1, .slice b_1 T_1.length d_1].toArray 24))) := HB1.out.trans (hb.mono HB1.out.size)
  clear HA1 HC1 HX1 HD1 HE1 HI1 HV1 HD_11 HB1
  have HK_12 := Lib.hid hK
  clear hK hb
  have x0 := HA2.out.at 0 rfl
  have x1 := HA2.out.at 1 rfl
  go_wp2_with fail
  clear x0 x1
  obtain ⟨g_1, hg⟩ : ∃ g, w_1.heap.size = g := ⟨_, rfl⟩
  generalize w_1.alloc (Obj.cells [.slice a_1 S_1.length c_1, .slice b_1 T_1.length d_1].toArray 24) = V_1 at *
  rw [hg] at HK_12 ⊢
  clear hg
  refine (ksync_any V_1 _ s t HD2.out HV2.out).mono ?_
  rintro e w_2 ⟨⟨v_2, rfl, hN⟩, hb⟩
  replace hN := hN.is
  have HA3 := Lib.hid (HA2.out.keep hb)
  have HC3 := Lib.hid (HC2.out.keep hb)
  have HX3 := Lib.hid (HX2.out.keep hb)
  have HD3 := Lib.hid (HD2.out.keep hb)
  have HE3 := Lib.hid (HE2.out.keep hb)
  have HI3 := Lib.hid (HI2.out.below hb)
  have HV3 := Lib.hid (HV2.out.on hb)
  have HD_13 := Lib.hid (HD_12.out.keep hb)
  have HK_13 := Lib.hid (HK_12.out.keep hb)
  have HB3 : Hid (Below w.heap.size w w_2) := HB2.out.trans (hb.mono HB2.out.size)
  clear HA2 HC2 HX2 HD2 HE2 HI2 HV2 HD_12 HK_12 HB2
  clear hb
  obtain ⟨E_2, hE⟩ : ∃ z, syncE s t = z := ⟨_, rfl⟩
  have HE_2 : Hid (syncE s t = E_2) := hE
  rw [hE]
  clear hE
  obtain ⟨S_2, hS⟩ : ∃ z, syncS s t = z := ⟨_, rfl⟩
  have HS_2 : Hid (syncS s t = S_2) := hS
  rw [hS] at hN
  clear hS
  obtain ⟨T_2, hT⟩ : ∃ z, ([] : List UInt8) = z := ⟨_, rfl⟩
  have HT_2 : Hid (([] : List UInt8) = T_2) := hT
  rw [hT] at hN
  clear hT
  obtain ⟨a_2, c_2, b_2, d_2, rfl, hs, ht⟩ := hN
  have HD_23 : Hid (DkIs w_2 (dkV (.slice a_2 S_2.length c_2) (.slice b_2 T_2.length d_2)) S_2 T_2) := ⟨a_2, c_2, b_2, d_2, rfl, hs, ht⟩
  clear hs ht
  have hK := Blk.new w_2 [.slice a_2 S_2.length c_2, .slice b_2 T_2.length d_2] 24
  have hb := Go.Joins.below_alloc1 w_2 (Obj.cells [.slice a_2 S_2.length c_2, .slice b_2 T_2.length d_2].toArray 24)
  have HA4 := Lib.hid (HA3.out.keep hb)
  have HC4 := Lib.hid (HC3.out.keep hb)
  have HX4 := Lib.hid (HX3.out.keep hb)
  have HD4 := Lib.hid (HD3.out.keep hb)
  have HE4 := Lib.hid (HE3.out.keep hb)
  have HI4 := Lib.hid (HI3.out.below hb)
  have HV4 := Lib.hid (HV3.out.on hb)
  have HD_14 := Lib.hid (HD_13.out.keep hb)
  have HK_14 := Lib.hid (HK_13.out.keep hb)
  have HD_24 := Lib.hid (HD_23.out.keep hb)
  have HB4 : Hid (Below w.heap.size w (w_2.alloc (Obj.cells [.slice a_2 S_2.length c_2, .slice b_2 T_2.length d_2].toArray 24))) := HB3.out.trans (hb.mono HB3.out.size)
  clear HA3 HC3 HX3 HD3 HE3 HI3 HV3 HD_13 HK_13 HD_23 HB3
  have HK_24 := Lib.hid hK
  clear hK hb
  have x0 := HA4.out.at 0 rfl
  have x1 := HA4.out.at 1 rfl
  go_wp2_with fail
  clear x0 x1
  obtain ⟨g_2, hg⟩ : ∃ g, w_2.heap.size = g := ⟨_, rfl⟩
  generalize w_2.alloc (Obj.cells [.slice a_2 S_2.length c_2, .slice b_2 T_2.length d_2].toArray 24) = V_2 at *
  rw [hg] at HK_24 ⊢
  clear hg
  refine (kcrash_any V_2 _ s t n HD4.out HV4.out).mono ?_
  rintro e w_3 ⟨⟨v_3, rfl, hN⟩, hb⟩
  replace hN := hN.is
  have HA5 := Lib.hid (HA4.out.keep hb)
  have HC5 := Lib.hid (HC4.out.keep hb)
  have HX5 := Lib.hid (HX4.out.keep hb)
  have HD5 := Lib.hid (HD4.out.keep hb)
  have HE5 := Lib.hid (HE4.out.keep hb)
  have HI5 := Lib.hid (HI4.out.below hb)
  have HV5 := Lib.hid (HV4.out.on hb)
  have HD_15 := Lib.hid (HD_14.out.keep hb)
  have HK_15 := Lib.hid (HK_14.out.keep hb)
  have HD_25 := Lib.hid (HD_24.out.keep hb)
  have HK_25 := Lib.hid (HK_24.out.keep hb)
  have HB5 : Hid (Below w.heap.size w w_3) := HB4.out.trans (hb.mono HB4.out.size)
  clear HA4 HC4 HX4 HD4 HE4 HI4 HV4 HD_14 HK_14 HD_24 HK_24 HB4
  clear hb
  obtain ⟨E_3, hE⟩ : ∃ z, crashE s t n = z := ⟨_, rfl⟩
  have HE_3 : Hid (crashE s t n = E_3) := hE
  rw [hE]
  clear hE
  obtain ⟨S_3, hS⟩ : ∃ z, crashS s t n = z := ⟨_, rfl⟩
  have HS_3 : Hid (crashS s t n = S_3) := hS
  rw [hS] at hN
  clear hS
  obtain ⟨T_3, hT⟩ : ∃ z, crashT s t n = z := ⟨_, rfl⟩
  have HT_3 : Hid (crashT s t n = T_3) := hT
  rw [hT] at hN
  clear hT
  obtain ⟨a_3, c_3, b_3, d_3, rfl, hs, ht⟩ := hN
  have HD_35 : Hid (DkIs w_3 (dkV (.slice a_3 S_3.length c_3) (.slice b_3 T_3.length d_3)) S_3 T_3) := ⟨a_3, c_3, b_3, d_3, rfl, hs, ht⟩
  clear hs ht
  have hK := Blk.new w_3 [.slice a_3 S_3.length c_3, .slice b_3 T_3.length d_3] 24
  have hb := Go.Joins.below_alloc1 w_3 (Obj.cells [.slice a_3 S_3.length c_3, .slice b_3 T_3.length d_3].toArray 24)
  have HA6 := Lib.hid (HA5.out.keep hb)
  have HC6 := Lib.hid (HC5.out.keep hb)
  have HX6 := Lib.hid (HX5.out.keep hb)
  have HD6 := Lib.hid (HD5.out.keep hb)
  have HE6 := Lib.hid (HE5.out.keep hb)
  have HI6 := Lib.hid (HI5.out.below hb)
  have HV6 := Lib.hid (HV5.out.on hb)
  have HD_16 := Lib.hid (HD_15.out.keep hb)
  have HK_16 := Lib.hid (HK_15.out.keep hb)
  have HD_26 := Lib.hid (HD_25.out.keep hb)
  have HK_26 := Lib.hid (HK_25.out.keep hb)
  have HD_36 := Lib.hid (HD_35.out.keep hb)
  have HB6 : Hid (Below w.heap.size w (w_3.alloc (Obj.cells [.slice a_3 S_3.length c_3, .slice b_3 T_3.length d_3].toArray 24))) := HB5.out.trans (hb.mono HB5.out.size)
  clear HA5 HC5 HX5 HD5 HE5 HI5 HV5 HD_15 HK_15 HD_25 HK_25 HD_35 HB5
  have HK_36 := Lib.hid hK
  clear hK hb
  have x0 := HA6.out.at 0 rfl
  have x1 := HA6.out.at 1 rfl
  go_wp2_with fail
  clear x0 x1
  obtain ⟨g_3, hg⟩ : ∃ g, w_3.heap.size = g := ⟨_, rfl⟩
  generalize w_3.alloc (Obj.cells [.slice a_3 S_3.length c_3, .slice b_3 T_3.length d_3].toArray 24) = V_3 at *
  rw [hg] at HK_36 ⊢
  clear hg
  refine (krecover_any V_3 _ s t HD6.out HV6.out).mono ?_
  rintro e w_4 ⟨⟨v_4, lv_4, X_4, rfl, hN, hO, hXm⟩, hb⟩
  replace hN := hN.is
  have HA7 := Lib.hid (HA6.out.keep hb)
  have HC7 := Lib.hid (HC6.out.keep hb)
  have HX7 := Lib.hid (HX6.out.keep hb)
  have HD7 := Lib.hid (HD6.out.keep hb)
  have HE7 := Lib.hid (HE6.out.keep hb)
  have HI7 := Lib.hid (HI6.out.below hb)
  have HV7 := Lib.hid (HV6.out.on hb)
  have HD_17 := Lib.hid (HD_16.out.keep hb)
  have HK_17 := Lib.hid (HK_16.out.keep hb)
  have HD_27 := Lib.hid (HD_26.out.keep hb)
  have HK_27 := Lib.hid (HK_26.out.keep hb)
  have HD_37 := Lib.hid (HD_36.out.keep hb)
  have HK_37 := Lib.hid (HK_36.out.keep hb)
  have HB7 : Hid (Below w.heap.size w w_4) := HB6.out.trans (hb.mono HB6.out.size)
  clear HA6 HC6 HX6 HD6 HE6 HI6 HV6 HD_16 HK_16 HD_26 HK_26 HD_36 HK_36 HB6
  clear hb
  obtain ⟨E_4, hE⟩ : ∃ z, diskE s t = z := ⟨_, rfl⟩
  have HE_4 : Hid (diskE s t = E_4) := hE
  rw [hE]
  clear hE
  obtain ⟨S_4, hS⟩ : ∃ z, rcvS s t = z := ⟨_, rfl⟩
  have HS_4 : Hid (rcvS s t = S_4) := hS
  rw [hS] at hN
  clear hS
  obtain ⟨T_4, hT⟩ : ∃ z, ([] : List UInt8) = z := ⟨_, rfl⟩
  have HT_4 : Hid (([] : List UInt8) = T_4) := hT
  rw [hT] at hN
  clear hT
  obtain ⟨a_4, c_4, b_4, d_4, rfl, hs, ht⟩ := hN
  have HD_47 : Hid (DkIs w_4 (dkV (.slice a_4 S_4.length c_4) (.slice b_4 T_4.length d_4)) S_4 T_4) := ⟨a_4, c_4, b_4, d_4, rfl, hs, ht⟩
  clear hs ht
  obtain ⟨aL_4, cL_4, rfl, -, -, -⟩ := hO.val
  have HL_47 := Lib.hid hO
  have HM_4 : Hid (X_4.map (·.1) = rcvL s t) := hXm
  clear hO hXm
  have hK := Blk.new w_4 [.slice a_4 S_4.length c_4, .slice b_4 T_4.length d_4] 24
  have hb := Go.Joins.below_alloc1 w_4 (Obj.cells [.slice a_4 S_4.length c_4, .slice b_4 T_4.length d_4].toArray 24)
  have HA8 := Lib.hid (HA7.out.keep hb)
  have HC8 := Lib.hid (HC7.out.keep hb)
  have HX8 := Lib.hid (HX7.out.keep hb)
  have HD8 := Lib.hid (HD7.out.keep hb)
  have HE8 := Lib.hid (HE7.out.keep hb)
  have HI8 := Lib.hid (HI7.out.below hb)
  have HV8 := Lib.hid (HV7.out.on hb)
  have HD_18 := Lib.hid (HD_17.out.keep hb)
  have HK_18 := Lib.hid (HK_17.out.keep hb)
  have HD_28 := Lib.hid (HD_27.out.keep hb)
  have HK_28 := Lib.hid (HK_27.out.keep hb)
  have HD_38 := Lib.hid (HD_37.out.keep hb)
  have HK_38 := Lib.hid (HK_37.out.keep hb)
  have HD_48 := Lib.hid (HD_47.out.keep hb)
  have HL_48 := Lib.hid (HL_47.out.keep hb)
  have HB8 : Hid (Below w.heap.size w (w_4.alloc (Obj.cells [.slice a_4 S_4.length c_4, .slice b_4 T_4.length d_4].toArray 24))) := HB7.out.trans (hb.mono HB7.out.size)
  clear HA7 HC7 HX7 HD7 HE7 HI7 HV7 HD_17 HK_17 HD_27 HK_27 HD_37 HK_37 HD_47 HL_47 HB7
  have HK_48 := Lib.hid hK
  clear hK hb
  have x0 := HA8.out.at 0 rfl
  have x1 := HA8.out.at 1 rfl
  go_wp2_with fail
  clear x0 x1
  obtain ⟨g_4, hg⟩ : ∃ g, w_4.heap.size = g := ⟨_, rfl⟩
  generalize w_4.alloc (Obj.cells [.slice a_4 S_4.length c_4, .slice b_4 T_4.length d_4].toArray 24) = V_4 at *
  rw [hg] at HK_48 ⊢
  clear hg
  refine (rcheckDisk_any V_4 _ s t HD8.out HV8.out).mono ?_
  rintro e w_5 ⟨rfl, hb⟩
  have HA9 := Lib.hid (HA8.out.keep hb)
  have HC9 := Lib.hid (HC8.out.keep hb)
  have HX9 := Lib.hid (HX8.out.keep hb)
  have HD9 := Lib.hid (HD8.out.keep hb)
  have HE9 := Lib.hid (HE8.out.keep hb)
  have HI9 := Lib.hid (HI8.out.below hb)
  have HV9 := Lib.hid (HV8.out.on hb)
  have HD_19 := Lib.hid (HD_18.out.keep hb)
  have HK_19 := Lib.hid (HK_18.out.keep hb)
  have HD_29 := Lib.hid (HD_28.out.keep hb)
  have HK_29 := Lib.hid (HK_28.out.keep hb)
  have HD_39 := Lib.hid (HD_38.out.keep hb)
  have HK_39 := Lib.hid (HK_38.out.keep hb)
  have HD_49 := Lib.hid (HD_48.out.keep hb)
  have HL_49 := Lib.hid (HL_48.out.keep hb)
  have HK_49 := Lib.hid (HK_48.out.keep hb)
  have HB9 : Hid (Below w.heap.size w w_5) := HB8.out.trans (hb.mono HB8.out.size)
  clear HA8 HC8 HX8 HD8 HE8 HI8 HV8 HD_18 HK_18 HD_28 HK_28 HD_38 HK_38 HD_48 HL_48 HK_48 HB8
  clear hb
  rw [HE_4.out]
  have hK := Blk.new w_5 [.slice none 0 0, .slice none 0 0] 24
  have hb := Go.Joins.below_alloc1 w_5 (Obj.cells [.slice none 0 0, .slice none 0 0].toArray 24)
  have HA10 := Lib.hid (HA9.out.keep hb)
  have HC10 := Lib.hid (HC9.out.keep hb)
  have HX10 := Lib.hid (HX9.out.keep hb)
  have HD10 := Lib.hid (HD9.out.keep hb)
  have HE10 := Lib.hid (HE9.out.keep hb)
  have HI10 := Lib.hid (HI9.out.below hb)
  have HV10 := Lib.hid (HV9.out.on hb)
  have HD_110 := Lib.hid (HD_19.out.keep hb)
  have HK_110 := Lib.hid (HK_19.out.keep hb)
  have HD_210 := Lib.hid (HD_29.out.keep hb)
  have HK_210 := Lib.hid (HK_29.out.keep hb)
  have HD_310 := Lib.hid (HD_39.out.keep hb)
  have HK_310 := Lib.hid (HK_39.out.keep hb)
  have HD_410 := Lib.hid (HD_49.out.keep hb)
  have HL_410 := Lib.hid (HL_49.out.keep hb)
  have HK_410 := Lib.hid (HK_49.out.keep hb)
  have HB10 : Hid (Below w.heap.size w (w_5.alloc (Obj.cells [.slice none 0 0, .slice none 0 0].toArray 24))) := HB9.out.trans (hb.mono HB9.out.size)
  clear HA9 HC9 HX9 HD9 HE9 HI9 HV9 HD_19 HK_19 HD_29 HK_29 HD_39 HK_39 HD_49 HL_49 HK_49 HB9
  have HK_010 := Lib.hid hK
  clear hK hb
  go_upto_region 7 with fail
  obtain ⟨g_0, hg⟩ : ∃ g, w_5.heap.size = g := ⟨_, rfl⟩
  generalize w_5.alloc (Obj.cells [.slice none 0 0, .slice none 0 0].toArray 24) = V_5 at *
  rw [hg] at HK_010 ⊢
  clear hg
  have hS' : Below V_5.heap.size V_5 V_5.drew := (Below.refl _ V_5).drew
  refine wp_region_held_drew (S := fun w' => Below V_5.heap.size V_5 w') (by kernel_rfl) hS' (fun hHeld => ?_)
  refine wpAnyH_ready (rs := [0]) (by kernel_rfl) (by simp) ?_
  refine AllReadyH.cons rfl (fun K hK => ?_) AllReadyH.nil
  go_simp
  refine (filed_any _ (HV10.out.on hS')).mono ?_
  rintro e wn ⟨rfl, hb⟩
  have hS' : Below V_5.heap.size V_5 wn := Below.trans hS' (hb.mono (Below.size hS'))
  clear hb
  go_wp2_with fail
  refine hK.out _ _ hS' (fun hHeld => ?_)
  clear hK K
  refine take_yes 1 53 (v := ?_) rfl rfl (by kernel_rfl) (by kernel_rfl) (by kernel_rfl) (fun _ _ _ h => h) (by rfl) ?_ hHeld ?_
  rotate_left 1
  · (intro w hSw; go_simp; try with_reducible rfl)
  simp only [Act.put, List.setIfInBounds_toArray, List.set_cons_succ, List.set_cons_zero]
  refine take_yes 2 54 (v := ?_) rfl rfl (by kernel_rfl) (by kernel_rfl) (by kernel_rfl) (fun _ _ _ h => h) (by rfl) ?_ hHeld ?_
  rotate_left 1
  · (intro w hSw; go_simp; try with_reducible rfl)
  simp only [Act.put, List.setIfInBounds_toArray, List.set_cons_succ, List.set_cons_zero]
  refine take_load 3 55 24 w.heap.size [.slice a s.length c, .slice a' t.length c'] rfl rfl (by kernel_rfl) (by kernel_rfl) (by kernel_rfl) (fun _ _ _ h => h) (by rfl) (by rfl) (by rfl) (fun w hw => (HA10.out.keep hw).range) Tryz.underlying24 rfl sizeDisk hHeld ?_
  simp only [Act.put, List.setIfInBounds_toArray, List.set_cons_succ, List.set_cons_zero]
  refine take_yes 5 57 (v := ?_) rfl rfl (by kernel_rfl) (by kernel_rfl) (by kernel_rfl) (fun _ _ _ h => h) (by rfl) ?_ hHeld ?_
  rotate_left 1
  · (intro w hSw; go_simp; try with_reducible rfl)
  simp only [Act.put, List.setIfInBounds_toArray, List.set_cons_succ, List.set_cons_zero]
  refine wpAnyH_ready (rs := [4]) (by kernel_rfl) (by simp) ?_
  refine AllReadyH.cons rfl (fun K hK => ?_) AllReadyH.nil
  go_simp
  refine (kcheck_any _ _ s t (HD10.out.keep hS') (HV10.out.on hS')).mono ?_
  rintro e wn ⟨rfl, hb⟩
  have hS' : Below V_5.heap.size V_5 wn := Below.trans hS' (hb.mono (Below.size hS'))
  clear hb
  rw [HE_4.out]
  go_wp2_with fail
  refine hK.out _ _ hS' (fun hHeld => ?_)
  clear hK K
  refine take_yes 6 58 (v := ?_) rfl rfl (by kernel_rfl) (by kernel_rfl) (by kernel_rfl) (fun _ _ _ h => h) (by rfl) ?_ hHeld ?_
  rotate_left 1
  · (intro w hSw; go_simp; try with_reducible rfl)
  simp only [Act.put, List.setIfInBounds_toArray, List.set_cons_succ, List.set_cons_zero]
  refine take_yes 7 59 (v := ?_) rfl rfl (by kernel_rfl) (by kernel_rfl) (by kernel_rfl) (fun _ _ _ h => h) (by rfl) ?_ hHeld ?_
  rotate_left 1
  · (intro w hSw; go_simp; try with_reducible rfl)
  simp only [Act.put, List.setIfInBounds_toArray, List.set_cons_succ, List.set_cons_zero]
  refine take_yes 8 60 (v := ?_) rfl rfl (by kernel_rfl) (by kernel_rfl) (by kernel_rfl) (fun _ _ _ h => h) (by rfl) ?_ hHeld ?_
  rotate_left 1
  · (intro w hSw; go_simp; try with_reducible rfl)
  simp only [Act.put, List.setIfInBounds_toArray, List.set_cons_succ, List.set_cons_zero]
  refine take_load 9 61 24 w.heap.size [.slice a s.length c, .slice a' t.length c'] rfl rfl (by kernel_rfl) (by kernel_rfl) (by kernel_rfl) (fun _ _ _ h => h) (by rfl) (by rfl) (by rfl) (fun w hw => (HA10.out.keep hw).range) Tryz.underlying24 rfl sizeDisk hHeld ?_
  simp only [Act.put, List.setIfInBounds_toArray, List.set_cons_succ, List.set_cons_zero]
  refine take_load 10 62 24 (w.heap.size + 1 + 1) [.slice xa xs.length xc, .slice xb xt.length xd] rfl rfl (by kernel_rfl) (by kernel_rfl) (by kernel_rfl) (fun _ _ _ h => h) (by rfl) (by rfl) (by rfl) (fun w hw => (HX10.out.keep hw).range) Tryz.underlying24 rfl sizeDisk hHeld ?_
  simp only [Act.put, List.setIfInBounds_toArray, List.set_cons_succ, List.set_cons_zero]
  refine take_load 12 64 24 w.heap.size [.slice a s.length c, .slice a' t.length c'] rfl rfl (by kernel_rfl) (by kernel_rfl) (by kernel_rfl) (fun _ _ _ h => h) (by rfl) (by rfl) (by rfl) (fun w hw => (HA10.out.keep hw).range) Tryz.underlying24 rfl sizeDisk hHeld ?_
  simp only [Act.put, List.setIfInBounds_toArray, List.set_cons_succ, List.set_cons_zero]
  refine take_load 13 65 24 (w.heap.size + 1 + 1) [.slice xa xs.length xc, .slice xb xt.length xd] rfl rfl (by kernel_rfl) (by kernel_rfl) (by kernel_rfl) (fun _ _ _ h => h) (by rfl) (by rfl) (by rfl) (fun w hw => (HX10.out.keep hw).range) Tryz.underlying24 rfl sizeDisk hHeld ?_
  simp only [Act.put, List.setIfInBounds_toArray, List.set_cons_succ, List.set_cons_zero]
  refine wpAnyH_ready (rs := [11]) (by kernel_rfl) (by simp) ?_
  refine AllReadyH.cons rfl (fun K hK => ?_) AllReadyH.nil
  go_simp
  refine (ksame_any _ _ _ s t xs xt (HD10.out.keep hS') (HE10.out.keep hS')).mono ?_
  rintro e wn ⟨rfl, hb⟩
  have hS' : Below V_5.heap.size V_5 wn := Below.trans hS' (hb.mono (Below.size hS'))
  clear hb
  go_wp2_with fail
  refine hK.out _ _ hS' (fun hHeld => ?_)
  clear hK K
  refine wpAnyH_ready (rs := [14]) (by kernel_rfl) (by simp) ?_
  refine AllReadyH.cons rfl (fun K hK => ?_) AllReadyH.nil
  go_simp
  refine (rsameDisk_any _ _ _ s t xs xt (HD10.out.keep hS') (HE10.out.keep hS')).mono ?_
  rintro e wn ⟨rfl, hb⟩
  have hS' : Below V_5.heap.size V_5 wn := Below.trans hS' (hb.mono (Below.size hS'))
  clear hb
  go_wp2_with fail
  refine hK.out _ _ hS' (fun hHeld => ?_)
  clear hK K
  refine take_yes 15 67 (v := ?_) rfl rfl (by kernel_rfl) (by kernel_rfl) (by kernel_rfl) (fun _ _ _ h => h) (by rfl) ?_ hHeld ?_
  rotate_left 1
  · (intro w hSw; go_simp; try with_reducible rfl)
  simp only [Act.put, List.setIfInBounds_toArray, List.set_cons_succ, List.set_cons_zero]
  refine take_yes 16 68 (v := ?_) rfl rfl (by kernel_rfl) (by kernel_rfl) (by kernel_rfl) (fun _ _ _ h => h) (by rfl) ?_ hHeld ?_
  rotate_left 1
  · (intro w hSw; go_simp; try with_reducible rfl)
  simp only [Act.put, List.setIfInBounds_toArray, List.set_cons_succ, List.set_cons_zero]
  refine wpAnyH_done (by kernel_rfl) ?_ _
  rename World => w_6
  have HA11 := Lib.hid (HA10.out.keep hS')
  have HC11 := Lib.hid (HC10.out.keep hS')
  have HX11 := Lib.hid (HX10.out.keep hS')
  have HD11 := Lib.hid (HD10.out.keep hS')
  have HE11 := Lib.hid (HE10.out.keep hS')
  have HI11 := Lib.hid (HI10.out.below hS')
  have HV11 := Lib.hid (HV10.out.on hS')
  have HD_111 := Lib.hid (HD_110.out.keep hS')
  have HK_111 := Lib.hid (HK_110.out.keep hS')
  have HD_211 := Lib.hid (HD_210.out.keep hS')
  have HK_211 := Lib.hid (HK_210.out.keep hS')
  have HD_311 := Lib.hid (HD_310.out.keep hS')
  have HK_311 := Lib.hid (HK_310.out.keep hS')
  have HD_411 := Lib.hid (HD_410.out.keep hS')
  have HL_411 := Lib.hid (HL_410.out.keep hS')
  have HK_411 := Lib.hid (HK_410.out.keep hS')
  have HK_011 := Lib.hid (HK_010.out.keep hS')
  have HB11 : Hid (Below w.heap.size w w_6) := HB10.out.trans (hS'.mono HB10.out.size)
  clear HA10 HC10 HX10 HD10 HE10 HI10 HV10 HD_110 HK_110 HD_210 HK_210 HD_310 HK_310 HD_410 HL_410 HK_410 HK_010 HB10
  clear hS' hHeld
  by_cases hbad : E_4 = 0
  case neg =>
    have hd : diskE s t ≠ 0 := by rw [HE_4.out]; exact hbad
    obtain rfl : E_1 = E_4 := by rw [← HE_1.out, put_bad hd, HE_4.out]
    obtain rfl : E_2 = E_1 := by rw [← HE_2.out, (sync_bad hd).1, HE_4.out]
    obtain rfl : E_3 = E_2 := by rw [← HE_3.out, crash_bad hd, HE_4.out]
    obtain rfl : S_1 = [] := by rw [← HS_1.out]; exact (put_not (put_bad hd) hd).1
    obtain rfl : T_1 = [] := by rw [← HT_1.out]; exact (put_not (put_bad hd) hd).2
    obtain rfl : S_2 = [] := by rw [← HS_2.out]; exact (sync_bad hd).2
    obtain rfl : T_2 = [] := HT_2.out.symm
    obtain rfl : S_3 = [] := by rw [← HS_3.out]; exact (crash_not (crash_bad hd) hd).1
    obtain rfl : T_3 = [] := by rw [← HT_3.out]; exact (crash_not (crash_bad hd) hd).2
    obtain rfl : S_4 = [] := by rw [← HS_4.out]; exact (rcv_bad hd).1
    obtain rfl : T_4 = [] := HT_4.out.symm
    obtain rfl : X_4 = [] := by
      have := HM_4.out
      rw [(rcv_bad hd).2] at this
      simpa using this
    have d1 : (E_3 != 0) = true := by simpa using hbad
    clear hbad hd
    have x0 := HK_111.out.at 0 rfl
    have x1 := HK_111.out.at 1 rfl
    have z0 := HK_011.out.at 0 rfl
    have z1 := HK_011.out.at 1 rfl
    go_wp2_with fail
    clear x0 x1 z0 z1
    refine (same_yes w_6 _ _ [] [] HD_111.out (dkIs_none _)).mono ?_
    rintro e u_1 ⟨rfl, hb⟩
    have HD_112 := Lib.hid (HD_111.out.keep hb)
    have HK_112 := Lib.hid (HK_111.out.keep hb)
    have HD_212 := Lib.hid (HD_211.out.keep hb)
    have HK_212 := Lib.hid (HK_211.out.keep hb)
    have HD_312 := Lib.hid (HD_311.out.keep hb)
    have HK_312 := Lib.hid (HK_311.out.keep hb)
    have HD_412 := Lib.hid (HD_411.out.keep hb)
    have HK_412 := Lib.hid (HK_411.out.keep hb)
    have HK_012 := Lib.hid (HK_011.out.keep hb)
    have HB12 : Hid (Below w.heap.size w u_1) := HB11.out.trans (hb.mono HB11.out.size)
    clear HD_111 HK_111 HD_211 HK_211 HD_311 HK_311 HD_411 HK_411 HK_011 HB11
    clear hb
    have x0 := HK_212.out.at 0 rfl
    have x1 := HK_212.out.at 1 rfl
    have z0 := HK_012.out.at 0 rfl
    have z1 := HK_012.out.at 1 rfl
    go_wp2_with fail
    clear x0 x1 z0 z1
    refine (same_yes u_1 _ _ [] [] HD_212.out (dkIs_none _)).mono ?_
    rintro e u_2 ⟨rfl, hb⟩
    have HD_113 := Lib.hid (HD_112.out.keep hb)
    have HK_113 := Lib.hid (HK_112.out.keep hb)
    have HD_213 := Lib.hid (HD_212.out.keep hb)
    have HK_213 := Lib.hid (HK_212.out.keep hb)
    have HD_313 := Lib.hid (HD_312.out.keep hb)
    have HK_313 := Lib.hid (HK_312.out.keep hb)
    have HD_413 := Lib.hid (HD_412.out.keep hb)
    have HK_413 := Lib.hid (HK_412.out.keep hb)
    have HK_013 := Lib.hid (HK_012.out.keep hb)
    have HB13 : Hid (Below w.heap.size w u_2) := HB12.out.trans (hb.mono HB12.out.size)
    clear HD_112 HK_112 HD_212 HK_212 HD_312 HK_312 HD_412 HK_412 HK_012 HB12
    clear hb
    have x0 := HK_313.out.at 0 rfl
    have x1 := HK_313.out.at 1 rfl
    have z0 := HK_013.out.at 0 rfl
    have z1 := HK_013.out.at 1 rfl
    go_wp2_with fail
    clear x0 x1 z0 z1
    refine (same_yes u_2 _ _ [] [] HD_313.out (dkIs_none _)).mono ?_
    rintro e u_3 ⟨rfl, hb⟩
    have HD_114 := Lib.hid (HD_113.out.keep hb)
    have HK_114 := Lib.hid (HK_113.out.keep hb)
    have HD_214 := Lib.hid (HD_213.out.keep hb)
    have HK_214 := Lib.hid (HK_213.out.keep hb)
    have HD_314 := Lib.hid (HD_313.out.keep hb)
    have HK_314 := Lib.hid (HK_313.out.keep hb)
    have HD_414 := Lib.hid (HD_413.out.keep hb)
    have HK_414 := Lib.hid (HK_413.out.keep hb)
    have HK_014 := Lib.hid (HK_013.out.keep hb)
    have HB14 : Hid (Below w.heap.size w u_3) := HB13.out.trans (hb.mono HB13.out.size)
    clear HD_113 HK_113 HD_213 HK_213 HD_313 HK_313 HD_413 HK_413 HK_013 HB13
    clear hb
    have x0 := HK_414.out.at 0 rfl
    have x1 := HK_414.out.at 1 rfl
    have z0 := HK_014.out.at 0 rfl
    have z1 := HK_014.out.at 1 rfl
    go_wp2_with fail
    clear x0 x1 z0 z1
    refine (same_yes u_3 _ _ [] [] HD_414.out (dkIs_none _)).mono ?_
    rintro e u_4 ⟨rfl, hb⟩
    have HD_115 := Lib.hid (HD_114.out.keep hb)
    have HK_115 := Lib.hid (HK_114.out.keep hb)
    have HD_215 := Lib.hid (HD_214.out.keep hb)
    have HK_215 := Lib.hid (HK_214.out.keep hb)
    have HD_315 := Lib.hid (HD_314.out.keep hb)
    have HK_315 := Lib.hid (HK_314.out.keep hb)
    have HD_415 := Lib.hid (HD_414.out.keep hb)
    have HK_415 := Lib.hid (HK_414.out.keep hb)
    have HK_015 := Lib.hid (HK_014.out.keep hb)
    have HB15 : Hid (Below w.heap.size w u_4) := HB14.out.trans (hb.mono HB14.out.size)
    clear HD_114 HK_114 HD_214 HK_214 HD_314 HK_314 HD_414 HK_414 HK_014 HB14
    clear hb
    go_wp2
    go_ret
    exact ⟨rfl, HB15.out⟩
  have hd : diskE s t = 0 := HE_4.out.trans hbad
  have HDK : Hid (diskE s t = 0) := hd
  subst hbad
  clear hd
  have x0 := HA11.out.at 0 rfl
  have x1 := HA11.out.at 1 rfl
  have y0 := HC11.out.at 0 rfl
  have y1 := HC11.out.at 1 rfl
  have y2 := HC11.out.at 2 rfl
  have y3 := HC11.out.at 3 rfl
  have y4 := HC11.out.at 4 rfl
  have y5 := HC11.out.at 5 rfl
  have y6 := HC11.out.at 6 rfl
  have y7 := HC11.out.at 7 rfl
  have y8 := HC11.out.at 8 rfl
  have y9 := HC11.out.at 9 rfl
  have y10 := HC11.out.at 10 rfl
  go_wp2_with fail
  clear x0 x1
  clear y0 y1 y2 y3 y4 y5 y6 y7 y8 y9 y10
  refine (rputOn_any w_6 _ s t k u f a3 c3 R o HD11.out HDK.out HL.out HI11.out HV11.out).mono ?_
  rintro e w_7 ⟨⟨v_7, rfl, hN⟩, hb⟩
  have HA12 := Lib.hid (HA11.out.keep hb)
  have HC12 := Lib.hid (HC11.out.keep hb)
  have HX12 := Lib.hid (HX11.out.keep hb)
  have HD12 := Lib.hid (HD11.out.keep hb)
  have HE12 := Lib.hid (HE11.out.keep hb)
  have HI12 := Lib.hid (HI11.out.below hb)
  have HV12 := Lib.hid (HV11.out.on hb)
  have HD_112 := Lib.hid (HD_111.out.keep hb)
  have HK_112 := Lib.hid (HK_111.out.keep hb)
  have HD_212 := Lib.hid (HD_211.out.keep hb)
  have HK_212 := Lib.hid (HK_211.out.keep hb)
  have HD_312 := Lib.hid (HD_311.out.keep hb)
  have HK_312 := Lib.hid (HK_311.out.keep hb)
  have HD_412 := Lib.hid (HD_411.out.keep hb)
  have HL_412 := Lib.hid (HL_411.out.keep hb)
  have HK_412 := Lib.hid (HK_411.out.keep hb)
  have HK_012 := Lib.hid (HK_011.out.keep hb)
  have HB12 : Hid (Below w.heap.size w w_7) := HB11.out.trans (hb.mono HB11.out.size)
  clear HA11 HC11 HX11 HD11 HE11 HI11 HV11 HD_111 HK_111 HD_211 HK_211 HD_311 HK_311 HD_411 HL_411 HK_411 HK_011 HB11
  clear hb
  rw [HE_1.out]
  rw [HS_1.out] at hN
  rw [HT_1.out] at hN
  obtain ⟨a_7, c_7, b_7, d_7, rfl, hs, ht⟩ := hN
  have HD_712 : Hid (DkIs w_7 (dkV (.slice a_7 S_1.length c_7) (.slice b_7 T_1.length d_7)) S_1 T_1) := ⟨a_7, c_7, b_7, d_7, rfl, hs, ht⟩
  clear hs ht
  have hK := Blk.new w_7 [.slice a_7 S_1.length c_7, .slice b_7 T_1.length d_7] 24
  have hb := Go.Joins.below_alloc1 w_7 (Obj.cells [.slice a_7 S_1.length c_7, .slice b_7 T_1.length d_7].toArray 24)
  have HA13 := Lib.hid (HA12.out.keep hb)
  have HC13 := Lib.hid (HC12.out.keep hb)
  have HX13 := Lib.hid (HX12.out.keep hb)
  have HD13 := Lib.hid (HD12.out.keep hb)
  have HE13 := Lib.hid (HE12.out.keep hb)
  have HI13 := Lib.hid (HI12.out.below hb)
  have HV13 := Lib.hid (HV12.out.on hb)
  have HD_113 := Lib.hid (HD_112.out.keep hb)
  have HK_113 := Lib.hid (HK_112.out.keep hb)
  have HD_213 := Lib.hid (HD_212.out.keep hb)
  have HK_213 := Lib.hid (HK_212.out.keep hb)
  have HD_313 := Lib.hid (HD_312.out.keep hb)
  have HK_313 := Lib.hid (HK_312.out.keep hb)
  have HD_413 := Lib.hid (HD_412.out.keep hb)
  have HL_413 := Lib.hid (HL_412.out.keep hb)
  have HK_413 := Lib.hid (HK_412.out.keep hb)
  have HK_013 := Lib.hid (HK_012.out.keep hb)
  have HD_713 := Lib.hid (HD_712.out.keep hb)
  have HB13 : Hid (Below w.heap.size w (w_7.alloc (Obj.cells [.slice a_7 S_1.length c_7, .slice b_7 T_1.length d_7].toArray 24))) := HB12.out.trans (hb.mono HB12.out.size)
  clear HA12 HC12 HX12 HD12 HE12 HI12 HV12 HD_112 HK_112 HD_212 HK_212 HD_312 HK_312 HD_412 HL_412 HK_412 HK_012 HD_712 HB12
  have HK_713 := Lib.hid hK
  clear hK hb
  have x0 := HA13.out.at 0 rfl
  have x1 := HA13.out.at 1 rfl
  go_wp2_with fail
  clear x0 x1
  obtain ⟨g_7, hg⟩ : ∃ g, w_7.heap.size = g := ⟨_, rfl⟩
  generalize w_7.alloc (Obj.cells [.slice a_7 S_1.length c_7, .slice b_7 T_1.length d_7].toArray 24) = V_7 at *
  rw [hg] at HK_713 ⊢
  clear hg
  refine (rsynced_any V_7 _ s t HD13.out HDK.out HV13.out).mono ?_
  rintro e w_8 ⟨⟨v_8, rfl, hN⟩, hb⟩
  have HA14 := Lib.hid (HA13.out.keep hb)
  have HC14 := Lib.hid (HC13.out.keep hb)
  have HX14 := Lib.hid (HX13.out.keep hb)
  have HD14 := Lib.hid (HD13.out.keep hb)
  have HE14 := Lib.hid (HE13.out.keep hb)
  have HI14 := Lib.hid (HI13.out.below hb)
  have HV14 := Lib.hid (HV13.out.on hb)
  have HD_114 := Lib.hid (HD_113.out.keep hb)
  have HK_114 := Lib.hid (HK_113.out.keep hb)
  have HD_214 := Lib.hid (HD_213.out.keep hb)
  have HK_214 := Lib.hid (HK_213.out.keep hb)
  have HD_314 := Lib.hid (HD_313.out.keep hb)
  have HK_314 := Lib.hid (HK_313.out.keep hb)
  have HD_414 := Lib.hid (HD_413.out.keep hb)
  have HL_414 := Lib.hid (HL_413.out.keep hb)
  have HK_414 := Lib.hid (HK_413.out.keep hb)
  have HK_014 := Lib.hid (HK_013.out.keep hb)
  have HD_714 := Lib.hid (HD_713.out.keep hb)
  have HK_714 := Lib.hid (HK_713.out.keep hb)
  have HB14 : Hid (Below w.heap.size w w_8) := HB13.out.trans (hb.mono HB13.out.size)
  clear HA13 HC13 HX13 HD13 HE13 HI13 HV13 HD_113 HK_113 HD_213 HK_213 HD_313 HK_313 HD_413 HL_413 HK_413 HK_013 HD_713 HK_713 HB13
  clear hb
  rw [HE_2.out]
  rw [HS_2.out] at hN
  obtain ⟨a_8, c_8, b_8, d_8, rfl, hs, ht⟩ := hN
  have HD_814 : Hid (DkIs w_8 (dkV (.slice a_8 S_2.length c_8) (.slice b_8 ([] : List UInt8).length d_8)) S_2 []) := ⟨a_8, c_8, b_8, d_8, rfl, hs, ht⟩
  clear hs ht
  have hK := Blk.new w_8 [.slice a_8 S_2.length c_8, .slice b_8 0 d_8] 24
  have hb := Go.Joins.below_alloc1 w_8 (Obj.cells [.slice a_8 S_2.length c_8, .slice b_8 0 d_8].toArray 24)
  have HA15 := Lib.hid (HA14.out.keep hb)
  have HC15 := Lib.hid (HC14.out.keep hb)
  have HX15 := Lib.hid (HX14.out.keep hb)
  have HD15 := Lib.hid (HD14.out.keep hb)
  have HE15 := Lib.hid (HE14.out.keep hb)
  have HI15 := Lib.hid (HI14.out.below hb)
  have HV15 := Lib.hid (HV14.out.on hb)
  have HD_115 := Lib.hid (HD_114.out.keep hb)
  have HK_115 := Lib.hid (HK_114.out.keep hb)
  have HD_215 := Lib.hid (HD_214.out.keep hb)
  have HK_215 := Lib.hid (HK_214.out.keep hb)
  have HD_315 := Lib.hid (HD_314.out.keep hb)
  have HK_315 := Lib.hid (HK_314.out.keep hb)
  have HD_415 := Lib.hid (HD_414.out.keep hb)
  have HL_415 := Lib.hid (HL_414.out.keep hb)
  have HK_415 := Lib.hid (HK_414.out.keep hb)
  have HK_015 := Lib.hid (HK_014.out.keep hb)
  have HD_715 := Lib.hid (HD_714.out.keep hb)
  have HK_715 := Lib.hid (HK_714.out.keep hb)
  have HD_815 := Lib.hid (HD_814.out.keep hb)
  have HB15 : Hid (Below w.heap.size w (w_8.alloc (Obj.cells [.slice a_8 S_2.length c_8, .slice b_8 0 d_8].toArray 24))) := HB14.out.trans (hb.mono HB14.out.size)
  clear HA14 HC14 HX14 HD14 HE14 HI14 HV14 HD_114 HK_114 HD_214 HK_214 HD_314 HK_314 HD_414 HL_414 HK_414 HK_014 HD_714 HK_714 HD_814 HB14
  have HK_815 := Lib.hid hK
  clear hK hb
  have x0 := HA15.out.at 0 rfl
  have x1 := HA15.out.at 1 rfl
  go_wp2_with fail
  clear x0 x1
  obtain ⟨g_8, hg⟩ : ∃ g, w_8.heap.size = g := ⟨_, rfl⟩
  generalize w_8.alloc (Obj.cells [.slice a_8 S_2.length c_8, .slice b_8 0 d_8].toArray 24) = V_8 at *
  rw [hg] at HK_815 ⊢
  clear hg
  refine (rrecovered_any V_8 _ s t HD15.out HDK.out HV15.out).mono ?_
  rintro e w_9 ⟨⟨v_9, lv_9, X_9, rfl, hN, hO, hXm⟩, hb⟩
  have HA16 := Lib.hid (HA15.out.keep hb)
  have HC16 := Lib.hid (HC15.out.keep hb)
  have HX16 := Lib.hid (HX15.out.keep hb)
  have HD16 := Lib.hid (HD15.out.keep hb)
  have HE16 := Lib.hid (HE15.out.keep hb)
  have HI16 := Lib.hid (HI15.out.below hb)
  have HV16 := Lib.hid (HV15.out.on hb)
  have HD_116 := Lib.hid (HD_115.out.keep hb)
  have HK_116 := Lib.hid (HK_115.out.keep hb)
  have HD_216 := Lib.hid (HD_215.out.keep hb)
  have HK_216 := Lib.hid (HK_215.out.keep hb)
  have HD_316 := Lib.hid (HD_315.out.keep hb)
  have HK_316 := Lib.hid (HK_315.out.keep hb)
  have HD_416 := Lib.hid (HD_415.out.keep hb)
  have HL_416 := Lib.hid (HL_415.out.keep hb)
  have HK_416 := Lib.hid (HK_415.out.keep hb)
  have HK_016 := Lib.hid (HK_015.out.keep hb)
  have HD_716 := Lib.hid (HD_715.out.keep hb)
  have HK_716 := Lib.hid (HK_715.out.keep hb)
  have HD_816 := Lib.hid (HD_815.out.keep hb)
  have HK_816 := Lib.hid (HK_815.out.keep hb)
  have HB16 : Hid (Below w.heap.size w w_9) := HB15.out.trans (hb.mono HB15.out.size)
  clear HA15 HC15 HX15 HD15 HE15 HI15 HV15 HD_115 HK_115 HD_215 HK_215 HD_315 HK_315 HD_415 HL_415 HK_415 HK_015 HD_715 HK_715 HD_815 HK_815 HB15
  clear hb
  rw [HS_4.out] at hN
  obtain ⟨a_9, c_9, b_9, d_9, rfl, hs, ht⟩ := hN
  have HD_916 : Hid (DkIs w_9 (dkV (.slice a_9 S_4.length c_9) (.slice b_9 ([] : List UInt8).length d_9)) S_4 []) := ⟨a_9, c_9, b_9, d_9, rfl, hs, ht⟩
  clear hs ht
  obtain ⟨aL_9, cL_9, rfl, -, -, -⟩ := hO.val
  have HL_916 := Lib.hid hO
  have HM_9 : Hid (X_9.map (·.1) = rcvL s t) := hXm
  clear hO hXm
  have hK := Blk.new w_9 [.slice a_9 S_4.length c_9, .slice b_9 0 d_9] 24
  have hb := Go.Joins.below_alloc1 w_9 (Obj.cells [.slice a_9 S_4.length c_9, .slice b_9 0 d_9].toArray 24)
  have HA17 := Lib.hid (HA16.out.keep hb)
  have HC17 := Lib.hid (HC16.out.keep hb)
  have HX17 := Lib.hid (HX16.out.keep hb)
  have HD17 := Lib.hid (HD16.out.keep hb)
  have HE17 := Lib.hid (HE16.out.keep hb)
  have HI17 := Lib.hid (HI16.out.below hb)
  have HV17 := Lib.hid (HV16.out.on hb)
  have HD_117 := Lib.hid (HD_116.out.keep hb)
  have HK_117 := Lib.hid (HK_116.out.keep hb)
  have HD_217 := Lib.hid (HD_216.out.keep hb)
  have HK_217 := Lib.hid (HK_216.out.keep hb)
  have HD_317 := Lib.hid (HD_316.out.keep hb)
  have HK_317 := Lib.hid (HK_316.out.keep hb)
  have HD_417 := Lib.hid (HD_416.out.keep hb)
  have HL_417 := Lib.hid (HL_416.out.keep hb)
  have HK_417 := Lib.hid (HK_416.out.keep hb)
  have HK_017 := Lib.hid (HK_016.out.keep hb)
  have HD_717 := Lib.hid (HD_716.out.keep hb)
  have HK_717 := Lib.hid (HK_716.out.keep hb)
  have HD_817 := Lib.hid (HD_816.out.keep hb)
  have HK_817 := Lib.hid (HK_816.out.keep hb)
  have HD_917 := Lib.hid (HD_916.out.keep hb)
  have HL_917 := Lib.hid (HL_916.out.keep hb)
  have HB17 : Hid (Below w.heap.size w (w_9.alloc (Obj.cells [.slice a_9 S_4.length c_9, .slice b_9 0 d_9].toArray 24))) := HB16.out.trans (hb.mono HB16.out.size)
  clear HA16 HC16 HX16 HD16 HE16 HI16 HV16 HD_116 HK_116 HD_216 HK_216 HD_316 HK_316 HD_416 HL_416 HK_416 HK_016 HD_716 HK_716 HD_816 HK_816 HD_916 HL_916 HB16
  have HK_917 := Lib.hid hK
  clear hK hb
  obtain rfl : T_2 = [] := HT_2.out.symm
  obtain rfl : T_4 = [] := HT_4.out.symm
  go_upto_region 14 with fail
  obtain ⟨g_9, hg⟩ : ∃ g, w_9.heap.size = g := ⟨_, rfl⟩
  generalize w_9.alloc (Obj.cells [.slice a_9 S_4.length c_9, .slice b_9 0 d_9].toArray 24) = V_9 at *
  rw [hg] at HK_917 ⊢
  clear hg
  have x0 := HK_117.out.at 0 rfl
  have x1 := HK_117.out.at 1 rfl
  have z0 := HK_717.out.at 0 rfl
  have z1 := HK_717.out.at 1 rfl
  go_wp2_with fail
  clear x0 x1 z0 z1
  refine (same_yes V_9 _ _ S_1 T_1 HD_117.out HD_717.out).mono ?_
  rintro e u_1 ⟨rfl, hb⟩
  have HA18 := Lib.hid (HA17.out.keep hb)
  have HC18 := Lib.hid (HC17.out.keep hb)
  have HX18 := Lib.hid (HX17.out.keep hb)
  have HD18 := Lib.hid (HD17.out.keep hb)
  have HE18 := Lib.hid (HE17.out.keep hb)
  have HI18 := Lib.hid (HI17.out.below hb)
  have HV18 := Lib.hid (HV17.out.on hb)
  have HD_118 := Lib.hid (HD_117.out.keep hb)
  have HK_118 := Lib.hid (HK_117.out.keep hb)
  have HD_218 := Lib.hid (HD_217.out.keep hb)
  have HK_218 := Lib.hid (HK_217.out.keep hb)
  have HD_318 := Lib.hid (HD_317.out.keep hb)
  have HK_318 := Lib.hid (HK_317.out.keep hb)
  have HD_418 := Lib.hid (HD_417.out.keep hb)
  have HL_418 := Lib.hid (HL_417.out.keep hb)
  have HK_418 := Lib.hid (HK_417.out.keep hb)
  have HK_018 := Lib.hid (HK_017.out.keep hb)
  have HD_718 := Lib.hid (HD_717.out.keep hb)
  have HK_718 := Lib.hid (HK_717.out.keep hb)
  have HD_818 := Lib.hid (HD_817.out.keep hb)
  have HK_818 := Lib.hid (HK_817.out.keep hb)
  have HD_918 := Lib.hid (HD_917.out.keep hb)
  have HL_918 := Lib.hid (HL_917.out.keep hb)
  have HK_918 := Lib.hid (HK_917.out.keep hb)
  have HB18 : Hid (Below w.heap.size w u_1) := HB17.out.trans (hb.mono HB17.out.size)
  clear HA17 HC17 HX17 HD17 HE17 HI17 HV17 HD_117 HK_117 HD_217 HK_217 HD_317 HK_317 HD_417 HL_417 HK_417 HK_017 HD_717 HK_717 HD_817 HK_817 HD_917 HL_917 HK_917 HB17
  clear hb
  have x0 := HK_218.out.at 0 rfl
  have x1 := HK_218.out.at 1 rfl
  have z0 := HK_818.out.at 0 rfl
  have z1 := HK_818.out.at 1 rfl
  go_wp2_with fail
  clear x0 x1 z0 z1
  refine (same_yes u_1 _ _ S_2 [] HD_218.out HD_818.out).mono ?_
  rintro e u_2 ⟨rfl, hb⟩
  have HA19 := Lib.hid (HA18.out.keep hb)
  have HC19 := Lib.hid (HC18.out.keep hb)
  have HX19 := Lib.hid (HX18.out.keep hb)
  have HD19 := Lib.hid (HD18.out.keep hb)
  have HE19 := Lib.hid (HE18.out.keep hb)
  have HI19 := Lib.hid (HI18.out.below hb)
  have HV19 := Lib.hid (HV18.out.on hb)
  have HD_119 := Lib.hid (HD_118.out.keep hb)
  have HK_119 := Lib.hid (HK_118.out.keep hb)
  have HD_219 := Lib.hid (HD_218.out.keep hb)
  have HK_219 := Lib.hid (HK_218.out.keep hb)
  have HD_319 := Lib.hid (HD_318.out.keep hb)
  have HK_319 := Lib.hid (HK_318.out.keep hb)
  have HD_419 := Lib.hid (HD_418.out.keep hb)
  have HL_419 := Lib.hid (HL_418.out.keep hb)
  have HK_419 := Lib.hid (HK_418.out.keep hb)
  have HK_019 := Lib.hid (HK_018.out.keep hb)
  have HD_719 := Lib.hid (HD_718.out.keep hb)
  have HK_719 := Lib.hid (HK_718.out.keep hb)
  have HD_819 := Lib.hid (HD_818.out.keep hb)
  have HK_819 := Lib.hid (HK_818.out.keep hb)
  have HD_919 := Lib.hid (HD_918.out.keep hb)
  have HL_919 := Lib.hid (HL_918.out.keep hb)
  have HK_919 := Lib.hid (HK_918.out.keep hb)
  have HB19 : Hid (Below w.heap.size w u_2) := HB18.out.trans (hb.mono HB18.out.size)
  clear HA18 HC18 HX18 HD18 HE18 HI18 HV18 HD_118 HK_118 HD_218 HK_218 HD_318 HK_318 HD_418 HL_418 HK_418 HK_018 HD_718 HK_718 HD_818 HK_818 HD_918 HL_918 HK_918 HB18
  clear hb
  have x0 := HK_419.out.at 0 rfl
  have x1 := HK_419.out.at 1 rfl
  have z0 := HK_919.out.at 0 rfl
  have z1 := HK_919.out.at 1 rfl
  go_wp2_with fail
  clear x0 x1 z0 z1
  refine (same_yes u_2 _ _ S_4 [] HD_419.out HD_919.out).mono ?_
  rintro e u_3 ⟨rfl, hb⟩
  have HA20 := Lib.hid (HA19.out.keep hb)
  have HC20 := Lib.hid (HC19.out.keep hb)
  have HX20 := Lib.hid (HX19.out.keep hb)
  have HD20 := Lib.hid (HD19.out.keep hb)
  have HE20 := Lib.hid (HE19.out.keep hb)
  have HI20 := Lib.hid (HI19.out.below hb)
  have HV20 := Lib.hid (HV19.out.on hb)
  have HD_120 := Lib.hid (HD_119.out.keep hb)
  have HK_120 := Lib.hid (HK_119.out.keep hb)
  have HD_220 := Lib.hid (HD_219.out.keep hb)
  have HK_220 := Lib.hid (HK_219.out.keep hb)
  have HD_320 := Lib.hid (HD_319.out.keep hb)
  have HK_320 := Lib.hid (HK_319.out.keep hb)
  have HD_420 := Lib.hid (HD_419.out.keep hb)
  have HL_420 := Lib.hid (HL_419.out.keep hb)
  have HK_420 := Lib.hid (HK_419.out.keep hb)
  have HK_020 := Lib.hid (HK_019.out.keep hb)
  have HD_720 := Lib.hid (HD_719.out.keep hb)
  have HK_720 := Lib.hid (HK_719.out.keep hb)
  have HD_820 := Lib.hid (HD_819.out.keep hb)
  have HK_820 := Lib.hid (HK_819.out.keep hb)
  have HD_920 := Lib.hid (HD_919.out.keep hb)
  have HL_920 := Lib.hid (HL_919.out.keep hb)
  have HK_920 := Lib.hid (HK_919.out.keep hb)
  have HB20 : Hid (Below w.heap.size w u_3) := HB19.out.trans (hb.mono HB19.out.size)
  clear HA19 HC19 HX19 HD19 HE19 HI19 HV19 HD_119 HK_119 HD_219 HK_219 HD_319 HK_319 HD_419 HL_419 HK_419 HK_019 HD_719 HK_719 HD_819 HK_819 HD_919 HL_919 HK_919 HB19
  clear hb
  have HEQ := Lib.hid (eqFuncR_any u_3 aL_4 aL_9 cL_4 cL_9 X_4 X_9 0 0 17 (by have e := congrArg List.length HM_4.out; rw [List.length_map] at e; have := rcvL_len s t; omega) ⟨HL_420.out.own.read, HL_420.out.roots⟩ ⟨HL_920.out.own.read, HL_920.out.roots⟩ rsame_enters (fun W x y hx hy => rsameRm W x y hx hy))
  rw [eqRs_yes (HM_4.out.trans HM_9.out.symm)] at HEQ
  go_wp2_with fail
  refine HEQ.out.mono ?_
  rintro e u_4 ⟨rfl, hb⟩
  have HA21 := Lib.hid (HA20.out.keep hb)
  have HC21 := Lib.hid (HC20.out.keep hb)
  have HX21 := Lib.hid (HX20.out.keep hb)
  have HD21 := Lib.hid (HD20.out.keep hb)
  have HE21 := Lib.hid (HE20.out.keep hb)
  have HI21 := Lib.hid (HI20.out.below hb)
  have HV21 := Lib.hid (HV20.out.on hb)
  have HD_121 := Lib.hid (HD_120.out.keep hb)
  have HK_121 := Lib.hid (HK_120.out.keep hb)
  have HD_221 := Lib.hid (HD_220.out.keep hb)
  have HK_221 := Lib.hid (HK_220.out.keep hb)
  have HD_321 := Lib.hid (HD_320.out.keep hb)
  have HK_321 := Lib.hid (HK_320.out.keep hb)
  have HD_421 := Lib.hid (HD_420.out.keep hb)
  have HL_421 := Lib.hid (HL_420.out.keep hb)
  have HK_421 := Lib.hid (HK_420.out.keep hb)
  have HK_021 := Lib.hid (HK_020.out.keep hb)
  have HD_721 := Lib.hid (HD_720.out.keep hb)
  have HK_721 := Lib.hid (HK_720.out.keep hb)
  have HD_821 := Lib.hid (HD_820.out.keep hb)
  have HK_821 := Lib.hid (HK_820.out.keep hb)
  have HD_921 := Lib.hid (HD_920.out.keep hb)
  have HL_921 := Lib.hid (HL_920.out.keep hb)
  have HK_921 := Lib.hid (HK_920.out.keep hb)
  have HB21 : Hid (Below w.heap.size w u_4) := HB20.out.trans (hb.mono HB20.out.size)
  clear HA20 HC20 HX20 HD20 HE20 HI20 HV20 HD_120 HK_120 HD_220 HK_220 HD_320 HK_320 HD_420 HL_420 HK_420 HK_020 HD_720 HK_720 HD_820 HK_820 HD_920 HL_920 HK_920 HB20
  clear hb HEQ
  have x1 := HA21.out.at 1 rfl
  by_cases hrg : n < 0 ∨ (t.length : Int) < n
  · obtain rfl : E_3 = 3 := by rw [← HE_3.out]; exact crash_range HDK.out hrg
    obtain rfl : S_3 = [] := by rw [← HS_3.out]; exact (crash_not (crash_range HDK.out hrg) (by decide)).1
    obtain rfl : T_3 = [] := by rw [← HT_3.out]; exact (crash_not (crash_range HDK.out hrg) (by decide)).2
    have HSM := Lib.hid (same_yes u_4 _ _ [] [] HD_321.out (dkIs_none _))
    have y0 := HK_321.out.at 0 rfl
    have y1 := HK_321.out.at 1 rfl
    have z0 := HK_021.out.at 0 rfl
    have z1 := HK_021.out.at 1 rfl
    by_cases hneg : n < 0
    · have d1 : decide (n < 0) = true := by simpa using hneg
      clear hrg
      go_wp2_with fail
      refine HSM.out.mono ?_
      rintro e u_5 ⟨rfl, hb⟩
      have HBf := Lib.hid (HB21.out.trans (hb.mono HB21.out.size))
      clear hb
      go_wp2
      go_ret
      exact ⟨rfl, HBf.out⟩
    · have d1 : decide (n < 0) = false := by simpa using hneg
      have d2 : decide (n > (t.length : Int)) = true := by simp; omega
      clear hrg
      go_wp2_with fail
      refine HSM.out.mono ?_
      rintro e u_5 ⟨rfl, hb⟩
      have HBf := Lib.hid (HB21.out.trans (hb.mono HB21.out.size))
      clear hb
      go_wp2
      go_ret
      exact ⟨rfl, HBf.out⟩
  obtain ⟨j, rfl⟩ : ∃ j : Nat, n = j := ⟨n.toNat, by omega⟩
  have hj : j ≤ t.length := by omega
  have hjc : j ≤ c' := by omega
  have HCK := Lib.hid (crash_ok (s := s) (t := t) (n := (j : Int)) HDK.out hrg)
  rw [Int.toNat_natCast] at HCK
  obtain rfl : E_3 = 0 := by rw [← HE_3.out]; exact HCK.out.1
  obtain rfl : s = S_3 := by rw [← HS_3.out]; exact HCK.out.2.1.symm
  have HT3 : Hid (T_3 = t.take j) := by show _ = _; rw [← HT_3.out]; exact HCK.out.2.2
  have d1 : decide ((j : Int) < 0) = false := by simp
  have d2 : decide ((j : Int) > (t.length : Int)) = false := by simp; omega
  clear hrg HCK
  go_upto_region 18 with fail
  clear x1
  have HDT := Lib.hid (dk_take HD21.out hj)
  rw [← HT3.out] at HDT
  have hS' : Below u_4.heap.size u_4 u_4.drew := (Below.refl _ u_4).drew
  refine wp_region_held_drew (S := fun w' => Below u_4.heap.size u_4 w') (by kernel_rfl) hS' (fun hHeld => ?_)
  refine take_yes 0 182 (v := ?_) rfl rfl (by kernel_rfl) (by kernel_rfl) (by kernel_rfl) (fun _ _ _ h => h) (by rfl) ?_ hHeld ?_
  rotate_left 1
  · (intro w hSw; go_simp; try with_reducible rfl)
  simp only [Act.put, List.setIfInBounds_toArray, List.set_cons_succ, List.set_cons_zero]
  refine take_yes 1 183 (v := ?_) rfl rfl (by kernel_rfl) (by kernel_rfl) (by kernel_rfl) (fun _ _ _ h => h) (by rfl) ?_ hHeld ?_
  rotate_left 1
  · (intro w hSw; go_simp; try with_reducible rfl)
  simp only [Act.put, List.setIfInBounds_toArray, List.set_cons_succ, List.set_cons_zero]
  refine take_yes 2 184 (v := ?_) rfl rfl (by kernel_rfl) (by kernel_rfl) (by kernel_rfl) (fun _ _ _ h => h) (by rfl) ?_ hHeld ?_
  rotate_left 1
  · (intro w hSw; go_simp; try with_reducible rfl)
  simp only [Act.put, List.setIfInBounds_toArray, List.set_cons_succ, List.set_cons_zero]
  refine take_load 3 185 24 g_3 [.slice a_3 s.length c_3, .slice b_3 T_3.length d_3] rfl rfl (by kernel_rfl) (by kernel_rfl) (by kernel_rfl) (fun _ _ _ h => h) (by rfl) (by rfl) (by rfl) (fun w hw => (HK_321.out.keep hw).range) Tryz.underlying24 rfl sizeDisk hHeld ?_
  simp only [Act.put, List.setIfInBounds_toArray, List.set_cons_succ, List.set_cons_zero]
  refine take_yes 4 186 (v := ?_) rfl rfl (by kernel_rfl) (by kernel_rfl) (by kernel_rfl) (fun _ _ _ h => h) (by rfl) ?_ hHeld ?_
  rotate_left 1
  · (intro w hSw; go_simp; try with_reducible rfl)
  simp only [Act.put, List.setIfInBounds_toArray, List.set_cons_succ, List.set_cons_zero]
  refine take_yes 5 187 (v := ?_) rfl rfl (by kernel_rfl) (by kernel_rfl) (by kernel_rfl) (fun _ _ _ h => h) (by rfl) ?_ hHeld ?_
  rotate_left 1
  · (intro w hSw; have z0 := (HA21.out.keep hSw).at 0 rfl; go_simp; try with_reducible rfl)
  simp only [Act.put, List.setIfInBounds_toArray, List.set_cons_succ, List.set_cons_zero]
  refine take_yes 6 188 (v := ?_) rfl rfl (by kernel_rfl) (by kernel_rfl) (by kernel_rfl) (fun _ _ _ h => h) (by rfl) ?_ hHeld ?_
  rotate_left 1
  · (intro w hSw; go_simp; try with_reducible rfl)
  simp only [Act.put, List.setIfInBounds_toArray, List.set_cons_succ, List.set_cons_zero]
  refine take_yes 7 189 (v := ?_) rfl rfl (by kernel_rfl) (by kernel_rfl) (by kernel_rfl) (fun _ _ _ h => h) (by rfl) ?_ hHeld ?_
  rotate_left 1
  · (intro w hSw; have z1 := (HA21.out.keep hSw).at 1 rfl; go_simp; try with_reducible rfl)
  simp only [Act.put, List.setIfInBounds_toArray, List.set_cons_succ, List.set_cons_zero]
  refine take_yes 8 190 (v := ?_) rfl rfl (by kernel_rfl) (by kernel_rfl) (by kernel_rfl) (fun _ _ _ h => h) (by rfl) ?_ hHeld ?_
  rotate_left 1
  · (intro w hSw; go_simp; try with_reducible rfl)
  simp only [Act.put, List.setIfInBounds_toArray, List.set_cons_succ, List.set_cons_zero]
  refine take_yes 9 191 (v := ?_) rfl rfl (by kernel_rfl) (by kernel_rfl) (by kernel_rfl) (fun _ _ _ h => h) (by rfl) ?_ hHeld ?_
  rotate_left 1
  · (intro w hSw; go_simp; try with_reducible rfl)
  simp only [Act.put, List.setIfInBounds_toArray, List.set_cons_succ, List.set_cons_zero]
  refine take_yes 10 192 (v := ?_) rfl rfl (by kernel_rfl) (by kernel_rfl) (by kernel_rfl) (fun _ _ _ h => h) (by rfl) ?_ hHeld ?_
  rotate_left 1
  · (intro w hSw; go_simp; try with_reducible rfl)
  simp only [Act.put, List.setIfInBounds_toArray, List.set_cons_succ, List.set_cons_zero]
  refine wpAnyH_ready (rs := [11]) (by kernel_rfl) (by simp) ?_
  refine AllReadyH.cons rfl (fun K hK => ?_) AllReadyH.nil
  go_simp
  refine (same_yes _ _ _ s T_3 (HD_321.out.keep hS') (HDT.out.keep hS')).mono ?_
  rintro e wn ⟨rfl, hb⟩
  have hS' : Below u_4.heap.size u_4 wn := Below.trans hS' (hb.mono (Below.size hS'))
  clear hb
  go_wp2_with fail
  refine hK.out _ _ hS' (fun hHeld => ?_)
  clear hK K
  refine take_yes 12 194 (v := ?_) rfl rfl (by kernel_rfl) (by kernel_rfl) (by kernel_rfl) (fun _ _ _ h => h) (by rfl) ?_ hHeld ?_
  rotate_left 1
  · (intro w hSw; go_simp; try with_reducible rfl)
  simp only [Act.put, List.setIfInBounds_toArray, List.set_cons_succ, List.set_cons_zero]
  refine take_yes 13 8 (v := ?_) rfl rfl (by kernel_rfl) (by kernel_rfl) (by kernel_rfl) (fun _ _ _ h => h) (by rfl) ?_ hHeld ?_
  rotate_left 1
  · (intro w hSw; go_simp; try with_reducible rfl)
  simp only [Act.put, List.setIfInBounds_toArray, List.set_cons_succ, List.set_cons_zero]
  refine wpAnyH_done (by kernel_rfl) ?_ _
  rename World => w_f
  have HBf := Lib.hid (HB21.out.trans (hS'.mono HB21.out.size))
  go_wp2
  go_ret
  exact ⟨rfl, HBf.out⟩
end Go.Proofs.YtmlodnamknielacGreatDoor

/- A tree that came in as an argument: which places it holds. -/
namespace Go.Proofs.YtmlodnamknielacGreatDoor
open Go.ChangeShapes Go.WideShapes Go.ChangeAt Go.RowKit
open Orangery (Pl)

theorem cells3_of {w : World} {base : Nat} {a : Addr} {cs : List Value} (h : w.cells? base a 3 = some cs) :
    ∃ x y z, cs = [x, y, z] ∧ w.cell? (a.add 0) = some x ∧ w.cell? (a.add 1) = some y ∧ w.cell? (a.add 2) = some z := by
  unfold World.cells? at h
  split at h
  · simp only [show List.range 3 = [0, 1, 2] from rfl, List.mapM_cons, List.mapM_nil] at h
    cases h0 : w.cell? (a.add 0) with
    | none => simp [h0] at h
    | some x =>
      cases h1 : w.cell? (a.add 1) with
      | none => simp [h0, h1] at h
      | some y =>
        cases h2 : w.cell? (a.add 2) with
        | none => simp [h0, h1, h2] at h
        | some z =>
          simp [h0, h1, h2] at h
          exact ⟨x, y, z, h.symm, rfl, rfl, rfl⟩
  · simp at h

theorem add_at (b off i : Nat) : (⟨b, off, none⟩ : Addr).add i = ⟨b, off + i, none⟩ := by
  unfold Addr.add
  by_cases hz : i = 0 <;> simp [hz]

end Go.Proofs.YtmlodnamknielacGreatDoor

/- Operations and steps that came in as arguments. -/
namespace Go.Proofs.YtmlodnamknielacGreatDoor
open Go.ChangeShapes Go.WideShapes Go.ChangeAt Go.RowKit
open Orangery (Pl Mv Stp)

theorem list7 {cs : List Value} (h : cs.length = 7) : ∃ a b c d e f g, cs = [a, b, c, d, e, f, g] := by
  match cs, h with
  | [a, b, c, d, e, f, g], _ => exact ⟨a, b, c, d, e, f, g, rfl⟩
theorem list11 {cs : List Value} (h : cs.length = 11) : ∃ a b c d e f g i j k l, cs = [a, b, c, d, e, f, g, i, j, k, l] := by
  match cs, h with
  | [a, b, c, d, e, f, g, i, j, k, l], _ => exact ⟨a, b, c, d, e, f, g, i, j, k, l, rfl⟩

set_option maxRecDepth 100000 in
theorem open_opC {H : Type} {enc : TypeId × Value → H} {w : World} {base fuel : Nat} {spare : Nat → Bool} {held : Bool} {cs : List Value} {x : DataW H × List MemPlace}
    (h : DataW.trod enc Tryz.prog w base spare held fuel 29 cs = some x) : ∃ o : Mv, cs = opC o := by
  obtain ⟨xs, n, _, _, hl, hlen, hf⟩ := DataW.trod_struct Tryz.underlying29 h
  have hC : Tryz.prog.cellsOf 29 = 7 := by kernel_rfl
  have hI : Tryz.prog.cellsOf 3 = 1 := by kernel_rfl
  have hT : Tryz.prog.cellsOf 27 = 2 := by kernel_rfl
  rw [hC] at hl
  obtain ⟨c0, c1, c2, c3, c4, c5, c6, rfl⟩ := list7 hl
  have hx : xs.length = 6 := hlen
  have g0 := hf 0 _ rfl
  have g1 := hf 1 _ rfl
  have g2 := hf 2 _ rfl
  have g3 := hf 3 _ rfl
  have g4 := hf 4 _ rfl
  have g5 := hf 5 _ rfl
  simp [hI, hT] at g0 g1 g2 g3 g4 g5
  rw [List.getElem?_eq_getElem (by omega)] at g0 g1 g2 g3 g4 g5
  obtain ⟨o3, e3, _, _⟩ := DataW.trod_int Tryz.underlying3 g1
  obtain ⟨o4, e4, _, _⟩ := DataW.trod_int Tryz.underlying3 g2
  obtain ⟨o5, e5, _, _⟩ := DataW.trod_int Tryz.underlying3 g3
  obtain ⟨o6, e6, _, _⟩ := DataW.trod_int Tryz.underlying3 g4
  obtain ⟨o7, e7, _, _⟩ := DataW.trod_int Tryz.underlying3 g5
  obtain ⟨y0, y1, n', _, _, t0, t1⟩ := trod_struct2 Tryz.underlying27 g0
  simp [hI] at t0 t1
  obtain ⟨o1, e1, _, _⟩ := DataW.trod_int Tryz.underlying3 t0
  obtain ⟨o2, e2, _, _⟩ := DataW.trod_int Tryz.underlying3 t1
  simp at e1 e2 e3 e4 e5 e6 e7
  subst e1 e2 e3 e4 e5 e6 e7
  exact ⟨(o1, o2, (o3, o4, o5), o6, o7), rfl⟩

set_option maxRecDepth 100000 in
/-- an operation that came in -/
theorem open_op {H : Type} {enc : TypeId × Value → H} {w : World} {r : Reach} {b0 base : Nat} {spare : Nat → Bool} {held : Bool} {v : Value} {d : DataW H} {p : List MemPlace}
    (hv : Value.okWide Tryz.prog w r b0 29 v) (h : DataW.Trod enc Tryz.prog w base spare held 29 v d p) : ∃ o : Mv, v = opV o := by
  obtain ⟨cs, rfl, hsz⟩ := okWide_struct Tryz.underlying29 hv
  obtain ⟨fuel, hf⟩ := h
  obtain ⟨o, ho⟩ := open_opC hf
  refine ⟨o, ?_⟩
  have : cs = (opC o).toArray := by rw [← ho]; simp [Value.cells]
  rw [this]
  rfl

end Go.Proofs.YtmlodnamknielacGreatDoor

/- Slices of operations and histories that came in as arguments, and what they weigh. -/
namespace Go.Proofs.YtmlodnamknielacGreatDoor
open Go.ChangeShapes Go.WideShapes Go.ChangeAt Go.RowKit
open Orangery (Pl Mv Stp)

/-- a slice of such elements that came in, with what it weighs -/
theorem open_slW {α : Type} [Inhabited α] {enc : α → List Value} {k : Nat} {H : Type} {en : TypeId × Value → H} {w : World} {base fuel : Nat} {spare : Nat → Bool} {held : Bool} {v : Value} {x : DataW H × List MemPlace} {t e : TypeId}
    (hk : ∀ x, (enc x).length = k) (hpos : 0 < k) (ht : Tryz.prog.underlying t = some (.slice e)) (hC : Tryz.prog.cellsOf e = k)
    (hel : ∀ (n : Nat) (cs : List Value) (y : DataW H × List MemPlace), DataW.trod en Tryz.prog w base spare held n e cs = some y → ∃ z : α, cs = enc z)
    (h : DataW.trod en Tryz.prog w base spare held fuel t [v] = some x) : ∃ a c, ∃ l : List α, v = .slice a l.length c ∧ l.length ≤ maxLen ∧ l.length ≤ c ∧ (c ≤ maxLen ∧ (a = none → c = 0)) ∧ SlE enc w a l ∧ (l = [] ∨ ∃ m, l.length ≤ m ∧ m * Tryz.prog.bytesOf e ∈ x.1.weights Tryz.prog t) := by
  rcases Go.Deep.open_slice ht h with ⟨hcs, _⟩ | ⟨a, len, cap, m, n, D, Pq, hcs, _, hle, hm, hmm, hxx, hx⟩
  · simp at hcs
    subst hcs
    exact ⟨none, 0, [], rfl, by simp, by simp, ⟨by simp, fun _ => rfl⟩, Or.inl rfl, Or.inl rfl⟩
  · simp at hcs
    subst hcs
    have hlm : len ≤ m := by rw [hmm]; split <;> omega
    have key : ∀ i, i < len → ∃ z : α, ∀ (j : Nat) (v : Value), (enc z)[j]? = some v → w.cell? ((a.add (i * k)).add j) = some v := by
      intro i hi
      obtain ⟨cs', h1, h2⟩ := hx i (by omega)
      rw [hC] at h1
      obtain ⟨z, rfl⟩ := hel _ _ _ h2
      exact ⟨z, (cells_range h1).2⟩
    obtain ⟨f, hf⟩ := Go.Deep.choose_lt key
    refine ⟨some a, cap, (List.range len).map f, by simp, by simp; omega, by simp; omega, ⟨hm, fun e => by simp at e⟩, ?_, Or.inr ⟨m, by simpa using hlm, ?_⟩⟩
    · by_cases hz : len = 0
      · exact Or.inl (by simp [hz])
      · right
        obtain ⟨u, hu⟩ : ∃ u, (enc (f 0))[0]? = some u := ⟨_, List.getElem?_eq_getElem (by rw [hk]; exact hpos)⟩
        have h0 := hf 0 (by omega) 0 u hu
        obtain ⟨b, off, spot⟩ := a
        have hspot : spot = none := by simpa [Addr.add] using World.cell?_spot h0
        subst hspot
        have hb : b < w.heap.size := by
          have := World.block_lt_of_cell? w _ h0
          rw [Addr.add_mid, Addr.add_mid] at this
          exact this
        refine ⟨b, off, rfl, hb, fun j v hv => ?_⟩
        have hj : j < len * k := by
          have := (List.getElem?_eq_some_iff.1 hv).1
          rw [flatE_len hk] at this
          simpa using this
        have hi : j / k < len := (Nat.div_lt_iff_lt_mul hpos).2 hj
        have hc : j % k < k := Nat.mod_lt _ hpos
        have e1 : j / k * k + j % k = j := by rw [Nat.mul_comm]; exact Nat.div_add_mod j k
        have e2 := flatE_get hk ((List.range len).map f) (j / k) (by simpa using hi) (j % k) hc
        rw [e1, hv] at e2
        have e3 := hf (j / k) hi (j % k) v (by simpa using e2.symm)
        rw [Addr.add_mid, Addr.add_mid] at e3
        rw [show off + j = off + j / k * k + j % k by omega]
        exact e3
    · subst hxx
      simp only [DataW.weights, ht]
      have e : ((List.range len).map D).length + ((List.range (m - len)).map fun j => D (len + j)).length = m := by simp; omega
      rw [e]
      exact List.mem_cons_self

end Go.Proofs.YtmlodnamknielacGreatDoor

