/- any client shows what it did: the node that it moved last stands there, if it made no ring; with nothing pending just what it knows -/
import Derived.Test.YtijjiccgpobjmaeGreatP04
import Derived.Test.YtijjiccgpobjmaeGreatP01
import Derived.Test.YtijjiccgpobjmaeGreatP19
import Derived.Test.YtijjiccgpobjmaeGreatP25
import Derived.Test.YtijjiccgpobjmaeGreatP26
/- orangerylaw.at: a number brought within bounds. -/
namespace Go.Proofs.YtijjiccgpobjmaeGreat
open Go.ChangeShapes Go.WideShapes Go.ChangeAt Go.RowKit
open Orangery (atI)

set_option maxHeartbeats 400000 in
theorem at_any (w : World) (k n : Int) (hn : 0 < n) (hn2 : n ≤ 4611686018427387904) :
    Calls Tryz.prog 22 #[.int .i64 k, .int .i64 n] w fun e w' => e = .returned (.int .i64 (atI k n)) ∧ w' = w := by
  obtain ⟨⟨h1, h2⟩, hat⟩ := Orangery.tmod_at k n hn
  have HA : Hid (atI k n = if k.tmod n < 0 then k.tmod n + n else k.tmod n) := hat
  have hnz : (n == 0) = false := by simp; omega
  clear hat
  by_cases hneg : k.tmod n < 0
  · go_enter Tryz.func22, Tryz.ntmps22
    go_wp2
    go_ret
    exact ⟨ret_int (by rw [HA.out, if_pos hneg]), rfl⟩
  · go_enter Tryz.func22, Tryz.ntmps22
    go_wp2
    go_ret
    exact ⟨ret_int (by rw [HA.out, if_neg (by omega)]), rfl⟩

end Go.Proofs.YtijjiccgpobjmaeGreat

/- orangerylaw.ClientShows: the walk. -/
namespace Go.Proofs.YtijjiccgpobjmaeGreat
open Go.ChangeShapes Go.WideShapes Go.ChangeAt Go.RowKit
open Orangery (Pl Mv Vw Cl clE movE movC movP movO showT shown check find underB doT)

set_option maxHeartbeats 16000000 in
set_option maxRecDepth 100000 in
theorem clientShows_any (w : World) (x : Cm) (mm n p nm : Int) (hx : ClIn w x) :
    Calls Tryz.prog 6 #[x.val, .int .i64 mm, .int .i64 n, .int .i64 p, .int .i64 nm] w fun e w' => e = .returned (.bool true) ∧ Below w.heap.size w w' := by
  obtain ⟨me, hme⟩ : ∃ z, z = Orangery.atI mm 3 := ⟨_, rfl⟩
  have HME := Lib.hid hme
  clear hme
  have CS := Lib.hid (fun W h => cshown_any W x me h)
  have CM := Lib.hid (fun W h => cmove_any W x me n p nm h)
  obtain ⟨⟨⟨f, t, s, v⟩, P, R, K, V⟩, ⟨aP, cP⟩, ⟨aR, cR⟩, ⟨aK, cK⟩, ⟨aV, cV⟩⟩ := x
  show Calls Tryz.prog _ #[.agg #[Value.int .i64 f, .int .i64 t, .int .i64 s, .slice aP P.length cP, .int .i64 v, .slice aR R.length cR, .slice aK K.length cK, .slice aV V.length cV], .int .i64 mm, .int .i64 n, .int .i64 p, .int .i64 nm] w _
  obtain ⟨W0, hW, hN, hB, -⟩ := laid1 w [Value.int .i64 f, .int .i64 t, .int .i64 s, .slice aP P.length cP, .int .i64 v, .slice aR R.length cR, .slice aK K.length cK, .slice aV V.length cV] 28
  have HX := Lib.hid hx
  have HB := Lib.hid hB
  have HN := Lib.hid hN
  have HRG := Lib.hid hN.range
  clear hx hB hN
  go_enter Tryz.func6, Tryz.ntmps6
  go_wp2_with fail
  clear hW
  refine (at_any W0 mm 3 (by decide) (by decide)).mono ?_
  rintro e w9 ⟨rfl, rfl⟩
  rw [← HME.out]
  go_wp2_with (first | (refine wpList_load_mid rfl 28 _ rfl w.heap.size 0 rfl [Value.int .i64 f, .int .i64 t, .int .i64 s, .slice aP P.length cP, .int .i64 v, .slice aR R.length cR, .slice aK K.length cK, .slice aV V.length cV] _ HRG.out Tryz.underlying28 rfl sizeClient ?_) | fail)
  refine (CS.out _ (HX.out.keep HB.out)).mono ?_
  rintro e w1 ⟨aS, cS, rfl, hS, hb1⟩
  obtain ⟨S, hSS⟩ : ∃ S, S = showT ((f, t, s, v), P, R, K, V) me := ⟨_, rfl⟩
  obtain ⟨E, hE⟩ : ∃ E, E = clE ((f, t, s, v), P, R, K, V) me := ⟨_, rfl⟩
  simp only at hS ⊢
  rw [← hSS] at hS ⊢
  rw [← hE]
  obtain ⟨W2, hW2, hT2, hb2, -⟩ := laid1 w1 [Value.slice aS S.length cS] 37
  have hb02 := hb1.trans (hb2.mono hb1.size)
  have HN2 := Lib.hid (HN.out.keep hb02)
  have HB2 := Lib.hid (HB.out.trans (hb02.mono HB.out.size))
  have HT2 := Lib.hid hT2
  have HS2 := Lib.hid (hS.below hb2)
  have HSS := Lib.hid hSS
  have HE := Lib.hid hE
  clear hS hb1 hb2 hb02 hT2 hSS hE HN HB HRG HME
  go_wp2_with fail
  clear hW2
  refine (lives_any W2).mono ?_
  rintro e w3 ⟨rfl, hb3⟩
  have HN3 := Lib.hid (HN2.out.keep hb3)
  have HB3 := Lib.hid (HB2.out.trans (hb3.mono HB2.out.size))
  have HT3 := Lib.hid (HT2.out.keep hb3)
  have HS3 := Lib.hid (HS2.out.below hb3)
  clear hb3 HN2 HB2 HT2 HS2
  by_cases hz : E = 0
  case neg =>
    have d1 : (E != 0) = true := by simpa using hz
    clear hz HN3 HT3 HS3 HSS HE CM CS
    go_wp2_with fail
    refine (lives_any w3).mono ?_
    rintro e w4 ⟨rfl, hb4⟩
    have HB4 := Lib.hid (HB3.out.trans (hb4.mono HB3.out.size))
    clear hb4
    go_wp2
    go_ret
    exact ⟨rfl, HB4.out⟩
  have hcl : clE ((f, t, s, v), P, R, K, V) me = 0 := by rw [← HE.out]; exact hz
  have HCL := Lib.hid hcl
  have HSH : Hid (S = shown ((f, t, s, v), P, R, K, V)) := by show _ = _; rw [HSS.out]; exact if_neg (by rw [hcl]; simp)
  have HCK : Hid (check S = 0) := by show _ = _; rw [HSH.out]; exact Orangery.shown_check hcl
  have HLS := Lib.hid (Orangery.check_len _ HCK.out)
  have HNO : Hid (P = [] → S.length = K.length + V.length) := by intro h; rw [HSH.out]; exact Orangery.shown_none hcl h
  have HFEW := Lib.hid (cl_few hcl)
  rw [hz]
  clear hz hcl HSS HE
  have hck := check_any w3 aS cS S (by have := HLS.out; unfold maxLen; omega) HS3.out
  rw [HCK.out] at hck
  have HCH := Lib.hid hck
  have tt := HT3.out.at 0 rfl
  clear hck
  go_wp2_with fail
  refine HCH.out.mono ?_
  rintro e w4 ⟨rfl, hb4⟩
  have HN4 := Lib.hid (HN3.out.keep hb4)
  have HB4 := Lib.hid (HB3.out.trans (hb4.mono HB3.out.size))
  have HT4 := Lib.hid (HT3.out.keep hb4)
  have HS4 := Lib.hid (HS3.out.below hb4)
  clear hb4 tt HN3 HB3 HT3 HS3 HCH
  have x3 := HN4.out.at 3 rfl
  have x6 := HN4.out.at 6 rfl
  have x7 := HN4.out.at 7 rfl
  have tt := HT4.out.at 0 rfl
  have HRG := Lib.hid HN4.out.range
  have C2 := Lib.hid (CM.out w4 (HX.out.keep HB4.out))
  have hf := HFEW.out
  simp only [ClFew] at hf
  have ha : wrap64 ((K.length : Int) + (V.length : Int)) = ((K.length + V.length : Nat) : Int) := by unfold wrap64; omega
  -- the two ways to the move meet
  by_cases hp : P.length = 0
  · have d1 : ((P.length : Int) == 0) = true := by simp [hp]
    have hS4 : S.length = K.length + V.length := HNO.out (List.length_eq_zero_iff.1 hp)
    have d2 : ((S.length : Int) != ((K.length + V.length : Nat) : Int)) = false := by rw [hS4]; simp
    clear hp hS4 HNO hf
    go_wp2_with (first | (refine wpList_load_mid rfl 28 _ rfl w.heap.size 0 rfl [Value.int .i64 f, .int .i64 t, .int .i64 s, .slice aP P.length cP, .int .i64 v, .slice aR R.length cR, .slice aK K.length cK, .slice aV V.length cV] _ HRG.out Tryz.underlying28 rfl sizeClient ?_) | fail)
    refine C2.out.mono ?_
    rintro e w5 ⟨⟨⟨⟨f1, t1, s1, v1⟩, P1, R1, K1, V1⟩, ⟨p1, q1⟩, ⟨r1, k1⟩, ⟨l1, m1⟩, ⟨n1, z1⟩⟩, rfl, hz1, hi1, -, hb5⟩
    obtain ⟨E2, hE2⟩ : ∃ E, E = movE ((f, t, s, v), P, R, K, V) me n p nm := ⟨_, rfl⟩
    obtain ⟨⟨o1, o2, ⟨o3, o4, o5⟩, o6, o7⟩, ho⟩ : ∃ o : Mv, o = movP ((f, t, s, v), P, R, K, V) me n p nm := ⟨_, rfl⟩
    try simp only at hz1 ⊢
    rw [← hE2, ← ho]
    rw [show Cm.val (((f1, t1, s1, v1), P1, R1, K1, V1), (p1, q1), (r1, k1), (l1, m1), (n1, z1)) = Value.agg #[Value.int .i64 f1, .int .i64 t1, .int .i64 s1, .slice p1 P1.length q1, .int .i64 v1, .slice r1 R1.length k1, .slice l1 K1.length m1, .slice n1 V1.length z1] from rfl]
    obtain ⟨V6, hV6, hA0, hP0, hb0, -⟩ := laid2 w5 [Value.int .i64 0, .int .i64 0, .int .i64 0, .slice none 0 0, .int .i64 0, .slice none 0 0, .slice none 0 0, .slice none 0 0] 28 [Value.int .i64 0, .int .i64 0, .int .i64 0, .int .i64 0, .int .i64 0, .int .i64 0, .int .i64 0] 32
    have hA6 : Blk ((V6.setCells w5.heap.size 0 (#[Value.int .i64 f1, .int .i64 t1, .int .i64 s1, .slice p1 P1.length q1, .int .i64 v1, .slice r1 R1.length k1, .slice l1 K1.length m1, .slice n1 V1.length z1] : Array Value).toList).setCells (w5.heap.size + 1) 0 (#[Value.int .i64 o1, .int .i64 o2, .int .i64 o3, .int .i64 o4, .int .i64 o5, .int .i64 o6, .int .i64 o7] : Array Value).toList) w5.heap.size [Value.int .i64 f1, .int .i64 t1, .int .i64 s1, .slice p1 P1.length q1, .int .i64 v1, .slice r1 R1.length k1, .slice l1 K1.length m1, .slice n1 V1.length z1] := (hA0.sets [Value.int .i64 f1, .int .i64 t1, .int .i64 s1, .slice p1 P1.length q1, .int .i64 v1, .slice r1 R1.length k1, .slice l1 K1.length m1, .slice n1 V1.length z1] rfl).others (by omega) [Value.int .i64 o1, .int .i64 o2, .int .i64 o3, .int .i64 o4, .int .i64 o5, .int .i64 o6, .int .i64 o7] 0
    have hP6' : Blk (V6.setCells w5.heap.size 0 (#[Value.int .i64 f1, .int .i64 t1, .int .i64 s1, .slice p1 P1.length q1, .int .i64 v1, .slice r1 R1.length k1, .slice l1 K1.length m1, .slice n1 V1.length z1] : Array Value).toList) (w5.heap.size + 1) [Value.int .i64 0, .int .i64 0, .int .i64 0, .int .i64 0, .int .i64 0, .int .i64 0, .int .i64 0] := hP0.others (by omega) [Value.int .i64 f1, .int .i64 t1, .int .i64 s1, .slice p1 P1.length q1, .int .i64 v1, .slice r1 R1.length k1, .slice l1 K1.length m1, .slice n1 V1.length z1] 0
    have hP6 : Blk ((V6.setCells w5.heap.size 0 (#[Value.int .i64 f1, .int .i64 t1, .int .i64 s1, .slice p1 P1.length q1, .int .i64 v1, .slice r1 R1.length k1, .slice l1 K1.length m1, .slice n1 V1.length z1] : Array Value).toList).setCells (w5.heap.size + 1) 0 (#[Value.int .i64 o1, .int .i64 o2, .int .i64 o3, .int .i64 o4, .int .i64 o5, .int .i64 o6, .int .i64 o7] : Array Value).toList) (w5.heap.size + 1) [Value.int .i64 o1, .int .i64 o2, .int .i64 o3, .int .i64 o4, .int .i64 o5, .int .i64 o6, .int .i64 o7] := hP6'.sets [Value.int .i64 o1, .int .i64 o2, .int .i64 o3, .int .i64 o4, .int .i64 o5, .int .i64 o6, .int .i64 o7] rfl
    have hb6 : Below w5.heap.size w5 ((V6.setCells w5.heap.size 0 (#[Value.int .i64 f1, .int .i64 t1, .int .i64 s1, .slice p1 P1.length q1, .int .i64 v1, .slice r1 R1.length k1, .slice l1 K1.length m1, .slice n1 V1.length z1] : Array Value).toList).setCells (w5.heap.size + 1) 0 (#[Value.int .i64 o1, .int .i64 o2, .int .i64 o3, .int .i64 o4, .int .i64 o5, .int .i64 o6, .int .i64 o7] : Array Value).toList) := below_sets (below_sets hb0 w5.heap.size (Nat.le_refl _) [Value.int .i64 f1, .int .i64 t1, .int .i64 s1, .slice p1 P1.length q1, .int .i64 v1, .slice r1 R1.length k1, .slice l1 K1.length m1, .slice n1 V1.length z1] 0) (w5.heap.size + 1) (by omega) [Value.int .i64 o1, .int .i64 o2, .int .i64 o3, .int .i64 o4, .int .i64 o5, .int .i64 o6, .int .i64 o7] 0
    have HT1 := Lib.hid hA0.there
    have HT2 := Lib.hid hP6'.there
    have OC1 := Lib.hid (all_oneCell_toArray (cs := [Value.int .i64 f1, .int .i64 t1, .int .i64 s1, .slice p1 P1.length q1, .int .i64 v1, .slice r1 R1.length k1, .slice l1 K1.length m1, .slice n1 V1.length z1]) (by intro u hu; simp at hu; rcases hu with rfl | rfl | rfl | rfl | rfl | rfl | rfl | rfl <;> rfl))
    have OC2 := Lib.hid (all_oneCell_toArray (cs := [Value.int .i64 o1, .int .i64 o2, .int .i64 o3, .int .i64 o4, .int .i64 o5, .int .i64 o6, .int .i64 o7]) (opC_one (o1, o2, (o3, o4, o5), o6, o7)))
    clear hA0 hP0 hb0 hP6'
    have hb46 := hb5.trans (hb6.mono hb5.size)
    have HN6 := Lib.hid (HN4.out.keep hb46)
    have HB6 := Lib.hid (HB4.out.trans (hb46.mono HB4.out.size))
    have HT6 := Lib.hid (HT4.out.keep hb46)
    have HS6 := Lib.hid (HS4.out.below hb46)
    have HA6 := Lib.hid hA6
    have HP6 := Lib.hid hP6
    have HI6 := Lib.hid (hi1.keep hb6)
    have HZ1 := Lib.hid hz1
    have HE2 := Lib.hid hE2
    have HO := Lib.hid ho
    clear hz1 hi1 hb5 hb6 hb46 hA6 hP6 hE2 ho HN4 HB4 HT4 HS4 C2 HRG
    by_cases he : E2 = 0
    case neg =>
      have d9 : (E2 != 0) = true := by simpa using he
      clear he
      go_wp2_with (first | ((with_reducible refine at_store 28 ?_); refine wpList_store_mid rfl 28 (Operand.tmp 13) (Operand.tmp 64) rfl w5.heap.size 0 #[Value.int .i64 f1, .int .i64 t1, .int .i64 s1, .slice p1 P1.length q1, .int .i64 v1, .slice r1 R1.length k1, .slice l1 K1.length m1, .slice n1 V1.length z1] rfl rfl HT1.out sizeClient OC1.out ?_) | ((with_reducible refine at_store 32 ?_); refine wpList_store_mid rfl 32 (Operand.tmp 14) (Operand.tmp 65) rfl (w5.heap.size + 1) 0 #[Value.int .i64 o1, .int .i64 o2, .int .i64 o3, .int .i64 o4, .int .i64 o5, .int .i64 o6, .int .i64 o7] rfl rfl HT2.out sizeOp OC2.out ?_) | fail)
      go_ret
      exact ⟨rfl, HB6.out⟩
    have hm0 : movE ((f, t, s, v), P, R, K, V) me n p nm = 0 := by rw [← HE2.out]; exact he
    have hy1 : ((f1, t1, s1, v1), P1, R1, K1, V1) = movC ((f, t, s, v), P, R, K, V) me n p nm := HZ1.out
    obtain ⟨ms1, ms2, ms3⟩ := Orangery.moved_shown hm0
    have HOK : Hid (clE ((f1, t1, s1, v1), P1, R1, K1, V1) me = 0) := by show _ = _; rw [hy1]; exact Orangery.moved_ok hm0
    have hov : (o1, o2, (o3, o4, o5), o6, o7) = movO ((f, t, s, v), P, R, K, V) me n p nm := by rw [HO.out]; exact if_neg (by rw [hm0]; simp)
    rw [← hy1] at ms1 ms2
    rw [← hov] at ms1 ms3
    have hnn : o3 = n ∧ o4 = p ∧ o5 = nm := by unfold movO at hov; simp only [Prod.mk.injEq] at hov; exact ⟨hov.2.2.1.1, hov.2.2.1.2.1, hov.2.2.1.2.2⟩
    obtain ⟨rfl, rfl, rfl⟩ := hnn
    have hstand : underB S o4 o3 = false → find (shown ((f1, t1, s1, v1), P1, R1, K1, V1)) o3 = (o3, o4, o5) := by
      intro h
      rw [hy1]
      exact Orangery.moved_stands hm0 (by rw [← HSH.out]; exact h)
    have hring : underB S o4 o3 = true → shown ((f1, t1, s1, v1), P1, R1, K1, V1) = S := by
      intro h
      rw [hy1, HSH.out]
      exact Orangery.moved_ring hm0 (by rw [← HSH.out]; exact h)
    have hco : Orangery.checkOp (o1, o2, (o3, o4, o5), o6, o7) = 0 := by rw [hov]; exact (Orangery.move_zero hm0).2.2.2
    have hpl : P1.length = P.length + 1 := ms2
    have HPL := Lib.hid hpl
    have HST := Lib.hid hstand
    have HRI := Lib.hid hring
    have HCO := Lib.hid hco
    rw [he]
    clear he hm0 hy1 ms1 ms2 ms3 hov hstand hring hco hpl HZ1 HE2 HO CM
    have hsh := cshown_any ((V6.setCells w5.heap.size 0 (#[Value.int .i64 f1, .int .i64 t1, .int .i64 s1, .slice p1 P1.length q1, .int .i64 v1, .slice r1 R1.length k1, .slice l1 K1.length m1, .slice n1 V1.length z1] : Array Value).toList).setCells (w5.heap.size + 1) 0 (#[Value.int .i64 o1, .int .i64 o2, .int .i64 o3, .int .i64 o4, .int .i64 o5, .int .i64 o6, .int .i64 o7] : Array Value).toList) (((f1, t1, s1, v1), P1, R1, K1, V1), (p1, q1), (r1, k1), (l1, m1), (n1, z1)) me HI6.out
    obtain ⟨U, hU⟩ : ∃ U, U = showT ((f1, t1, s1, v1), P1, R1, K1, V1) me := ⟨_, rfl⟩
    have hUS : U = shown ((f1, t1, s1, v1), P1, R1, K1, V1) := by rw [hU]; exact if_neg (by rw [HOK.out]; simp)
    rw [show showT ((((f1, t1, s1, v1), P1, R1, K1, V1), (p1, q1), (r1, k1), (l1, m1), (n1, z1)) : Cm).1 me = U from hU.symm, show clE ((((f1, t1, s1, v1), P1, R1, K1, V1), (p1, q1), (r1, k1), (l1, m1), (n1, z1)) : Cm).1 me = 0 from HOK.out] at hsh
    have HSH1 := Lib.hid hsh
    have HUS := Lib.hid hUS
    have HRA := Lib.hid HA6.out.range
    clear hsh hU hUS
    go_wp2_with (first | ((with_reducible refine at_store 28 ?_); refine wpList_store_mid rfl 28 (Operand.tmp 13) (Operand.tmp 64) rfl w5.heap.size 0 #[Value.int .i64 f1, .int .i64 t1, .int .i64 s1, .slice p1 P1.length q1, .int .i64 v1, .slice r1 R1.length k1, .slice l1 K1.length m1, .slice n1 V1.length z1] rfl rfl HT1.out sizeClient OC1.out ?_) | ((with_reducible refine at_store 32 ?_); refine wpList_store_mid rfl 32 (Operand.tmp 14) (Operand.tmp 65) rfl (w5.heap.size + 1) 0 #[Value.int .i64 o1, .int .i64 o2, .int .i64 o3, .int .i64 o4, .int .i64 o5, .int .i64 o6, .int .i64 o7] rfl rfl HT2.out sizeOp OC2.out ?_) | (with_reducible refine at_loadU 28 ?_; refine Shut.out ?_) | fail)
    show wpList _ _ _ _ _ _
    generalize ((V6.setCells w5.heap.size 0 (#[Value.int .i64 f1, .int .i64 t1, .int .i64 s1, .slice p1 P1.length q1, .int .i64 v1, .slice r1 R1.length k1, .slice l1 K1.length m1, .slice n1 V1.length z1] : Array Value).toList).setCells (w5.heap.size + 1) 0 (#[Value.int .i64 o1, .int .i64 o2, .int .i64 o3, .int .i64 o4, .int .i64 o5, .int .i64 o6, .int .i64 o7] : Array Value).toList) = W6 at *
    clear hV6 HT1 HT2
    go_wp2_with (first | (refine wpList_load_mid rfl 28 _ rfl w5.heap.size 0 rfl [Value.int .i64 f1, .int .i64 t1, .int .i64 s1, .slice p1 P1.length q1, .int .i64 v1, .slice r1 R1.length k1, .slice l1 K1.length m1, .slice n1 V1.length z1] _ HRA.out Tryz.underlying28 rfl sizeClient ?_) | fail)
    refine HSH1.out.mono ?_
    rintro e w7 ⟨aU, cU, rfl, hU, hb7⟩
    obtain ⟨W8, hW8, hT8, hb8, -⟩ := laid1 w7 [Value.slice aU U.length cU] 37
    have hb78 := hb7.trans (hb8.mono hb7.size)
    have HN8 := Lib.hid (HN6.out.keep hb78)
    have HB8 := Lib.hid (HB6.out.trans (hb78.mono HB6.out.size))
    have HT8 := Lib.hid (HT6.out.keep hb78)
    have HS8 := Lib.hid (HS6.out.below hb78)
    have HA8 := Lib.hid (HA6.out.keep hb78)
    have HP8 := Lib.hid (HP6.out.keep hb78)
    have HU8 := Lib.hid (hU.below hb8)
    have HQ8 := Lib.hid hT8
    have hlu : U.length ≤ 15 := Orangery.check_len _ (by rw [HUS.out]; exact Orangery.shown_check HOK.out)
    have HLU := Lib.hid hlu
    have hin := Orangery.opOk_place (Orangery.checkOp_zero HCO.out)
    have HUE := Lib.hid (Orangery.underE_ok S o4 o3 HCK.out hin.2.2 hin.2.1).1
    clear hU hb7 hb8 hb78 hT8 HSH1 HRA HN6 HB6 HT6 HS6 HA6 HP6 HI6 hlu hin HCO HCL HCK CS
    have tt := HT8.out.at 0 rfl
    have p2 := HP8.out.at 2 rfl
    have p3 := HP8.out.at 3 rfl
    go_wp2_with fail
    clear hW8
    refine (under_any W8 aS cS S o4 o3 (by have := HLS.out; unfold maxLen; omega) HS8.out).mono ?_
    rintro e w9 ⟨rfl, hb9⟩
    rw [HUE.out]
    have HB9 := Lib.hid (HB8.out.trans (hb9.mono HB8.out.size))
    have HN9 := Lib.hid (HN8.out.keep hb9)
    have HT9 := Lib.hid (HT8.out.keep hb9)
    have HA9 := Lib.hid (HA8.out.keep hb9)
    have HP9 := Lib.hid (HP8.out.keep hb9)
    have HQ9 := Lib.hid (HQ8.out.keep hb9)
    have HS9 := Lib.hid (HS8.out.below hb9)
    have HU9 := Lib.hid (HU8.out.below hb9)
    clear hb9 tt p2 p3 HN8 HT8 HA8 HP8 HQ8 HS8 HU8 HB8 HUE
    have hf := HFEW.out
    simp only [ClFew] at hf
    have hw1 : wrap64 ((P.length : Int) + 1) = (P.length : Int) + 1 := by unfold wrap64; omega
    have d5 : ((P1.length : Int) != (P.length : Int) + 1) = false := by rw [HPL.out]; simp
    clear hf
    have q3 := HN9.out.at 3 rfl
    have a3 := HA9.out.at 3 rfl
    have t0 := HT9.out.at 0 rfl
    have u0 := HQ9.out.at 0 rfl
    by_cases hr : underB S o4 o3 = true
    · have huS : eqPls S U = true := by unfold eqPls; rw [HUS.out, HRI.out hr]; simp
      have HES := Lib.hid huS
      rw [hr]
      clear hr huS
      go_wp2_with fail
      refine (equal_pls w9 aS aU cS cU S U (by have := HLS.out; unfold maxLen; omega) HS9.out HU9.out).mono ?_
      rintro e w10 ⟨rfl, k, rfl⟩
      rw [HES.out]
      go_wp2
      go_ret
      exact ⟨rfl, HB9.out.trans (Go.Joins.below_draws _ _ k)⟩
    · have hr : underB S o4 o3 = false := by simpa using hr
      have hfu : find U o3 = (o3, o4, o5) := by rw [HUS.out]; exact HST.out hr
      have HFU := Lib.hid hfu
      rw [hr]
      clear hr hfu t0 u0 q3 a3
      have q3 := HN9.out.at 3 rfl
      have a3 := HA9.out.at 3 rfl
      go_upto_region 16 with fail
      clear q3 a3 hw1 d5 d1
      have hS' : Below w9.heap.size w9 w9.drew := (Below.refl _ w9).drew
      have heq := run_eql_pl
      have hgd := guard_pl
      refine wp_region_held_drew (S := fun w' => Below w9.heap.size w9 w') (by kernel_rfl) hS' (fun hHeld => ?_)
      clear hHeld
      refine take_yes 0 106 (v := ?_) rfl rfl (by kernel_rfl) (by kernel_rfl) (by kernel_rfl) (fun _ _ _ h => h) (by rfl) ?_ hS' ?_
      rotate_left 1
      · (intro w hSw; have cc := (HQ9.out.keep hSw).at 0 rfl; clear hSw; go_simp; try with_reducible rfl)
      simp only [Act.put, List.setIfInBounds_toArray, List.set_cons_succ, List.set_cons_zero]
      refine take_yes 1 107 (v := ?_) rfl rfl (by kernel_rfl) (by kernel_rfl) (by kernel_rfl) (fun _ _ _ h => h) (by rfl) ?_ hS' ?_
      rotate_left 1
      · (intro w hSw; (try dsimp only at hSw); go_simp; try with_reducible rfl)
      simp only [Act.put, List.setIfInBounds_toArray, List.set_cons_succ, List.set_cons_zero]
      refine take_yes 2 108 (v := ?_) rfl rfl (by kernel_rfl) (by kernel_rfl) (by kernel_rfl) (fun _ _ _ h => h) (by rfl) ?_ hS' ?_
      rotate_left 1
      · (intro w hSw; have cc := (HP9.out.keep hSw).at 2 rfl; clear hSw; go_simp; try with_reducible rfl)
      simp only [Act.put, List.setIfInBounds_toArray, List.set_cons_succ, List.set_cons_zero]
      refine take_yes 4 110 (v := ?_) rfl rfl (by kernel_rfl) (by kernel_rfl) (by kernel_rfl) (fun _ _ _ h => h) (by rfl) ?_ hS' ?_
      rotate_left 1
      · (intro w hSw; (try dsimp only at hSw); go_simp; try with_reducible rfl)
      simp only [Act.put, List.setIfInBounds_toArray, List.set_cons_succ, List.set_cons_zero]
      refine take_yes 5 111 (v := ?_) rfl rfl (by kernel_rfl) (by kernel_rfl) (by kernel_rfl) (fun _ _ _ h => h) (by rfl) ?_ hS' ?_
      rotate_left 1
      · (intro w hSw; have cc := (HP9.out.keep hSw).at 2 rfl; clear hSw; go_simp; try with_reducible rfl)
      simp only [Act.put, List.setIfInBounds_toArray, List.set_cons_succ, List.set_cons_zero]
      refine take_yes 6 112 (v := ?_) rfl rfl (by kernel_rfl) (by kernel_rfl) (by kernel_rfl) (fun _ _ _ h => h) (by rfl) ?_ hS' ?_
      rotate_left 1
      · (intro w hSw; (try dsimp only at hSw); go_simp; try with_reducible rfl)
      simp only [Act.put, List.setIfInBounds_toArray, List.set_cons_succ, List.set_cons_zero]
      refine take_yes 7 113 (v := ?_) rfl rfl (by kernel_rfl) (by kernel_rfl) (by kernel_rfl) (fun _ _ _ h => h) (by rfl) ?_ hS' ?_
      rotate_left 1
      · (intro w hSw; have cc := (HP9.out.keep hSw).at 3 rfl; clear hSw; go_simp; try with_reducible rfl)
      simp only [Act.put, List.setIfInBounds_toArray, List.set_cons_succ, List.set_cons_zero]
      refine take_yes 8 114 (v := ?_) rfl rfl (by kernel_rfl) (by kernel_rfl) (by kernel_rfl) (fun _ _ _ h => h) (by rfl) ?_ hS' ?_
      rotate_left 1
      · (intro w hSw; (try dsimp only at hSw); go_simp; try with_reducible rfl)
      simp only [Act.put, List.setIfInBounds_toArray, List.set_cons_succ, List.set_cons_zero]
      refine take_yes 9 115 (v := ?_) rfl rfl (by kernel_rfl) (by kernel_rfl) (by kernel_rfl) (fun _ _ _ h => h) (by rfl) ?_ hS' ?_
      rotate_left 1
      · (intro w hSw; have cc := (HP9.out.keep hSw).at 4 rfl; clear hSw; go_simp; try with_reducible rfl)
      simp only [Act.put, List.setIfInBounds_toArray, List.set_cons_succ, List.set_cons_zero]
      refine take_yes 10 116 (v := ?_) rfl rfl (by kernel_rfl) (by kernel_rfl) (by kernel_rfl) (fun _ _ _ h => h) (by rfl) ?_ hS' ?_
      rotate_left 1
      · (intro w hSw; (try dsimp only at hSw); go_simp; try with_reducible rfl)
      simp only [Act.put, List.setIfInBounds_toArray, List.set_cons_succ, List.set_cons_zero]
      refine wpAnyH_ready (rs := [3]) (by kernel_rfl) (by simp) ?_
      refine AllReadyH.cons rfl (fun K hK => ?_) AllReadyH.nil
      go_simp
      refine (find_any _ aU cU U o3 (by have := HLU.out; unfold maxLen; omega) (HU9.out.below hS')).mono ?_
      rintro e wn ⟨rfl, hb⟩
      rw [HFU.out]
      simp only [plV]
      have hS' : Below w9.heap.size w9 wn := Below.trans hS' (hb.mono (Below.size hS'))
      go_wp2_with fail
      refine hK.out _ _ ?_ (fun hHeld => ?_)
      · (try dsimp only); exact hS'
      clear hK K hHeld
      refine take_yes 11 117 (v := ?_) rfl rfl (by kernel_rfl) (by kernel_rfl) (by kernel_rfl) (fun _ _ _ h => h) (by rfl) ?_ hS' ?_
      rotate_left 1
      · (intro w hSw; (try dsimp only at hSw); go_simp; try with_reducible rfl)
      simp only [Act.put, List.setIfInBounds_toArray, List.set_cons_succ, List.set_cons_zero]
      refine take_yes 12 10 (v := ?_) rfl rfl (by kernel_rfl) (by kernel_rfl) (by kernel_rfl) (fun _ _ _ h => h) (by rfl) ?_ hS' ?_
      rotate_left 1
      · (intro w hSw; (try dsimp only at hSw); go_simp; try with_reducible rfl)
      simp only [Act.put, List.setIfInBounds_toArray, List.set_cons_succ, List.set_cons_zero]
      refine wpAnyH_done (by kernel_rfl) ?_ _
      go_wp2
      go_ret
      exact ⟨by simp [eqPl], HB9.out.trans (hS'.mono HB9.out.size)⟩
  · have d1 : ((P.length : Int) == 0) = false := by simpa using hp
    clear hp HNO hf ha
    go_upto_region 7 with fail
    go_wp2_with (first | (refine wpList_load_mid rfl 28 _ rfl w.heap.size 0 rfl [Value.int .i64 f, .int .i64 t, .int .i64 s, .slice aP P.length cP, .int .i64 v, .slice aR R.length cR, .slice aK K.length cK, .slice aV V.length cV] _ HRG.out Tryz.underlying28 rfl sizeClient ?_) | fail)
    refine C2.out.mono ?_
    rintro e w5 ⟨⟨⟨⟨f1, t1, s1, v1⟩, P1, R1, K1, V1⟩, ⟨p1, q1⟩, ⟨r1, k1⟩, ⟨l1, m1⟩, ⟨n1, z1⟩⟩, rfl, hz1, hi1, -, hb5⟩
    obtain ⟨E2, hE2⟩ : ∃ E, E = movE ((f, t, s, v), P, R, K, V) me n p nm := ⟨_, rfl⟩
    obtain ⟨⟨o1, o2, ⟨o3, o4, o5⟩, o6, o7⟩, ho⟩ : ∃ o : Mv, o = movP ((f, t, s, v), P, R, K, V) me n p nm := ⟨_, rfl⟩
    try simp only at hz1 ⊢
    rw [← hE2, ← ho]
    rw [show Cm.val (((f1, t1, s1, v1), P1, R1, K1, V1), (p1, q1), (r1, k1), (l1, m1), (n1, z1)) = Value.agg #[Value.int .i64 f1, .int .i64 t1, .int .i64 s1, .slice p1 P1.length q1, .int .i64 v1, .slice r1 R1.length k1, .slice l1 K1.length m1, .slice n1 V1.length z1] from rfl]
    obtain ⟨V6, hV6, hA0, hP0, hb0, -⟩ := laid2 w5 [Value.int .i64 0, .int .i64 0, .int .i64 0, .slice none 0 0, .int .i64 0, .slice none 0 0, .slice none 0 0, .slice none 0 0] 28 [Value.int .i64 0, .int .i64 0, .int .i64 0, .int .i64 0, .int .i64 0, .int .i64 0, .int .i64 0] 32
    have hA6 : Blk ((V6.setCells w5.heap.size 0 (#[Value.int .i64 f1, .int .i64 t1, .int .i64 s1, .slice p1 P1.length q1, .int .i64 v1, .slice r1 R1.length k1, .slice l1 K1.length m1, .slice n1 V1.length z1] : Array Value).toList).setCells (w5.heap.size + 1) 0 (#[Value.int .i64 o1, .int .i64 o2, .int .i64 o3, .int .i64 o4, .int .i64 o5, .int .i64 o6, .int .i64 o7] : Array Value).toList) w5.heap.size [Value.int .i64 f1, .int .i64 t1, .int .i64 s1, .slice p1 P1.length q1, .int .i64 v1, .slice r1 R1.length k1, .slice l1 K1.length m1, .slice n1 V1.length z1] := (hA0.sets [Value.int .i64 f1, .int .i64 t1, .int .i64 s1, .slice p1 P1.length q1, .int .i64 v1, .slice r1 R1.length k1, .slice l1 K1.length m1, .slice n1 V1.length z1] rfl).others (by omega) [Value.int .i64 o1, .int .i64 o2, .int .i64 o3, .int .i64 o4, .int .i64 o5, .int .i64 o6, .int .i64 o7] 0
    have hP6' : Blk (V6.setCells w5.heap.size 0 (#[Value.int .i64 f1, .int .i64 t1, .int .i64 s1, .slice p1 P1.length q1, .int .i64 v1, .slice r1 R1.length k1, .slice l1 K1.length m1, .slice n1 V1.length z1] : Array Value).toList) (w5.heap.size + 1) [Value.int .i64 0, .int .i64 0, .int .i64 0, .int .i64 0, .int .i64 0, .int .i64 0, .int .i64 0] := hP0.others (by omega) [Value.int .i64 f1, .int .i64 t1, .int .i64 s1, .slice p1 P1.length q1, .int .i64 v1, .slice r1 R1.length k1, .slice l1 K1.length m1, .slice n1 V1.length z1] 0
    have hP6 : Blk ((V6.setCells w5.heap.size 0 (#[Value.int .i64 f1, .int .i64 t1, .int .i64 s1, .slice p1 P1.length q1, .int .i64 v1, .slice r1 R1.length k1, .slice l1 K1.length m1, .slice n1 V1.length z1] : Array Value).toList).setCells (w5.heap.size + 1) 0 (#[Value.int .i64 o1, .int .i64 o2, .int .i64 o3, .int .i64 o4, .int .i64 o5, .int .i64 o6, .int .i64 o7] : Array Value).toList) (w5.heap.size + 1) [Value.int .i64 o1, .int .i64 o2, .int .i64 o3, .int .i64 o4, .int .i64 o5, .int .i64 o6, .int .i64 o7] := hP6'.sets [Value.int .i64 o1, .int .i64 o2, .int .i64 o3, .int .i64 o4, .int .i64 o5, .int .i64 o6, .int .i64 o7] rfl
    have hb6 : Below w5.heap.size w5 ((V6.setCells w5.heap.size 0 (#[Value.int .i64 f1, .int .i64 t1, .int .i64 s1, .slice p1 P1.length q1, .int .i64 v1, .slice r1 R1.length k1, .slice l1 K1.length m1, .slice n1 V1.length z1] : Array Value).toList).setCells (w5.heap.size + 1) 0 (#[Value.int .i64 o1, .int .i64 o2, .int .i64 o3, .int .i64 o4, .int .i64 o5, .int .i64 o6, .int .i64 o7] : Array Value).toList) := below_sets (below_sets hb0 w5.heap.size (Nat.le_refl _) [Value.int .i64 f1, .int .i64 t1, .int .i64 s1, .slice p1 P1.length q1, .int .i64 v1, .slice r1 R1.length k1, .slice l1 K1.length m1, .slice n1 V1.length z1] 0) (w5.heap.size + 1) (by omega) [Value.int .i64 o1, .int .i64 o2, .int .i64 o3, .int .i64 o4, .int .i64 o5, .int .i64 o6, .int .i64 o7] 0
    have HT1 := Lib.hid hA0.there
    have HT2 := Lib.hid hP6'.there
    have OC1 := Lib.hid (all_oneCell_toArray (cs := [Value.int .i64 f1, .int .i64 t1, .int .i64 s1, .slice p1 P1.length q1, .int .i64 v1, .slice r1 R1.length k1, .slice l1 K1.length m1, .slice n1 V1.length z1]) (by intro u hu; simp at hu; rcases hu with rfl | rfl | rfl | rfl | rfl | rfl | rfl | rfl <;> rfl))
    have OC2 := Lib.hid (all_oneCell_toArray (cs := [Value.int .i64 o1, .int .i64 o2, .int .i64 o3, .int .i64 o4, .int .i64 o5, .int .i64 o6, .int .i64 o7]) (opC_one (o1, o2, (o3, o4, o5), o6, o7)))
    clear hA0 hP0 hb0 hP6'
    have hb46 := hb5.trans (hb6.mono hb5.size)
    have HN6 := Lib.hid (HN4.out.keep hb46)
    have HB6 := Lib.hid (HB4.out.trans (hb46.mono HB4.out.size))
    have HT6 := Lib.hid (HT4.out.keep hb46)
    have HS6 := Lib.hid (HS4.out.below hb46)
    have HA6 := Lib.hid hA6
    have HP6 := Lib.hid hP6
    have HI6 := Lib.hid (hi1.keep hb6)
    have HZ1 := Lib.hid hz1
    have HE2 := Lib.hid hE2
    have HO := Lib.hid ho
    clear hz1 hi1 hb5 hb6 hb46 hA6 hP6 hE2 ho HN4 HB4 HT4 HS4 C2 HRG
    by_cases he : E2 = 0
    case neg =>
      have d9 : (E2 != 0) = true := by simpa using he
      clear he
      go_wp2_with (first | ((with_reducible refine at_store 28 ?_); refine wpList_store_mid rfl 28 (Operand.tmp 13) (Operand.tmp 64) rfl w5.heap.size 0 #[Value.int .i64 f1, .int .i64 t1, .int .i64 s1, .slice p1 P1.length q1, .int .i64 v1, .slice r1 R1.length k1, .slice l1 K1.length m1, .slice n1 V1.length z1] rfl rfl HT1.out sizeClient OC1.out ?_) | ((with_reducible refine at_store 32 ?_); refine wpList_store_mid rfl 32 (Operand.tmp 14) (Operand.tmp 65) rfl (w5.heap.size + 1) 0 #[Value.int .i64 o1, .int .i64 o2, .int .i64 o3, .int .i64 o4, .int .i64 o5, .int .i64 o6, .int .i64 o7] rfl rfl HT2.out sizeOp OC2.out ?_) | fail)
      go_ret
      exact ⟨rfl, HB6.out⟩
    have hm0 : movE ((f, t, s, v), P, R, K, V) me n p nm = 0 := by rw [← HE2.out]; exact he
    have hy1 : ((f1, t1, s1, v1), P1, R1, K1, V1) = movC ((f, t, s, v), P, R, K, V) me n p nm := HZ1.out
    obtain ⟨ms1, ms2, ms3⟩ := Orangery.moved_shown hm0
    have HOK : Hid (clE ((f1, t1, s1, v1), P1, R1, K1, V1) me = 0) := by show _ = _; rw [hy1]; exact Orangery.moved_ok hm0
    have hov : (o1, o2, (o3, o4, o5), o6, o7) = movO ((f, t, s, v), P, R, K, V) me n p nm := by rw [HO.out]; exact if_neg (by rw [hm0]; simp)
    rw [← hy1] at ms1 ms2
    rw [← hov] at ms1 ms3
    have hnn : o3 = n ∧ o4 = p ∧ o5 = nm := by unfold movO at hov; simp only [Prod.mk.injEq] at hov; exact ⟨hov.2.2.1.1, hov.2.2.1.2.1, hov.2.2.1.2.2⟩
    obtain ⟨rfl, rfl, rfl⟩ := hnn
    have hstand : underB S o4 o3 = false → find (shown ((f1, t1, s1, v1), P1, R1, K1, V1)) o3 = (o3, o4, o5) := by
      intro h
      rw [hy1]
      exact Orangery.moved_stands hm0 (by rw [← HSH.out]; exact h)
    have hring : underB S o4 o3 = true → shown ((f1, t1, s1, v1), P1, R1, K1, V1) = S := by
      intro h
      rw [hy1, HSH.out]
      exact Orangery.moved_ring hm0 (by rw [← HSH.out]; exact h)
    have hco : Orangery.checkOp (o1, o2, (o3, o4, o5), o6, o7) = 0 := by rw [hov]; exact (Orangery.move_zero hm0).2.2.2
    have hpl : P1.length = P.length + 1 := ms2
    have HPL := Lib.hid hpl
    have HST := Lib.hid hstand
    have HRI := Lib.hid hring
    have HCO := Lib.hid hco
    rw [he]
    clear he hm0 hy1 ms1 ms2 ms3 hov hstand hring hco hpl HZ1 HE2 HO CM
    have hsh := cshown_any ((V6.setCells w5.heap.size 0 (#[Value.int .i64 f1, .int .i64 t1, .int .i64 s1, .slice p1 P1.length q1, .int .i64 v1, .slice r1 R1.length k1, .slice l1 K1.length m1, .slice n1 V1.length z1] : Array Value).toList).setCells (w5.heap.size + 1) 0 (#[Value.int .i64 o1, .int .i64 o2, .int .i64 o3, .int .i64 o4, .int .i64 o5, .int .i64 o6, .int .i64 o7] : Array Value).toList) (((f1, t1, s1, v1), P1, R1, K1, V1), (p1, q1), (r1, k1), (l1, m1), (n1, z1)) me HI6.out
    obtain ⟨U, hU⟩ : ∃ U, U = showT ((f1, t1, s1, v1), P1, R1, K1, V1) me := ⟨_, rfl⟩
    have hUS : U = shown ((f1, t1, s1, v1), P1, R1, K1, V1) := by rw [hU]; exact if_neg (by rw [HOK.out]; simp)
    rw [show showT ((((f1, t1, s1, v1), P1, R1, K1, V1), (p1, q1), (r1, k1), (l1, m1), (n1, z1)) : Cm).1 me = U from hU.symm, show clE ((((f1, t1, s1, v1), P1, R1, K1, V1), (p1, q1), (r1, k1), (l1, m1), (n1, z1)) : Cm).1 me = 0 from HOK.out] at hsh
    have HSH1 := Lib.hid hsh
    have HUS := Lib.hid hUS
    have HRA := Lib.hid HA6.out.range
    clear hsh hU hUS
    go_wp2_with (first | ((with_reducible refine at_store 28 ?_); refine wpList_store_mid rfl 28 (Operand.tmp 13) (Operand.tmp 64) rfl w5.heap.size 0 #[Value.int .i64 f1, .int .i64 t1, .int .i64 s1, .slice p1 P1.length q1, .int .i64 v1, .slice r1 R1.length k1, .slice l1 K1.length m1, .slice n1 V1.length z1] rfl rfl HT1.out sizeClient OC1.out ?_) | ((with_reducible refine at_store 32 ?_); refine wpList_store_mid rfl 32 (Operand.tmp 14) (Operand.tmp 65) rfl (w5.heap.size + 1) 0 #[Value.int .i64 o1, .int .i64 o2, .int .i64 o3, .int .i64 o4, .int .i64 o5, .int .i64 o6, .int .i64 o7] rfl rfl HT2.out sizeOp OC2.out ?_) | (with_reducible refine at_loadU 28 ?_; refine Shut.out ?_) | fail)
    show wpList _ _ _ _ _ _
    generalize ((V6.setCells w5.heap.size 0 (#[Value.int .i64 f1, .int .i64 t1, .int .i64 s1, .slice p1 P1.length q1, .int .i64 v1, .slice r1 R1.length k1, .slice l1 K1.length m1, .slice n1 V1.length z1] : Array Value).toList).setCells (w5.heap.size + 1) 0 (#[Value.int .i64 o1, .int .i64 o2, .int .i64 o3, .int .i64 o4, .int .i64 o5, .int .i64 o6, .int .i64 o7] : Array Value).toList) = W6 at *
    clear hV6 HT1 HT2
    go_wp2_with (first | (refine wpList_load_mid rfl 28 _ rfl w5.heap.size 0 rfl [Value.int .i64 f1, .int .i64 t1, .int .i64 s1, .slice p1 P1.length q1, .int .i64 v1, .slice r1 R1.length k1, .slice l1 K1.length m1, .slice n1 V1.length z1] _ HRA.out Tryz.underlying28 rfl sizeClient ?_) | fail)
    refine HSH1.out.mono ?_
    rintro e w7 ⟨aU, cU, rfl, hU, hb7⟩
    obtain ⟨W8, hW8, hT8, hb8, -⟩ := laid1 w7 [Value.slice aU U.length cU] 37
    have hb78 := hb7.trans (hb8.mono hb7.size)
    have HN8 := Lib.hid (HN6.out.keep hb78)
    have HB8 := Lib.hid (HB6.out.trans (hb78.mono HB6.out.size))
    have HT8 := Lib.hid (HT6.out.keep hb78)
    have HS8 := Lib.hid (HS6.out.below hb78)
    have HA8 := Lib.hid (HA6.out.keep hb78)
    have HP8 := Lib.hid (HP6.out.keep hb78)
    have HU8 := Lib.hid (hU.below hb8)
    have HQ8 := Lib.hid hT8
    have hlu : U.length ≤ 15 := Orangery.check_len _ (by rw [HUS.out]; exact Orangery.shown_check HOK.out)
    have HLU := Lib.hid hlu
    have hin := Orangery.opOk_place (Orangery.checkOp_zero HCO.out)
    have HUE := Lib.hid (Orangery.underE_ok S o4 o3 HCK.out hin.2.2 hin.2.1).1
    clear hU hb7 hb8 hb78 hT8 HSH1 HRA HN6 HB6 HT6 HS6 HA6 HP6 HI6 hlu hin HCO HCL HCK CS
    have tt := HT8.out.at 0 rfl
    have p2 := HP8.out.at 2 rfl
    have p3 := HP8.out.at 3 rfl
    go_wp2_with fail
    clear hW8
    refine (under_any W8 aS cS S o4 o3 (by have := HLS.out; unfold maxLen; omega) HS8.out).mono ?_
    rintro e w9 ⟨rfl, hb9⟩
    rw [HUE.out]
    have HB9 := Lib.hid (HB8.out.trans (hb9.mono HB8.out.size))
    have HN9 := Lib.hid (HN8.out.keep hb9)
    have HT9 := Lib.hid (HT8.out.keep hb9)
    have HA9 := Lib.hid (HA8.out.keep hb9)
    have HP9 := Lib.hid (HP8.out.keep hb9)
    have HQ9 := Lib.hid (HQ8.out.keep hb9)
    have HS9 := Lib.hid (HS8.out.below hb9)
    have HU9 := Lib.hid (HU8.out.below hb9)
    clear hb9 tt p2 p3 HN8 HT8 HA8 HP8 HQ8 HS8 HU8 HB8 HUE
    have hf := HFEW.out
    simp only [ClFew] at hf
    have hw1 : wrap64 ((P.length : Int) + 1) = (P.length : Int) + 1 := by unfold wrap64; omega
    have d5 : ((P1.length : Int) != (P.length : Int) + 1) = false := by rw [HPL.out]; simp
    clear hf
    have q3 := HN9.out.at 3 rfl
    have a3 := HA9.out.at 3 rfl
    have t0 := HT9.out.at 0 rfl
    have u0 := HQ9.out.at 0 rfl
    by_cases hr : underB S o4 o3 = true
    · have huS : eqPls S U = true := by unfold eqPls; rw [HUS.out, HRI.out hr]; simp
      have HES := Lib.hid huS
      rw [hr]
      clear hr huS
      go_wp2_with fail
      refine (equal_pls w9 aS aU cS cU S U (by have := HLS.out; unfold maxLen; omega) HS9.out HU9.out).mono ?_
      rintro e w10 ⟨rfl, k, rfl⟩
      rw [HES.out]
      go_wp2
      go_ret
      exact ⟨rfl, HB9.out.trans (Go.Joins.below_draws _ _ k)⟩
    · have hr : underB S o4 o3 = false := by simpa using hr
      have hfu : find U o3 = (o3, o4, o5) := by rw [HUS.out]; exact HST.out hr
      have HFU := Lib.hid hfu
      rw [hr]
      clear hr hfu t0 u0 q3 a3
      have q3 := HN9.out.at 3 rfl
      have a3 := HA9.out.at 3 rfl
      go_upto_region 16 with fail
      clear q3 a3 hw1 d5 d1
      have hS' : Below w9.heap.size w9 w9.drew := (Below.refl _ w9).drew
      have heq := run_eql_pl
      have hgd := guard_pl
      refine wp_region_held_drew (S := fun w' => Below w9.heap.size w9 w') (by kernel_rfl) hS' (fun hHeld => ?_)
      clear hHeld
      refine take_yes 0 106 (v := ?_) rfl rfl (by kernel_rfl) (by kernel_rfl) (by kernel_rfl) (fun _ _ _ h => h) (by rfl) ?_ hS' ?_
      rotate_left 1
      · (intro w hSw; have cc := (HQ9.out.keep hSw).at 0 rfl; clear hSw; go_simp; try with_reducible rfl)
      simp only [Act.put, List.setIfInBounds_toArray, List.set_cons_succ, List.set_cons_zero]
      refine take_yes 1 107 (v := ?_) rfl rfl (by kernel_rfl) (by kernel_rfl) (by kernel_rfl) (fun _ _ _ h => h) (by rfl) ?_ hS' ?_
      rotate_left 1
      · (intro w hSw; (try dsimp only at hSw); go_simp; try with_reducible rfl)
      simp only [Act.put, List.setIfInBounds_toArray, List.set_cons_succ, List.set_cons_zero]
      refine take_yes 2 108 (v := ?_) rfl rfl (by kernel_rfl) (by kernel_rfl) (by kernel_rfl) (fun _ _ _ h => h) (by rfl) ?_ hS' ?_
      rotate_left 1
      · (intro w hSw; have cc := (HP9.out.keep hSw).at 2 rfl; clear hSw; go_simp; try with_reducible rfl)
      simp only [Act.put, List.setIfInBounds_toArray, List.set_cons_succ, List.set_cons_zero]
      refine take_yes 4 110 (v := ?_) rfl rfl (by kernel_rfl) (by kernel_rfl) (by kernel_rfl) (fun _ _ _ h => h) (by rfl) ?_ hS' ?_
      rotate_left 1
      · (intro w hSw; (try dsimp only at hSw); go_simp; try with_reducible rfl)
      simp only [Act.put, List.setIfInBounds_toArray, List.set_cons_succ, List.set_cons_zero]
      refine take_yes 5 111 (v := ?_) rfl rfl (by kernel_rfl) (by kernel_rfl) (by kernel_rfl) (fun _ _ _ h => h) (by rfl) ?_ hS' ?_
      rotate_left 1
      · (intro w hSw; have cc := (HP9.out.keep hSw).at 2 rfl; clear hSw; go_simp; try with_reducible rfl)
      simp only [Act.put, List.setIfInBounds_toArray, List.set_cons_succ, List.set_cons_zero]
      refine take_yes 6 112 (v := ?_) rfl rfl (by kernel_rfl) (by kernel_rfl) (by kernel_rfl) (fun _ _ _ h => h) (by rfl) ?_ hS' ?_
      rotate_left 1
      · (intro w hSw; (try dsimp only at hSw); go_simp; try with_reducible rfl)
      simp only [Act.put, List.setIfInBounds_toArray, List.set_cons_succ, List.set_cons_zero]
      refine take_yes 7 113 (v := ?_) rfl rfl (by kernel_rfl) (by kernel_rfl) (by kernel_rfl) (fun _ _ _ h => h) (by rfl) ?_ hS' ?_
      rotate_left 1
      · (intro w hSw; have cc := (HP9.out.keep hSw).at 3 rfl; clear hSw; go_simp; try with_reducible rfl)
      simp only [Act.put, List.setIfInBounds_toArray, List.set_cons_succ, List.set_cons_zero]
      refine take_yes 8 114 (v := ?_) rfl rfl (by kernel_rfl) (by kernel_rfl) (by kernel_rfl) (fun _ _ _ h => h) (by rfl) ?_ hS' ?_
      rotate_left 1
      · (intro w hSw; (try dsimp only at hSw); go_simp; try with_reducible rfl)
      simp only [Act.put, List.setIfInBounds_toArray, List.set_cons_succ, List.set_cons_zero]
      refine take_yes 9 115 (v := ?_) rfl rfl (by kernel_rfl) (by kernel_rfl) (by kernel_rfl) (fun _ _ _ h => h) (by rfl) ?_ hS' ?_
      rotate_left 1
      · (intro w hSw; have cc := (HP9.out.keep hSw).at 4 rfl; clear hSw; go_simp; try with_reducible rfl)
      simp only [Act.put, List.setIfInBounds_toArray, List.set_cons_succ, List.set_cons_zero]
      refine take_yes 10 116 (v := ?_) rfl rfl (by kernel_rfl) (by kernel_rfl) (by kernel_rfl) (fun _ _ _ h => h) (by rfl) ?_ hS' ?_
      rotate_left 1
      · (intro w hSw; (try dsimp only at hSw); go_simp; try with_reducible rfl)
      simp only [Act.put, List.setIfInBounds_toArray, List.set_cons_succ, List.set_cons_zero]
      refine wpAnyH_ready (rs := [3]) (by kernel_rfl) (by simp) ?_
      refine AllReadyH.cons rfl (fun K hK => ?_) AllReadyH.nil
      go_simp
      refine (find_any _ aU cU U o3 (by have := HLU.out; unfold maxLen; omega) (HU9.out.below hS')).mono ?_
      rintro e wn ⟨rfl, hb⟩
      rw [HFU.out]
      simp only [plV]
      have hS' : Below w9.heap.size w9 wn := Below.trans hS' (hb.mono (Below.size hS'))
      go_wp2_with fail
      refine hK.out _ _ ?_ (fun hHeld => ?_)
      · (try dsimp only); exact hS'
      clear hK K hHeld
      refine take_yes 11 117 (v := ?_) rfl rfl (by kernel_rfl) (by kernel_rfl) (by kernel_rfl) (fun _ _ _ h => h) (by rfl) ?_ hS' ?_
      rotate_left 1
      · (intro w hSw; (try dsimp only at hSw); go_simp; try with_reducible rfl)
      simp only [Act.put, List.setIfInBounds_toArray, List.set_cons_succ, List.set_cons_zero]
      refine take_yes 12 10 (v := ?_) rfl rfl (by kernel_rfl) (by kernel_rfl) (by kernel_rfl) (fun _ _ _ h => h) (by rfl) ?_ hS' ?_
      rotate_left 1
      · (intro w hSw; (try dsimp only at hSw); go_simp; try with_reducible rfl)
      simp only [Act.put, List.setIfInBounds_toArray, List.set_cons_succ, List.set_cons_zero]
      refine wpAnyH_done (by kernel_rfl) ?_ _
      go_wp2
      go_ret
      exact ⟨by simp [eqPl], HB9.out.trans (hS'.mono HB9.out.size)⟩
end Go.Proofs.YtijjiccgpobjmaeGreat

/- any client shows what it did: the node that it moved last stands there, if it made no ring; with nothing pending just what it knows -/
namespace Go.Proofs.YtijjiccgpobjmaeGreat.clientShows
open Go.ChangeShapes Go.WideShapes Go.ChangeAt Go.RowKit
set_option linter.unusedVariables false

theorem own : ownKnob Tryz.prog.godebug = none := by kernel_rfl
theorem laidOut : laidOutB Tryz.prog = true := by kernel_rfl

set_option maxHeartbeats 2000000 in
set_option maxRecDepth 100000 in
theorem lifted (os : Os) (started : os.Started) (H : Type) (enc : TypeId × Value → H) :
    ReturnsInHanded {} Tryz.checked os 6 .any (Rows.clientShowsSpec.pre6 enc Tryz.prog Tryz.f6 Rows.clientShowsRow.domain false) (Rows.clientShowsSpec.post enc Tryz.prog Tryz.f6 false true false false) := by
  refine returnsInHanded_of_change_sized (C := Tryz.checked) own started (by kernel_rfl) Tryz.func6
    (ChangeSpec.witness6 (enc := enc) (C := Tryz.checked) false ⟨#[], #[.agg #[.int .i64 0, .int .i64 0, .int .i64 0, .slice none 0 0, .int .i64 0, .slice none 0 0, .slice none 0 0, .slice none 0 0], .int .i64 0, .int .i64 0, .int .i64 0, .int .i64 0], []⟩ 8 (by kernel_rfl) (by kernel_rfl) (by kernel_rfl) (by kernel_rfl)) ?_
  intro W base args ds gs before hval0 hW hcnd hsz0 _
  have hval : ∀ (j : Nat) t v, Tryz.f6.params[j]? = some t → args[j]? = some v → Value.okWide Tryz.prog W .any base t v := hval0
  have hW' := hW
  obtain ⟨p, q, hA0, hV, rfl, hfz, hnd⟩ := hW
  have hA : DataW.TrodAll enc Tryz.prog W 0 (fun _ => true) true Tryz.f6.params.toList args.toList ds p := hA0
  have hsz : (DataW.weightsEach Tryz.prog (Tryz.f6.params.toList ++ Rows.clientShowsSpec.plain.varTypes Tryz.prog) (ds ++ gs)).all (· ≤ reachBytes) = true := hsz0
  rw [Tryz.params6] at hA hval hsz
  obtain ⟨v0, vs0, d0, ds0, p0, q0, hargs, rfl, rfl, h0, r0⟩ := trodAll_cons hA
  obtain ⟨v1, vs1, d1, ds1, p1, q1, rfl, rfl, rfl, h1, r1⟩ := trodAll_cons r0
  obtain ⟨v2, vs2, d2, ds2, p2, q2, rfl, rfl, rfl, h2, r2⟩ := trodAll_cons r1
  obtain ⟨v3, vs3, d3, ds3, p3, q3, rfl, rfl, rfl, h3, r3⟩ := trodAll_cons r2
  obtain ⟨v4, vs4, d4, ds4, p4, q4, rfl, rfl, rfl, h4, r4⟩ := trodAll_cons r3
  obtain ⟨rfl, rfl, rfl⟩ := trodAll_nil r4
  obtain rfl : args = #[v0, v1, v2, v3, v4] := by cases args; simp_all
  obtain ⟨rfl, rfl⟩ := trodVars_none hV
  have k0 := h0
  have lt0 : ∀ x ∈ p0, x.block < W.heap.size := by obtain ⟨m, hm⟩ := k0; exact DataW.trod_lt m _ _ _ hm
  obtain ⟨x0, rfl, P0, N0, C0⟩ := open_client (hval 0 28 v0 rfl rfl) h0 (sized_at hsz (j := 0) rfl rfl)
  obtain ⟨x1, rfl, rfl, rfl, g1⟩ := open_int Tryz.underlying3 (hval 1 3 v1 rfl rfl) h1
  obtain ⟨x2, rfl, rfl, rfl, g2⟩ := open_int Tryz.underlying3 (hval 2 3 v2 rfl rfl) h2
  obtain ⟨x3, rfl, rfl, rfl, g3⟩ := open_int Tryz.underlying3 (hval 3 3 v3 rfl rfl) h3
  obtain ⟨x4, rfl, rfl, rfl, g4⟩ := open_int Tryz.underlying3 (hval 4 3 v4 rfl rfl) h4
  clear hA0 hval0
  refine (clientShows_any W x0 x1 x2 x3 x4 P0).mono fun e W' ⟨he, bel⟩ => ?_
  subst he
  exact ⟨_, rfl, _, _, _, [], _, [], hW', trodAll_mk1 (shut_bool Tryz.underlying4 _), (trodAll_cons_mk (Below.trod laidOut (by kernel_rfl) (of_decide_eq_true (by kernel_rfl)) k0 bel lt0) (trodAll_cons_mk (shut_int Tryz.underlying3 g1) (trodAll_cons_mk (shut_int Tryz.underlying3 g2) (trodAll_cons_mk (shut_int Tryz.underlying3 g3) (trodAll_cons_mk (shut_int Tryz.underlying3 g4) trodAll_mk0))))), rfl, bel.frame _, fun h => by cases h⟩

theorem over : Rows.clientShowsRow.holds Tryz.pinned (OpenSpec.ofChange Rows.clientShowsSpec) :=
  OpenClaim.holds_of_wide 6 Tryz.f6 rfl rfl rfl rfl rfl rfl rfl ⟨rfl, rfl, rfl, rfl, rfl⟩ rfl rfl rfl rfl rfl (by kernel_rfl) Tryz.func6 (by kernel_rfl)
    (of_decide_eq_true (by kernel_rfl)) (by unfold Func.isWrapper; first | (rw [if_pos (by decide +kernel)]; kernel_rfl) | (rw [if_neg (by decide +kernel)]; exact ⟨rfl, rfl⟩))
    (fun os started H enc _ => lifted os started H enc)

/-- The statement. -/
theorem proved : Rows.ClientShowsSaid :=
  over
#print axioms proved
end Go.Proofs.YtijjiccgpobjmaeGreat.clientShows

