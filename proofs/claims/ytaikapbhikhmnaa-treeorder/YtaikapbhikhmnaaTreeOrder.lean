/- orangerylaw.TreeOrder: the walk. -/
import Derived.Test.YtaikapbhikhmnaaGrown
import Derived.Test.YtaikapbhikhmnaaEqual
import Derived.Test.YtaikapbhikhmnaaPlainG
import Derived.Deep.RegionHeld3
import Derived.Deep.DeepCutAuto
namespace Go.Proofs.Ytaikapbhikhmnaa
open Go.ChangeShapes Go.WideShapes Go.ChangeAt Go.RowKit
open Orangery (Pl find check underE underB kidsE leP isNodeB atI cnt)

set_option maxHeartbeats 400000 in
theorem at_any (w : World) (k n : Int) (hn : 0 < n) (hn2 : n ≤ 4611686018427387904) :
    Calls Try.prog 18 #[.int .i64 k, .int .i64 n] w fun e w' => e = .returned (.int .i64 (atI k n)) ∧ w' = w := by
  obtain ⟨⟨h1, h2⟩, hat⟩ := Orangery.tmod_at k n hn
  have HA : Hid (atI k n = if k.tmod n < 0 then k.tmod n + n else k.tmod n) := hat
  have hnz : (n == 0) = false := by simp; omega
  clear hat
  by_cases hneg : k.tmod n < 0
  · go_enter Try.func18, Try.ntmps18
    go_wp2
    go_ret
    exact ⟨ret_int (by rw [HA.out, if_pos hneg]), rfl⟩
  · go_enter Try.func18, Try.ntmps18
    go_wp2
    go_ret
    exact ⟨ret_int (by rw [HA.out, if_neg (by omega)]), rfl⟩

set_option maxHeartbeats 4000000 in
set_option maxRecDepth 100000 in
theorem treeOrder_any (w : World) (a : Option Addr) (c : Nat) (l : List Pl) (x y z : Int) (hl : l.length ≤ maxLen) (h : SlP w a l) :
    Calls Try.prog 5 #[.agg #[.slice a l.length c], .int .i64 x, .int .i64 y, .int .i64 z] w
      fun e w' => e = .returned (.bool true) ∧ Below w.heap.size w w' := by
  have hA := Orangery.at17_node x
  have hBn := Orangery.at17_node y
  have hCn := Orangery.at17_node z
  go_enter Try.func5, Try.ntmps5
  go_wp2_with fail
  refine (at_any _ x 17 (by omega) (by omega)).mono ?_
  rintro e w0 ⟨rfl, rfl⟩
  go_wp2_with fail
  refine (at_any _ y 17 (by omega) (by omega)).mono ?_
  rintro e w0 ⟨rfl, rfl⟩
  go_wp2_with fail
  refine (at_any _ z 17 (by omega) (by omega)).mono ?_
  rintro e w0 ⟨rfl, rfl⟩
  generalize atI x 17 = A at *
  generalize atI y 17 = B at *
  generalize atI z 17 = C at *
  have hB := Go.Joins.below_alloc1 w (Obj.cells #[Value.slice a l.length c] 29)
  generalize hW : w.alloc (Obj.cells #[Value.slice a l.length c] 29) = W0 at hB ⊢
  have hS : w.heap.size < W0.heap.size := by subst hW; simp
  have hc : W0.cell? ⟨w.heap.size, 0, none⟩ = some (.slice a l.length c) := by subst hW; simp
  clear hW
  have hP := h.below hB
  clear h
  go_wp2_with fail
  refine (under_any W0 a c l A B hl hP).mono ?_
  rintro e w1 ⟨rfl, hb1⟩
  have z1 := (hb1.cell (p := ⟨w.heap.size, 0, none⟩) hS).trans hc
  have hP1 := hP.below hb1
  have hS1 := Nat.lt_of_lt_of_le hS hb1.size
  have HB1 : Hid (Below w.heap.size w w1) := hB.trans (hb1.mono hB.size)
  clear hb1 hP hc hS hB
  go_wp2_with fail
  refine (grown_any w1).mono ?_
  rintro e w2 ⟨rfl, hb2⟩
  have z2 := (hb2.cell (p := ⟨w.heap.size, 0, none⟩) hS1).trans z1
  have hP2 := hP1.below hb2
  have hS2 := Nat.lt_of_lt_of_le hS1 hb2.size
  have HB2 : Hid (Below w.heap.size w w2) := HB1.out.trans (hb2.mono HB1.out.size)
  clear hb2 hP1 z1 hS1 HB1
  by_cases hz : check l = 0
  · rw [(Orangery.underE_ok l A B hz hA hBn).1]
    have HZ : Hid (check l = 0) := hz
    clear hz
    go_wp2_with fail
    refine (under_any w2 a c l B C hl hP2).mono ?_
    rintro e w3 ⟨rfl, hb3⟩
    rw [(Orangery.underE_ok l B C HZ.out hBn hCn).1]
    have z3 := (hb3.cell (p := ⟨w.heap.size, 0, none⟩) hS2).trans z2
    have hP3 := hP2.below hb3
    have hS3 := Nat.lt_of_lt_of_le hS2 hb3.size
    have HB3 : Hid (Below w.heap.size w w3) := HB2.out.trans (hb3.mono HB2.out.size)
    clear hb3 hP2 z2 hS2 HB2
    go_wp2_with fail
    refine (under_any w3 a c l A C hl hP3).mono ?_
    rintro e w4 ⟨rfl, hb4⟩
    rw [(Orangery.underE_ok l A C HZ.out hA hCn).1]
    have z4 := (hb4.cell (p := ⟨w.heap.size, 0, none⟩) hS3).trans z3
    have hP4 := hP3.below hb4
    have hS4 := Nat.lt_of_lt_of_le hS3 hb4.size
    have HB4 : Hid (Below w.heap.size w w4) := HB3.out.trans (hb4.mono HB3.out.size)
    clear hb4 hP3 z3 hS3 HB3
    go_wp2_with fail
    refine (under_any w4 a c l B A hl hP4).mono ?_
    rintro e w5 ⟨rfl, hb5⟩
    rw [(Orangery.underE_ok l B A HZ.out hBn hA).1]
    have z5 := (hb5.cell (p := ⟨w.heap.size, 0, none⟩) hS4).trans z4
    have hP5 := hP4.below hb5
    have hS5 := Nat.lt_of_lt_of_le hS4 hb5.size
    have HB5 : Hid (Below w.heap.size w w5) := HB4.out.trans (hb5.mono HB4.out.size)
    clear hb5 hP4 z4 hS4 HB4
    have T1 : Hid (underB l A B = true → underB l B C = true → underB l A C = true) := fun h1 h2 => Orangery.under_trans l A B C HZ.out hA hBn hCn h1 h2
    have T2 : Hid (underB l A B = true → underB l B A = true → A = B) := fun h1 h2 => Orangery.under_antisymm l A B HZ.out hA hBn h1 h2
    have T3 : Hid (A = B → underB l A B = true) := fun h1 => by subst h1; exact Orangery.under_refl l A HZ.out hA
    have T4 : Hid (A = B → underB l B A = true) := fun h1 => by subst h1; exact Orangery.under_refl l A HZ.out hA
    generalize underB l A B = u1 at *
    generalize underB l B C = u2 at *
    generalize underB l A C = u3 at *
    generalize underB l B A = u4 at *
    go_upto_region 8 with fail
    go_cut [104] from 65 to 104 (fun r wc => r = .bool false ∧ wc = w5)
    case first =>
      cases u1
      · have hne : A ≠ B := fun e => by have := T3.out e; simp at this
        have hne1 : (A == B) = false := by simpa using hne
        have hne2 : (A != B) = true := by simpa using hne
        clear hne
        go_wp2
        go_meet
        case rel => exact ⟨rfl, rfl⟩
      · by_cases hab : A = B
        · have hab1 : (A == B) = true := by simpa using hab
          have hab2 : (A != B) = false := by simpa using hab
          have := T4.out hab
          subst this
          clear hab
          cases u2
          · go_wp2
            go_meet
            case rel => exact ⟨rfl, rfl⟩
          · have := T1.out rfl rfl
            subst this
            go_wp2
            go_meet
            case rel => exact ⟨rfl, rfl⟩
        · have hab1 : (A == B) = false := by simpa using hab
          have hab2 : (A != B) = true := by simpa using hab
          have h4 : u4 = false := by
            cases u4
            · rfl
            · exact absurd (T2.out rfl rfl) hab
          subst h4
          clear hab
          cases u2
          · go_wp2
            go_meet
            case rel => exact ⟨rfl, rfl⟩
          · have := T1.out rfl rfl
            subst this
            go_wp2
            go_meet
            case rel => exact ⟨rfl, rfl⟩
    case rest =>
      obtain ⟨rfl, rfl⟩ := hcut
      clear T1 T2 T3 T4
      have hl15 := Orangery.check_len l HZ.out
      go_wp2_with fail
      go_loopw [16, 105] (fun x i W => ∃ k : Nat, k ≤ 17 ∧ i = .int .i64 k ∧ x = .int .i64 (cnt l k : Nat) ∧ Below wc.heap.size wc W) (fun _ i _ => 17 - (intOf i).toNat)
      case atStart => exact ⟨0, by omega, rfl, by rw [Orangery.cnt_zero l HZ.out]; rfl, Below.refl _ _⟩
      case round =>
        obtain ⟨k, hk, rfl, rfl, hb⟩ := hrel
        have zr := (hb.cell (p := ⟨w.heap.size, 0, none⟩) hS5).trans z5
        have hPr := hP5.below hb
        have hSr := Nat.lt_of_lt_of_le hS5 hb.size
        have hcl := Orangery.cnt_le l k
        by_cases hlt : k < 17
        · have hd : decide ((k : Int) < 17) = true := by simp; omega
          have hkn : isNodeB (k : Int) = true := (Orangery.isNodeB_iff _).2 (by omega)
          have HS : Hid (cnt l (k + 1) = cnt l k + (l.filter fun p => p.2.1 == (k : Int)).length) := Orangery.cnt_succ l k
          have hcl2 := Orangery.cnt_le l (k + 1)
          generalize hcn : cnt l k = n0 at *
          have HCN : Hid (cnt l k = n0) := hcn
          clear hcn
          have ek : kidsE l k = 0 := by simp [kidsE, HZ.out, hkn]
          have HEK : Hid (kidsE l k = 0) := ek
          clear ek
          rename World => W1
          go_wp2_with fail
          refine (kids_any W1 a c l k hl hPr).mono ?_
          rintro e w6 ⟨⟨kv, kl, rfl, hO, _, hk2⟩, hb6⟩
          obtain ⟨kp, ks⟩ := hk2 HEK.out
          obtain ⟨ka, kc, rfl, hKP⟩ := hO.slp
          rw [HEK.out]
          have hlen : kl.length = (l.filter fun p => p.2.1 == (k : Int)).length := kp.length_eq
          have hlen15 : kl.length ≤ 15 := by rw [hlen]; exact Nat.le_trans (List.length_filter_le _ _) hl15
          have HM : Hid (∀ p ∈ kl, p ∈ l ∧ p.2.1 = (k : Int)) := fun p hp => by
            have := kp.mem_iff.1 hp
            simp [parentIs] at this
            exact this
          have HLEN : Hid (kl.length = (l.filter fun p => p.2.1 == (k : Int)).length) := hlen
          have z6 := (hb6.cell (p := ⟨w.heap.size, 0, none⟩) hSr).trans zr
          have hP6 := hPr.below hb6
          have hS6 := Nat.lt_of_lt_of_le hSr hb6.size
          have HB6 : Hid (Below wc.heap.size wc w6) := hb.trans (hb6.mono hb.size)
          clear kp ks hk2 hO hb6 hb zr hPr hSr hlen
          go_wp2
          go_loopw [118] (fun i W => ∃ j : Nat, j ≤ kl.length ∧ i = .int .i64 j ∧ Below w6.heap.size w6 W) (fun i _ => kl.length - (intOf i).toNat)
          case atStart => exact ⟨0, by omega, rfl, Below.refl _ _⟩
          case round =>
            obtain ⟨j, hj, rfl, hb⟩ := hrel
            by_cases hlt2 : j < kl.length
            · have zr := (hb.cell (p := ⟨w.heap.size, 0, none⟩) hS6).trans z6
              have hPr := hP6.below hb
              have hSr := Nat.lt_of_lt_of_le hS6 hb.size
              rcases hKP with hKP | ⟨b, off, rfl, hbl, hp⟩
              · exact absurd hlt2 (by simp [hKP])
              have g := hp j hlt2
              rw [← hb.cell hbl, ← hb.cell hbl, ← hb.cell hbl] at g
              obtain ⟨g0, g1, g2⟩ := g
              obtain ⟨hm1, hm2⟩ := HM.out kl[j] (List.getElem_mem hlt2)
              obtain ⟨n1, n2, n3, n4⟩ := Orangery.mem_node l HZ.out kl[j] hm1
              rw [hm2] at n4
              generalize hq : kl[j] = q at *
              obtain ⟨q0, q1, q2⟩ := q
              clear hq hm1 hm2 n2
              simp only at g0 g1 g2 n1 n3 n4
              have N3 : Hid (find l q0 = (q0, q1, q2)) := n3
              have N4 : Hid (underB l q0 k = true) := n4
              have N5 : Hid (underE l q0 k = 0) := (Orangery.underE_ok l q0 k HZ.out n1 hkn).1
              clear n3 n4 n1
              have hb1 := Go.Joins.below_alloc1 wr (Obj.cells #[Value.int IntKind.i64 q0, Value.int IntKind.i64 q1, Value.int IntKind.i64 q2] 36)
              go_wp2_with fail
              refine (under_any _ (a) c l q0 k hl (hPr.below hb1)).mono ?_
              rintro e w7 ⟨rfl, hb7⟩
              rw [N4.out, N5.out]
              have hb8 : Below wr.heap.size wr w7 := hb1.trans (hb7.mono hb1.size)
              have z7 := (hb8.cell (p := ⟨w.heap.size, 0, none⟩) hSr).trans zr
              have hP7 := hPr.below hb8
              have hS7 := Nat.lt_of_lt_of_le hSr hb8.size
              have y0 : w7.cell? ⟨wr.heap.size, 0, none⟩ = some (.int .i64 q0) := by rw [hb7.cell (by simp)]; simp
              have y1 : w7.cell? ⟨wr.heap.size, 1, none⟩ = some (.int .i64 q1) := by rw [hb7.cell (by simp)]; simp
              have y2 : w7.cell? ⟨wr.heap.size, 2, none⟩ = some (.int .i64 q2) := by rw [hb7.cell (by simp)]; simp
              have hSw : wr.heap.size < w7.heap.size := Nat.lt_of_lt_of_le (by simp) hb7.size
              have HB7 : Hid (Below w6.heap.size w6 w7) := hb.trans (hb8.mono hb.size)
              clear hb7 hb1 hb g0 g1 g2 zr hPr hSr hb8
              have hne := run_neq_pl
              have hgd := guard_pl
              have hff : eqPl (q0, q1, q2) (q0, q1, q2) = true := by simp [eqPl]
              go_wp2_with fail
              go_region_held3 (fun w' => w'.cell? ⟨w.heap.size, 0, none⟩ = some (.slice a l.length c) ∧ w'.cell? ⟨wr.heap.size, 0, none⟩ = some (.int .i64 q0) ∧ w'.cell? ⟨wr.heap.size, 1, none⟩ = some (.int .i64 q1) ∧ w'.cell? ⟨wr.heap.size, 2, none⟩ = some (.int .i64 q2)) (go_keep)
                (first | (go_at_call 12; refine (find_any _ a c l q0 hl ?_).mono ?_; exact hP7; rintro e w9 ⟨rfl, hb9⟩; rw [N3.out]; have x0 := (hb9.cell (p := ⟨w.heap.size, 0, none⟩) hS7).trans z7; have x1 := (hb9.cell (p := ⟨wr.heap.size, 0, none⟩) hSw).trans y0; have x2 := (hb9.cell (p := ⟨wr.heap.size, 1, none⟩) hSw).trans y1; have x3 := (hb9.cell (p := ⟨wr.heap.size, 2, none⟩) hSw).trans y2))
              have HB9 : Hid (Below w6.heap.size w6 w9) := HB7.out.trans (((Below.refl _ w7).drew.trans hb9).mono HB7.out.size)
              clear hb9 x0 x1 x2 x3 y0 y1 y2 z7 hP7 hne hgd hff HB7
              go_wp2
              go_roundw
              case rel => exact ⟨j + 1, hlt2, by go_num, HB9.out⟩
              case measure => simp [intOf]; omega
            · go_wp2
              go_roundw
              case rel =>
                refine ⟨k + 1, hlt, by go_num, ?_, HB6.out.trans (hb.mono HB6.out.size)⟩
                rw [HS.out, HLEN.out]
                go_num
              case measure => simp [intOf]; omega
        · have hk' : k = 17 := by omega
          subst hk'
          have HC : Hid (cnt l 17 = l.length) := Orangery.cnt_all l HZ.out
          rw [HC.out]
          go_wp2
          go_ret
          exact ⟨by simp, HB5.out.trans (hb.mono HB5.out.size)⟩
  · have hz2 : (check l != 0) = true := by simpa using hz
    rw [(Orangery.underE_bad l A B hz).1]
    clear hz
    go_wp2_with fail
    refine (grown_any w2).mono ?_
    rintro e w3 ⟨rfl, hb3⟩
    go_wp2
    go_ret
    exact ⟨rfl, HB2.out.trans (hb3.mono HB2.out.size)⟩
end Go.Proofs.Ytaikapbhikhmnaa
