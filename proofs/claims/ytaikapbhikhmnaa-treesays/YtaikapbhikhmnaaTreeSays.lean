/- orangerylaw.TreeSays: the walk. -/
import Derived.Test.YtaikapbhikhmnaaGrown
import Derived.Test.YtaikapbhikhmnaaCheckTree
import Derived.Test.YtaikapbhikhmnaaKidsOf
import Derived.Test.YtaikapbhikhmnaaEqual
namespace Go.Proofs.Ytaikapbhikhmnaa
open Go.ChangeShapes Go.WideShapes Go.ChangeAt Go.RowKit
open Orangery (Pl find check checkR underE underB kidsE kidsR leP isNodeB chain hasB)

set_option maxHeartbeats 400000 in
theorem there_any (w : World) (n : Int) :
    Calls Try.prog 14 #[.int .i64 n] w fun e w' => e = .returned (.bool (isNodeB n)) ∧ w' = w := by
  by_cases h1 : 0 ≤ n
  all_goals by_cases h2 : n ≤ 16
  all_goals
    go_enter Try.func14, Try.ntmps14
    go_wp2
    go_ret
    exact ⟨ret_bool (by simp [isNodeB]; try omega), rfl⟩

set_option maxHeartbeats 2000000 in
theorem treeSays_any (w : World) (a : Option Addr) (c : Nat) (l : List Pl) (n t : Int) (hl : l.length ≤ maxLen) (h : SlP w a l) :
    Calls Try.prog 4 #[.agg #[.slice a l.length c], .int .i64 n, .int .i64 t] w
      fun e w' => e = .returned (.bool true) ∧ Below w.heap.size w w' := by
  have hne := run_neq_pl
  have hgd := guard_pl
  go_enter Try.func4, Try.ntmps4
  go_wp2_with fail
  have hB := Go.Joins.below_alloc1 w (Obj.cells #[Value.slice a l.length c] 29)
  generalize hW : w.alloc (Obj.cells #[Value.slice a l.length c] 29) = W0 at hB
  have hS : w.heap.size < W0.heap.size := by subst hW; simp
  have hc : W0.cell? ⟨w.heap.size, 0, none⟩ = some (.slice a l.length c) := by subst hW; simp
  clear hW
  have hP := h.below hB
  clear h
  refine (under_any W0 a c l n t hl hP).mono ?_
  rintro e w1 ⟨rfl, hb1⟩
  have hc1 := hc
  rw [← hb1.cell (by exact hS)] at hc1
  have hP1 := hP.below hb1
  go_wp2_with fail
  refine (kids_any w1 a c l n hl hP1).mono ?_
  rintro e w2 ⟨⟨kv, kl, rfl, hO, hk1, hk2⟩, hb2'⟩
  have hb2 : Below W0.heap.size W0 w2 := hb1.trans (hb2'.mono hb1.size)
  have hc2 := hc
  rw [← hb2.cell (by exact hS)] at hc2
  have hP2 := hP.below hb2
  clear hc1 hP1 hb1
  go_wp2_with fail
  refine (checkTree_any w2 a c l hl hP2).mono ?_
  rintro e w3 ⟨rfl, hb3'⟩
  rw [← Orangery.check_eq]
  have hO3 := hO.below hb3'
  have hb3 : Below W0.heap.size W0 w3 := hb2.trans (hb3'.mono hb2.size)
  have hbase : w1.heap.size ≤ w3.heap.size := Nat.le_trans hb2'.size hb3'.size
  have hc3 := hc
  rw [← hb3.cell (by exact hS)] at hc3
  have hP3 := hP.below hb3
  have hS3 : w.heap.size < w3.heap.size := Nat.lt_of_lt_of_le hS hb3.size
  have HB3 : Hid (Below w.heap.size w w3) := hB.trans (hb3.mono (by omega))
  have HK1 : Hid (kidsE l n ≠ 0 → kl = []) := hk1
  have HK2 : Hid (kidsE l n = 0 → kl.Perm (l.filter (parentIs n)) ∧ kl.Pairwise leP) := hk2
  have HO3 : Hid (OwnS w3 w1.heap.size kv kl) := hO3
  clear hc2 hP2 hb2 hb3' hb3 hb2' hO hO3 hk1 hk2 hc hP hB hS
  have hck : (check l != check l) = false := by simp
  have hff : eqPl ((find l n).1, (find l n).2.1, (find l n).2.2) ((find l n).1, (find l n).2.1, (find l n).2.2) = true := by simp [eqPl]
  go_wp2_with fail
  go_region_held3 (fun w' => w'.cell? ⟨w.heap.size, 0, none⟩ = some (.slice a l.length c)) (go_keep)
    (first | (go_at_call 10; refine (grown_any _).mono ?_; rintro e w4 ⟨rfl, hb4⟩; have hb4' : Below w3.heap.size w3 w4 := ((Below.refl _ w3).drew).trans hb4; have z4 := (hb4'.cell (p := ⟨w.heap.size, 0, none⟩) hS3).trans hc3; have hP4 := hP3.below hb4') | (go_at_call 11; refine (check_any _ a c l hl ?_).mono ?_; exact hP4; rintro e w5 ⟨rfl, hb5⟩; have hb5' := hb4'.trans (hb5.mono hb4'.size); have z5 := (hb5'.cell (p := ⟨w.heap.size, 0, none⟩) hS3).trans hc3; have hP5 := hP3.below hb5') | (go_at_call 12; refine (find_any _ a c l n hl ?_).mono ?_; exact hP5; rintro e w6 ⟨rfl, hb6⟩; have hb6' := hb5'.trans (hb6.mono hb5'.size); have z6 := (hb6'.cell (p := ⟨w.heap.size, 0, none⟩) hS3).trans hc3; have hP6 := hP3.below hb6') | (go_at_call 13; refine (findIn_any _ a c l n hl ?_).mono ?_; exact hP6; rintro e w7 ⟨rfl, hb7⟩; have hb7' := hb6'.trans (hb7.mono hb6'.size); have z7 := (hb7'.cell (p := ⟨w.heap.size, 0, none⟩) hS3).trans hc3; have hP7 := hP3.below hb7'))
  have HB7 : Hid (Below w.heap.size w w7) := HB3.out.trans (hb7'.mono HB3.out.size)
  obtain ⟨ka, kc, rfl, hKP⟩ := (HO3.out.below hb7').slp
  have hS7 : w.heap.size < w7.heap.size := Nat.lt_of_lt_of_le hS3 hb7'.size
  clear z4 z5 z6 hP4 hP5 hP6 hb4 hb4' hb5 hb5' hb6 hb6' hb7 hb7' hP3 hc3 HO3 hff hne hgd HB3 hS3 hbase
  by_cases hz : check l = 0
  · by_cases h1 : isNodeB n = true
    · have ek : kidsE l n = 0 := by simp [kidsE, hz, h1]
      obtain ⟨kp, ks⟩ := HK2.out ek
      have hkl : kl = kidsR l n 100 := Orangery.kids_eq l kl n hz kp ks
      have HKL : Hid (eqPls kl (kidsR l n 100) = true) := by show _ = _; rw [hkl]; simp [eqPls]
      have hl15 := Orangery.check_len l hz
      have hkll : kl.length ≤ maxLen := by rw [hkl]; have := Orangery.kidsR_len l n 100; unfold maxLen; omega
      clear kp ks hkl HK1 HK2
      by_cases h2 : isNodeB t = true
      · obtain ⟨eu, _⟩ := Orangery.underE_ok l n t hz h1 h2
        have eb := Orangery.under_eq l n t hz h1 h2
        have hr := Orangery.scan_up (Orangery.check_scan l hz)
        have hn := (Orangery.isNodeB_iff n).1 h1
        have HR : Hid (∀ p ∈ l, 0 ≤ p.2.1 ∧ p.2.1 ≤ 16) := hr
        rw [hz, ek, eu, eb]
        generalize hbb : hasB t (chain l n) = bb
        have HBB : Hid (hasB t (chain l n) = bb) := hbb
        have hbne : (bb != bb) = false := by simp
        clear hz ek eu eb hr hbb hck
        go_wp2_with fail
        refine (there_any _ n).mono ?_
        rintro e w7 ⟨rfl, rfl⟩
        go_wp2_with fail
        refine (there_any _ t).mono ?_
        rintro e w7 ⟨rfl, rfl⟩
        go_wp2_with fail
        refine (there_any _ n).mono ?_
        rintro e w7 ⟨rfl, rfl⟩
        go_wp2_with fail
        refine (isUnder_any _ a c l n t hl hP7 HR.out hn.1 hn.2).mono ?_
        rintro e w8 ⟨rfl, hb8⟩
        rw [HBB.out]
        have z8 := (hb8.cell (p := ⟨w.heap.size, 0, none⟩) hS7).trans z7
        have hP8 := hP7.below hb8
        have hKP8 := hKP.below hb8
        have HB8 : Hid (Below w.heap.size w w8) := HB7.out.trans (hb8.mono HB7.out.size)
        clear hb8 z7 hP7 hKP HB7 hS7
        go_wp2_with fail
        refine (kidsOf_any _ a c l n hl15 hP8).mono ?_
        rintro e w9 ⟨v9, rfl, hO9, hb9⟩
        obtain ⟨ra, rc, rfl, hRP⟩ := hO9.slp
        have hKP9 := hKP8.below hb9
        have HB9 : Hid (Below w.heap.size w w9) := HB8.out.trans (hb9.mono HB8.out.size)
        clear hb9 hO9 hKP8 HB8 z8 hP8
        go_wp2_with fail
        refine (equal_pls _ ka ra kc rc kl (kidsR l n 100) hkll hKP9 hRP).mono ?_
        rintro e w10 ⟨rfl, nn, rfl⟩
        rw [HKL.out]
        go_wp2
        go_ret
        exact ⟨rfl, HB9.out.trans (Go.Joins.below_draws _ _ nn)⟩
      · have h2' : isNodeB t = false := by simpa using h2
        obtain ⟨eu, eb⟩ := Orangery.underE_who l n t hz (fun hh => h2 hh.2)
        rw [hz, ek, eu, eb]
        clear hz ek eu eb hck h2
        go_wp2_with fail
        refine (there_any _ n).mono ?_
        rintro e w7 ⟨rfl, rfl⟩
        go_wp2_with fail
        refine (there_any _ t).mono ?_
        rintro e w7 ⟨rfl, rfl⟩
        go_wp2_with fail
        refine (there_any _ n).mono ?_
        rintro e w7 ⟨rfl, rfl⟩
        go_wp2_with fail
        refine (kidsOf_any _ a c l n hl15 hP7).mono ?_
        rintro e w9 ⟨v9, rfl, hO9, hb9⟩
        obtain ⟨ra, rc, rfl, hRP⟩ := hO9.slp
        have hKP9 := hKP.below hb9
        have HB9 : Hid (Below w.heap.size w w9) := HB7.out.trans (hb9.mono HB7.out.size)
        clear hb9 hO9 hKP HB7 z7 hP7
        go_wp2_with fail
        refine (equal_pls _ ka ra kc rc kl (kidsR l n 100) hkll hKP9 hRP).mono ?_
        rintro e w10 ⟨rfl, nn, rfl⟩
        rw [HKL.out]
        go_wp2
        go_ret
        exact ⟨rfl, HB9.out.trans (Go.Joins.below_draws _ _ nn)⟩
    · have h1' : isNodeB n = false := by simpa using h1
      obtain ⟨eu, eb⟩ := Orangery.underE_who l n t hz (fun hh => h1 hh.1)
      have ek : kidsE l n = 5 := by simp [kidsE, hz, h1']
      have hkl := HK1.out (by rw [ek]; decide)
      subst hkl
      rw [hz, ek, eu, eb]
      clear hz ek eu eb hck h1 HK1 HK2
      go_wp2_with fail
      refine (there_any _ n).mono ?_
      rintro e w7 ⟨rfl, rfl⟩
      go_wp2_with fail
      refine (there_any _ n).mono ?_
      rintro e w7 ⟨rfl, rfl⟩
      go_wp2
      go_ret
      exact ⟨rfl, HB7.out⟩
  · obtain ⟨eu, eb⟩ := Orangery.underE_bad l n t hz
    have ek : kidsE l n = check l := by simp [kidsE, hz]
    have hkl := HK1.out (by rw [ek]; exact hz)
    subst hkl
    rw [ek, eu, eb]
    have hz1 : (check l == 0) = false := by simpa using hz
    have hz2 : (check l != 0) = true := by simpa using hz
    have hz3 : (check l == check l) = true := by simp
    generalize check l = cc at *
    clear hz ek eu eb HK1 HK2
    go_wp2
    go_ret
    exact ⟨rfl, HB7.out⟩
end Go.Proofs.Ytaikapbhikhmnaa
