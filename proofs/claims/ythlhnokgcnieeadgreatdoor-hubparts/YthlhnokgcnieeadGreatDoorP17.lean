/- 7 texts of the proof: slices.Grow of nothing, slices.Concat at bytes. disk.Check, disk.Same, disk.Sync. slices.Grow of nothing, slices.Concat at records in memory. disk.Recover. note.split. note.Print. An append of a text's bytes in a region that draws its order. -/
import Derived.Lib.AppendZerosOnto
import Derived.Laws.AppendOwnNone
import Derived.Lib.AppendStr
import Derived.Test.YthlhnokgcnieeadGreatDoorP15
import Derived.Test.YthlhnokgcnieeadGreatDoorP16
import Derived.Test.YthlhnokgcnieeadGreatDoorP12
import Derived.Test.YthlhnokgcnieeadGreatDoorP07
/- slices.Grow of nothing, slices.Concat at bytes. -/
namespace Go.Proofs.YthlhnokgcnieeadGreatDoor
open Go.ChangeShapes Go.WideShapes Go.ChangeAt Go.RowKit

set_option maxHeartbeats 1000000 in
set_option maxRecDepth 100000 in
theorem growBts_any (w : World) (n : Nat) (hn : n ≤ 120000) :
    Calls Tryz.prog 52 #[.slice none 0 0, .int .i64 n] w
      fun e w' => ∃ v, e = .returned v ∧ OwnE btC 1 5 w' w.heap.size v [] ∧ Below w.heap.size w w' := by
  obtain ⟨i0, hi, hz0, hz1, hz2⟩ := info_parts infoByte
  have h1 : ¬ ((n : Int) < 0) := by omega
  by_cases hp : 0 < n
  · have h4 : (n : Int) > 0 := by omega
    have hold : (Builtin.firstCells i0.size 0 (.slice none 0 0)).run Tryz.prog w.drew = .ok ([] : List Value).toArray w.drew := by simp [Builtin.firstCells]
    have hr : ∀ ty, (Builtin.append_ #[45, 3] ty #[.slice none 0 0, .int .i64 (n : Int)]).run Tryz.prog w = _ := fun ty => Lib.run_append_grow_zeros w 45 3 ty 5 i0 _ .i64 .i64 Tryz.underlying45 Tryz.underlying3 hi hz0 none 0 0 [] hold n hp (by omega) (by omega) (by omega) (by rw [hz2]; omega) (growslice_fits (by omega) (by rw [hz2]; omega))
    have hge := grownCap_ge w (0 + n) 0 5
    have hle := grownCap_le_maxLen w (0 + n) 0 5 (by unfold maxLen; omega)
    generalize grownCap w (0 + n) 0 5 = G at *
    have hle' : G ≤ 9223372036854775807 := hle
    have HO : Hid (∀ cur : Array Value, cur.size = G * 1 → OwnE btC 1 5 (w.drew.alloc (.cells cur 5)) w.heap.size (.slice (some ⟨w.heap.size, 0, none⟩) 0 G) []) := fun cur hc =>
      ⟨rfl, Or.inr ⟨w.heap.size, G, cur, rfl, Nat.le_refl _, blk_new rfl, Nat.zero_le _, hle, hc, by simp⟩⟩
    have HB : Hid (∀ o : Obj, Below w.heap.size w (w.drew.alloc o)) := fun o => ((Below.refl _ w).drew).alloc (Nat.le_refl _) o
    have HSZ : Hid ((([] : List Value).toArray ++ Builtin.zeroCells (Value.int .u8 0).cells n ++ Builtin.zeroCells (Value.int .u8 0).cells (G - (0 + n))).size = G * 1) := by
      show _ = _
      rw [Array.size_append, Array.size_append, size_zeroCells, size_zeroCells]
      simp [Value.cells]
      omega
    generalize (([] : List Value).toArray ++ Builtin.zeroCells (Value.int .u8 0).cells n ++ Builtin.zeroCells (Value.int .u8 0).cells (G - (0 + n))) = cur at *
    clear hold
    go_enter Tryz.func52, Tryz.ntmps52
    go_wp2_with (at_builtin; refine Lib.wpList_append_run _ rfl _ _ _ _ rfl _ _ rfl rfl _ _ (hr _) ?_)
    all_goals (go_ret; exact ⟨_, rfl, HO.out cur HSZ.out, HB.out _⟩)
  · obtain rfl : n = 0 := by omega
    go_enter Tryz.func52, Tryz.ntmps52
    go_wp2
    go_ret
    exact ⟨_, rfl, OwnE.nil _ _, Below.refl _ _⟩

set_option maxHeartbeats 2000000 in
set_option maxRecDepth 100000 in
theorem concatBts_any (w : World) (bq : Nat) (a1 a2 : Option Addr) (c1 c2 : Nat) (l1 l2 : List UInt8) (hl1 : l1.length ≤ 60000) (hl2 : l2.length ≤ 60000) (hc1 : a1 = none → c1 = 0) (hc2 : a2 = none → c2 = 0)
    (q0 : w.cell? ⟨bq, 0, none⟩ = some (.slice a1 l1.length c1)) (q1 : w.cell? ⟨bq, 1, none⟩ = some (.slice a2 l2.length c2)) (h1 : SlE btC w a1 l1) (h2 : SlE btC w a2 l2) :
    Calls Tryz.prog 28 #[.slice (some ⟨bq, 0, none⟩) 2 2] w
      fun e w' => ∃ v, e = .returned v ∧ OwnE btC 1 5 w' w.heap.size v (l1 ++ l2) ∧ Below w.heap.size w w' := by
  obtain ⟨i0, hi, hz0, hz1, hz2⟩ := info_parts infoByte
  have hbq : bq < w.heap.size := World.block_lt_of_cell? w ⟨bq, 0, none⟩ q0
  go_enter Tryz.func28, Tryz.ntmps28
  go_wp2
  go_loop [3, 11] (fun x i => ∃ k : Nat, k ≤ 2 ∧ i = .int .i64 k ∧ x = .int .i64 (if k = 0 then 0 else if k = 1 then l1.length else l1.length + l2.length : Nat)) (fun _ i => 2 - (intOf i).toNat)
  case atStart => exact ⟨0, by omega, rfl, rfl⟩
  case round =>
    obtain ⟨k, hk, rfl, rfl⟩ := hrel
    have hc : k = 0 ∨ k = 1 ∨ k = 2 := by omega
    rcases hc with rfl | rfl | rfl
    · simp only [if_true]
      have d1 : decide ((l1.length : Int) < 0) = false := by simp <;> omega
      go_wp2
      go_round
      case rel => exact ⟨1, by omega, by go_num, by simp⟩
      case measure => simp [intOf]
    · simp only [show ¬ (1 = 0) by omega, if_true, if_false]
      have d1 : decide ((l1.length : Int) + (l2.length : Int) < 0) = false := by simp <;> omega
      go_wp2
      go_round
      case rel => exact ⟨2, by omega, by go_num, by simp⟩
      case measure => simp [intOf]
    · simp only [show ¬ (2 = 0) by omega, show ¬ (2 = 1) by omega, if_false]
      have HG := growBts_any w (l1.length + l2.length) (by omega)
      have HGG : Hid (Calls Tryz.prog 52 #[.slice none 0 0, .int .i64 (l1.length + l2.length : Nat)] w fun e w' => ∃ v, e = .returned v ∧ OwnE btC 1 5 w' w.heap.size v [] ∧ Below w.heap.size w w') := HG
      clear HG
      go_wp2_with fail
      refine HGG.out.mono ?_
      rintro e w1 ⟨v1, rfl, hO1, hb1⟩
      clear HGG
      go_wp2
      go_loopw [6, 27] (fun v i W => ∃ k : Nat, k ≤ 2 ∧ i = .int .i64 k ∧ OwnE btC 1 5 W w.heap.size v (if k = 0 then [] else if k = 1 then l1 else l1 ++ l2) ∧ Below w.heap.size w W) (fun _ i _ => 2 - (intOf i).toNat)
      case atStart => exact ⟨0, by omega, rfl, hO1, hb1⟩
      case round =>
        obtain ⟨k, hk, rfl, hO, hb⟩ := hrel
        have hc : k = 0 ∨ k = 1 ∨ k = 2 := by omega
        have qr0 : wr.cell? ⟨bq, 0, none⟩ = some (.slice a1 l1.length c1) := by rw [hb.cell (by exact hbq)]; exact q0
        have qr1 : wr.cell? ⟨bq, 1, none⟩ = some (.slice a2 l2.length c2) := by rw [hb.cell (by exact hbq)]; exact q1
        rcases hc with rfl | rfl | rfl
        · simp only [if_true] at hO
          cases a1 with
          | none =>
            have e1 := slE_none h1
            have e2 := hc1 rfl
            have qr0' : wr.cell? ⟨bq, 0, none⟩ = some (.slice none 0 0) := by rw [qr0, e1, e2]; rfl
            have HE : Hid (l1 = []) := e1
            clear qr0 e1 e2
            go_wp2_with (at_builtin; refine wpList_append_own_none rfl _ _ 45 rfl w.heap.size 5 i0 1 Tryz.underlying45 hi _ 0 [] rfl hO.row rfl ?_)
            go_roundw
            case rel => exact ⟨1, by omega, by go_num, by simp [HE.out]; exact hO, hb⟩
            case measure => simp [intOf]
          | some ad =>
            have hn := slE_news (h1.below hb)
            have HN : Hid (∀ j u, (l1.flatMap btC)[j]? = some u → wr.cell? (ad.add j) = some u) := hn
            have hown : wr.ownsRow w.heap.size 5 1 u6 0 [] := hO.row
            clear hn
            go_wp2_with (at_builtin; refine wpList_append_own _ rfl _ _ 45 rfl w.heap.size 5 i0 _ 1 1 Tryz.underlying45 hi hz0 hz1 hz2 rfl (by decide) _ _ _ rfl hown ad l1.length c1 (l1.flatMap btC) rfl (flatE_len btC_len l1) ?c1 ?c2 ?c3 ?c4 ?c5 ?_)
            case c1 => exact HN.out
            case c2 => exact flat_oneE btC_one l1
            case c3 => unfold maxLen; omega
            case c4 => omega
            case c5 => exact hb.size
            intro v' w4 hown' hgrow _
            have hb4 := hb.trans (below_grown hown hb.size hgrow)
            clear hgrow hown
            go_wp2
            go_roundw
            case rel => exact ⟨1, by omega, by go_num, by simp; simpa [OwnE] using hown', hb4⟩
            case measure => simp [intOf]
        · simp only [show ¬ (1 = 0) by omega, if_true, if_false] at hO
          cases a2 with
          | none =>
            have e1 := slE_none h2
            have e2 := hc2 rfl
            have qr1' : wr.cell? ⟨bq, 1, none⟩ = some (.slice none 0 0) := by rw [qr1, e1, e2]; rfl
            have HE : Hid (l2 = []) := e1
            clear qr1 e1 e2
            go_wp2_with (at_builtin; refine wpList_append_own_none rfl _ _ 45 rfl w.heap.size 5 i0 1 Tryz.underlying45 hi _ l1.length (l1.flatMap btC) rfl hO.row rfl ?_)
            go_roundw
            case rel => exact ⟨2, by omega, by go_num, by simp [HE.out]; exact hO, hb⟩
            case measure => simp [intOf]
          | some ad =>
            have hn := slE_news (h2.below hb)
            have HN : Hid (∀ j u, (l2.flatMap btC)[j]? = some u → wr.cell? (ad.add j) = some u) := hn
            have hown : wr.ownsRow w.heap.size 5 1 u6 l1.length (l1.flatMap btC) := hO.row
            clear hn
            go_wp2_with (at_builtin; refine wpList_append_own _ rfl _ _ 45 rfl w.heap.size 5 i0 _ 1 1 Tryz.underlying45 hi hz0 hz1 hz2 rfl (by decide) _ _ _ rfl hown ad l2.length c2 (l2.flatMap btC) rfl (flatE_len btC_len l2) ?d1 ?d2 ?d3 ?d4 ?d5 ?_)
            case d1 => exact HN.out
            case d2 => exact flat_oneE btC_one l2
            case d3 => unfold maxLen; omega
            case d4 => omega
            case d5 => exact hb.size
            intro v' w4 hown' hgrow _
            have hb4 := hb.trans (below_grown hown hb.size hgrow)
            clear hgrow hown
            go_wp2
            go_roundw
            case rel => exact ⟨2, by omega, by go_num, by simp; simpa [OwnE] using hown', hb4⟩
            case measure => simp [intOf]
        · simp only [show ¬ (2 = 0) by omega, show ¬ (2 = 1) by omega, if_false] at hO
          go_wp2
          go_ret
          exact ⟨_, rfl, hO, hb⟩
end Go.Proofs.YthlhnokgcnieeadGreatDoor

/- disk.Check, disk.Same, disk.Sync. -/
namespace Go.Proofs.YthlhnokgcnieeadGreatDoor
open Go.ChangeShapes Go.WideShapes Go.ChangeAt Go.RowKit
open Orangery (Mv Rc noRec noOp lnL lnN lnE diskE)

theorem disk_big {s t : List UInt8} (h : 60000 < s.length + t.length) : diskE s t = 2 := by unfold diskE; rw [if_pos (by omega)]
theorem disk_small {s t : List UInt8} (h : ¬ 60000 < s.length + t.length) : diskE s t = lnE 60 s := by unfold diskE; rw [if_neg (by omega)]
theorem disk_fits {s t : List UInt8} (h : diskE s t = 0) : s.length + t.length ≤ 60000 := by
  rcases Nat.lt_or_ge 60000 (s.length + t.length) with h1 | h1
  · rw [disk_big h1] at h; simp at h
  · exact h1

set_option maxHeartbeats 1000000 in
set_option maxRecDepth 100000 in
theorem kcheck_any (w : World) (v : Value) (s t : List UInt8) (h : DkIs w v s t) (hv : Vars w) :
    Calls Tryz.prog 24 #[v] w fun e w' => e = .returned (.int .i64 (diskE s t)) ∧ Below w.heap.size w w' := by
  obtain ⟨a, c, a', c', rfl, h1, h2⟩ := h
  have f1 := h1.few
  have f2 := h2.few
  have H1 := Lib.hid h1
  have H2 := Lib.hid h2
  have HV := Lib.hid hv
  clear h1 h2 hv
  go_enter Tryz.func24, Tryz.ntmps24
  go_wp2_with fail
  obtain ⟨W0, hW, hA, hB, -⟩ := laid1 w [.slice a s.length c, .slice a' t.length c'] 47
  rw [hW]
  clear hW
  refine (ksize_any W0 _ s t ⟨a, c, a', c', rfl, H1.out.keep hB, H2.out.keep hB⟩).mono ?_
  rintro e w1 ⟨rfl, hb⟩
  have hA1 := hA.keep hb
  have HB1 := Lib.hid (hB.trans (hb.mono hB.size))
  clear hA hB hb
  by_cases hbig : 60000 < s.length + t.length
  · have d1 : decide ((s.length : Int) + (t.length : Int) > 60000) = true := by simp; omega
    have HE : Hid (diskE s t = 2) := disk_big hbig
    clear hbig
    go_wp2
    go_ret
    exact ⟨ret_int HE.out.symm, HB1.out⟩
  · have d1 : decide ((s.length : Int) + (t.length : Int) > 60000) = false := by simp; omega
    have HE : Hid (diskE s t = lnE 60 s) := disk_small hbig
    have hs : s.length ≤ 60000 := by omega
    have x0 := hA1.at 0 rfl
    clear hbig
    go_wp2_with fail
    refine (kread_any w1 a c s 60 hs (by omega) (H1.out.keep HB1.out) (HV.out.on HB1.out)).mono ?_
    rintro e w2 ⟨⟨v2, X, a2, c2, rfl, -, -, -⟩, hb⟩
    have HB2 := Lib.hid (HB1.out.trans (hb.mono HB1.out.size))
    clear hb hA1 x0 HB1
    go_wp2
    go_ret
    exact ⟨ret_int HE.out.symm, HB2.out⟩

/-- chapter 7's Sync -/
def syncE (s t : List UInt8) : Int := if diskE s t ≠ 0 then diskE s t else diskE (s ++ t) []
def syncS (s t : List UInt8) : List UInt8 := if syncE s t ≠ 0 then [] else s ++ t
theorem sync_bad {s t : List UInt8} (h : diskE s t ≠ 0) : syncE s t = diskE s t ∧ syncS s t = [] := by
  have e : syncE s t = diskE s t := by unfold syncE; rw [if_pos h]
  refine ⟨e, ?_⟩
  unfold syncS
  rw [e, if_pos h]
theorem sync_many {s t : List UInt8} (h : diskE s t = 0) (h2 : diskE (s ++ t) [] ≠ 0) : syncE s t = diskE (s ++ t) [] ∧ syncS s t = [] := by
  have e : syncE s t = diskE (s ++ t) [] := by unfold syncE; rw [if_neg (by simpa using h)]
  refine ⟨e, ?_⟩
  unfold syncS
  rw [e, if_pos h2]
theorem sync_ok {s t : List UInt8} (h : diskE s t = 0) (h2 : diskE (s ++ t) [] = 0) : syncE s t = 0 ∧ syncS s t = s ++ t := by
  have e : syncE s t = diskE (s ++ t) [] := by unfold syncE; rw [if_neg (by simpa using h)]
  refine ⟨e.trans h2, ?_⟩
  unfold syncS
  rw [e, if_neg (by simpa using h2)]

set_option maxHeartbeats 2000000 in
set_option maxRecDepth 100000 in
theorem ksync_any (w : World) (v : Value) (s t : List UInt8) (h : DkIs w v s t) (hv : Vars w) :
    Calls Tryz.prog 9 #[v] w fun e w' => (∃ v', e = .returned (.tuple #[v', .int .i64 (syncE s t)]) ∧ DkNew w.heap.size w' v' (syncS s t) []) ∧ Below w.heap.size w w' := by
  obtain ⟨a, c, a', c', rfl, h1, h2⟩ := h
  have H1 := Lib.hid h1
  have H2 := Lib.hid h2
  have HV := Lib.hid hv
  clear h1 h2 hv
  go_enter Tryz.func9, Tryz.ntmps9
  go_wp2_with fail
  obtain ⟨W0, hW, hA, hR, hB, -⟩ := laid2 w [.slice a s.length c, .slice a' t.length c'] 47 [.slice none 0 0, .slice none 0 0] 47
  rw [hW]
  clear hW
  refine (kcheck_any W0 _ s t ⟨a, c, a', c', rfl, H1.out.keep hB, H2.out.keep hB⟩ (HV.out.on hB)).mono ?_
  rintro e w1 ⟨rfl, hb⟩
  have hA1 := hA.keep hb
  have hR1 := hR.keep hb
  have HB1 := Lib.hid (hB.trans (hb.mono hB.size))
  clear hA hR hB hb
  by_cases hd : diskE s t = 0
  case neg =>
    have HE := Lib.hid (sync_bad hd)
    have d1 : (diskE s t != 0) = true := by simpa using hd
    generalize diskE s t = E at *
    have r0 := hR1.at 0 rfl
    have r1 := hR1.at 1 rfl
    have rf := hR1.frz
    clear hd
    go_wp2
    refine ret_cell_tmp Tryz.results9 rfl rfl ((hR1.sets [.slice none 0 0, .slice none 0 0] rfl).load Tryz.underlying47 rfl sizeDisk) ?_
    rw [HE.out.1, HE.out.2]
    exact ⟨⟨_, rfl, dkNew_none _ _⟩, below_sets HB1.out (w.heap.size + 1) (by omega) [.slice none 0 0, .slice none 0 0] 0⟩
  have hfit := disk_fits hd
  have HD : Hid (diskE s t = 0) := hd
  rw [hd]
  clear hd
  have x0 := hA1.at 0 rfl
  have x1 := hA1.at 1 rfl
  go_wp2_with fail
  obtain ⟨W2, hW, hQ, hB2, -⟩ := laid1 w1 [.slice a s.length c, .slice a' t.length c'] 45
  rw [hW]
  clear hW x0 x1
  have HB2 := Lib.hid (HB1.out.trans (hB2.mono HB1.out.size))
  have hR2 := hR1.keep hB2
  refine (concatBts_any W2 w1.heap.size a a' c c' s t (by omega) (by omega) (H1.out).none (H2.out).none (hQ.at 0 rfl) (hQ.at 1 rfl) (H1.out.keep HB2.out).reads (H2.out.keep HB2.out).reads).mono ?_
  rintro e w3 ⟨v3, rfl, hO, hb⟩
  have hR3 := hR2.keep hb
  have HB3 := Lib.hid (HB2.out.trans (hb.mono HB2.out.size))
  obtain ⟨q, hq⟩ : ∃ q, q = s ++ t := ⟨_, rfl⟩
  rw [← hq] at hO
  have hl3 : q.length ≤ 60000 := by rw [hq]; simp; omega
  have HQ : Hid (q = s ++ t) := hq
  clear hq
  obtain ⟨a3, c3, rfl, -⟩ := OwnB.bs hO (by omega)
  have hbase : w.heap.size + 1 < W2.heap.size := hR2.lt
  clear hb hR1 hR2 HB1 HB2 hB2 hA1
  go_wp2_with fail
  obtain ⟨W4, hW, hX, hB4, -⟩ := laid1 w3 [.slice a3 q.length c3, .slice none 0 0] 47
  rw [hW]
  have HB4 := Lib.hid (HB3.out.trans (hB4.mono HB3.out.size))
  have hR4 := hR3.keep hB4
  have HS4 := Lib.hid (OwnE.keep hO hB4)
  clear hO hB4 hR3 HB3
  clear hW
  refine (kcheck_any W4 _ q [] ⟨a3, c3, none, 0, rfl, OwnB.bsi HS4.out (by omega), bsIs_nil _⟩ (HV.out.on HB4.out)).mono ?_
  rintro e w5 ⟨rfl, hb⟩
  have hX5 := hX.keep hb
  have hR5 := hR4.keep hb
  have HB5 := Lib.hid (HB4.out.trans (hb.mono HB4.out.size))
  have HS5 := Lib.hid (OwnE.keep HS4.out hb)
  clear hb hX hR4 HB4 HS4
  have r0 := hR5.at 0 rfl
  have r1 := hR5.at 1 rfl
  have rf := hR5.frz
  by_cases he : diskE q [] = 0
  case neg =>
    have HE : Hid (syncE s t = diskE q [] ∧ syncS s t = []) := by
      have := HQ.out
      subst this
      exact sync_many HD.out he
    have d1 : (diskE q [] != 0) = true := by simpa using he
    generalize diskE q [] = E at *
    clear he
    go_wp2
    refine ret_cell_tmp Tryz.results9 rfl rfl ((hR5.sets [.slice none 0 0, .slice none 0 0] rfl).load Tryz.underlying47 rfl sizeDisk) ?_
    rw [HE.out.1, HE.out.2]
    exact ⟨⟨_, rfl, dkNew_none _ _⟩, below_sets HB5.out (w.heap.size + 1) (by omega) [.slice none 0 0, .slice none 0 0] 0⟩
  have HE : Hid (syncE s t = 0 ∧ syncS s t = q) := by
    have := HQ.out
    subst this
    exact sync_ok HD.out he
  rw [he]
  clear he
  have x0 := hX5.at 0 rfl
  have x1 := hX5.at 1 rfl
  go_wp2
  refine ret_cell_tmp Tryz.results9 rfl rfl ((hR5.sets [.slice a3 q.length c3, .slice none 0 0] rfl).load Tryz.underlying47 rfl sizeDisk) ?_
  rw [HE.out.1, HE.out.2]
  refine ⟨⟨_, rfl, a3, c3, none, 0, rfl, ?_, bsIs_nil _, from_mono (OwnB.from HS5.out) (by omega), from_none⟩, below_sets HB5.out (w.heap.size + 1) (by omega) [.slice a3 q.length c3, .slice none 0 0] 0⟩
  exact OwnB.bsi (OwnE.others (w.heap.size + 1) hbase [.slice a3 q.length c3, .slice none 0 0] 0 _ HS5.out) (by omega)
end Go.Proofs.YthlhnokgcnieeadGreatDoor

/- slices.Grow of nothing, slices.Concat at records in memory. -/
namespace Go.Proofs.YthlhnokgcnieeadGreatDoor
open Go.ChangeShapes Go.WideShapes Go.ChangeAt Go.RowKit

set_option maxHeartbeats 1000000 in
set_option maxRecDepth 100000 in
theorem growRecs_any (w : World) (n : Nat) (hn : n ≤ 1000) :
    Calls Tryz.prog 54 #[.slice none 0 0, .int .i64 n] w
      fun e w' => ∃ v, e = .returned v ∧ OwnE rcC 11 43 w' w.heap.size v [] ∧ Below w.heap.size w w' := by
  obtain ⟨i0, hi, hz0, hz1, hz2⟩ := info_parts infoRec
  have h1 : ¬ ((n : Int) < 0) := by omega
  by_cases hp : 0 < n
  · have h4 : (n : Int) > 0 := by omega
    have hold : (Builtin.firstCells i0.size 0 (.slice none 0 0)).run Tryz.prog w.drew = .ok ([] : List Value).toArray w.drew := by simp [Builtin.firstCells]
    have hr : ∀ ty, (Builtin.append_ #[22, 3] ty #[.slice none 0 0, .int .i64 (n : Int)]).run Tryz.prog w = _ := fun ty => Lib.run_append_grow_zeros w 22 3 ty 43 i0 _ .i64 .i64 Tryz.underlying22 Tryz.underlying3 hi hz0 none 0 0 [] hold n hp (by omega) (by omega) (by omega) (by rw [hz2]; omega) (growslice_fits (by omega) (by rw [hz2]; omega))
    have hge := grownCap_ge w (0 + n) 0 43
    have hle := grownCap_le_maxLen w (0 + n) 0 43 (by unfold maxLen; omega)
    generalize grownCap w (0 + n) 0 43 = G at *
    have hle' : G ≤ 9223372036854775807 := hle
    have HO : Hid (∀ cur : Array Value, cur.size = G * 11 → OwnE rcC 11 43 (w.drew.alloc (.cells cur 43)) w.heap.size (.slice (some ⟨w.heap.size, 0, none⟩) 0 G) []) := fun cur hc =>
      ⟨rfl, Or.inr ⟨w.heap.size, G, cur, rfl, Nat.le_refl _, blk_new rfl, Nat.zero_le _, hle, hc, by simp⟩⟩
    have HB : Hid (∀ o : Obj, Below w.heap.size w (w.drew.alloc o)) := fun o => ((Below.refl _ w).drew).alloc (Nat.le_refl _) o
    have HSZ : Hid ((([] : List Value).toArray ++ Builtin.zeroCells (Value.agg #[.int .i64 0, .int .i64 0, .int .i64 0, .slice none 0 0, .int .i64 0, .int .i64 0, .int .i64 0, .int .i64 0, .int .i64 0, .int .i64 0, .int .i64 0]).cells n ++ Builtin.zeroCells (Value.agg #[.int .i64 0, .int .i64 0, .int .i64 0, .slice none 0 0, .int .i64 0, .int .i64 0, .int .i64 0, .int .i64 0, .int .i64 0, .int .i64 0, .int .i64 0]).cells (G - (0 + n))).size = G * 11) := by
      show _ = _
      rw [Array.size_append, Array.size_append, size_zeroCells, size_zeroCells]
      simp [Value.cells]
      omega
    generalize (([] : List Value).toArray ++ Builtin.zeroCells (Value.agg #[.int .i64 0, .int .i64 0, .int .i64 0, .slice none 0 0, .int .i64 0, .int .i64 0, .int .i64 0, .int .i64 0, .int .i64 0, .int .i64 0, .int .i64 0]).cells n ++ Builtin.zeroCells (Value.agg #[.int .i64 0, .int .i64 0, .int .i64 0, .slice none 0 0, .int .i64 0, .int .i64 0, .int .i64 0, .int .i64 0, .int .i64 0, .int .i64 0, .int .i64 0]).cells (G - (0 + n))) = cur at *
    clear hold
    go_enter Tryz.func54, Tryz.ntmps54
    go_wp2_with (at_builtin; refine Lib.wpList_append_run _ rfl _ _ _ _ rfl _ _ rfl rfl _ _ (hr _) ?_)
    all_goals (go_ret; exact ⟨_, rfl, HO.out cur HSZ.out, HB.out _⟩)
  · obtain rfl : n = 0 := by omega
    go_enter Tryz.func54, Tryz.ntmps54
    go_wp2
    go_ret
    exact ⟨_, rfl, OwnE.nil _ _, Below.refl _ _⟩

set_option maxHeartbeats 2000000 in
set_option maxRecDepth 100000 in
theorem concatRecs_any (w : World) (bq : Nat) (a1 a2 : Option Addr) (c1 c2 : Nat) (l1 l2 : List Rm) (hl1 : l1.length ≤ 500) (hl2 : l2.length ≤ 500) (hc1 : a1 = none → c1 = 0) (hc2 : a2 = none → c2 = 0)
    (q0 : w.cell? ⟨bq, 0, none⟩ = some (.slice a1 l1.length c1)) (q1 : w.cell? ⟨bq, 1, none⟩ = some (.slice a2 l2.length c2)) (h1 : SlE rcC w a1 l1) (h2 : SlE rcC w a2 l2) :
    Calls Tryz.prog 30 #[.slice (some ⟨bq, 0, none⟩) 2 2] w
      fun e w' => ∃ v, e = .returned v ∧ OwnE rcC 11 43 w' w.heap.size v (l1 ++ l2) ∧ Below w.heap.size w w' := by
  obtain ⟨i0, hi, hz0, hz1, hz2⟩ := info_parts infoRec
  have hbq : bq < w.heap.size := World.block_lt_of_cell? w ⟨bq, 0, none⟩ q0
  go_enter Tryz.func30, Tryz.ntmps30
  go_wp2
  go_loop [3, 11] (fun x i => ∃ k : Nat, k ≤ 2 ∧ i = .int .i64 k ∧ x = .int .i64 (if k = 0 then 0 else if k = 1 then l1.length else l1.length + l2.length : Nat)) (fun _ i => 2 - (intOf i).toNat)
  case atStart => exact ⟨0, by omega, rfl, rfl⟩
  case round =>
    obtain ⟨k, hk, rfl, rfl⟩ := hrel
    have hc : k = 0 ∨ k = 1 ∨ k = 2 := by omega
    rcases hc with rfl | rfl | rfl
    · simp only [if_true]
      have d1 : decide ((l1.length : Int) < 0) = false := by simp <;> omega
      go_wp2
      go_round
      case rel => exact ⟨1, by omega, by go_num, by simp⟩
      case measure => simp [intOf]
    · simp only [show ¬ (1 = 0) by omega, if_true, if_false]
      have d1 : decide ((l1.length : Int) + (l2.length : Int) < 0) = false := by simp <;> omega
      go_wp2
      go_round
      case rel => exact ⟨2, by omega, by go_num, by simp⟩
      case measure => simp [intOf]
    · simp only [show ¬ (2 = 0) by omega, show ¬ (2 = 1) by omega, if_false]
      have HG := growRecs_any w (l1.length + l2.length) (by omega)
      have HGG : Hid (Calls Tryz.prog 54 #[.slice none 0 0, .int .i64 (l1.length + l2.length : Nat)] w fun e w' => ∃ v, e = .returned v ∧ OwnE rcC 11 43 w' w.heap.size v [] ∧ Below w.heap.size w w') := HG
      clear HG
      go_wp2_with fail
      refine HGG.out.mono ?_
      rintro e w1 ⟨v1, rfl, hO1, hb1⟩
      clear HGG
      go_wp2
      go_loopw [6, 27] (fun v i W => ∃ k : Nat, k ≤ 2 ∧ i = .int .i64 k ∧ OwnE rcC 11 43 W w.heap.size v (if k = 0 then [] else if k = 1 then l1 else l1 ++ l2) ∧ Below w.heap.size w W) (fun _ i _ => 2 - (intOf i).toNat)
      case atStart => exact ⟨0, by omega, rfl, hO1, hb1⟩
      case round =>
        obtain ⟨k, hk, rfl, hO, hb⟩ := hrel
        have hc : k = 0 ∨ k = 1 ∨ k = 2 := by omega
        have qr0 : wr.cell? ⟨bq, 0, none⟩ = some (.slice a1 l1.length c1) := by rw [hb.cell (by exact hbq)]; exact q0
        have qr1 : wr.cell? ⟨bq, 1, none⟩ = some (.slice a2 l2.length c2) := by rw [hb.cell (by exact hbq)]; exact q1
        rcases hc with rfl | rfl | rfl
        · simp only [if_true] at hO
          cases a1 with
          | none =>
            have e1 := slE_none h1
            have e2 := hc1 rfl
            have qr0' : wr.cell? ⟨bq, 0, none⟩ = some (.slice none 0 0) := by rw [qr0, e1, e2]; rfl
            have HE : Hid (l1 = []) := e1
            clear qr0 e1 e2
            go_wp2_with (at_builtin; refine wpList_append_own_none rfl _ _ 22 rfl w.heap.size 43 i0 11 Tryz.underlying22 hi _ 0 [] rfl hO.row rfl ?_)
            go_roundw
            case rel => exact ⟨1, by omega, by go_num, by simp [HE.out]; exact hO, hb⟩
            case measure => simp [intOf]
          | some ad =>
            have hn := slE_news (h1.below hb)
            have HN : Hid (∀ j u, (l1.flatMap rcC)[j]? = some u → wr.cell? (ad.add j) = some u) := hn
            have hown : wr.ownsRow w.heap.size 43 11 u6 0 [] := hO.row
            clear hn
            go_wp2_with (at_builtin; refine wpList_append_own _ rfl _ _ 22 rfl w.heap.size 43 i0 _ 11 104 Tryz.underlying22 hi hz0 hz1 hz2 rfl (by decide) _ _ _ rfl hown ad l1.length c1 (l1.flatMap rcC) rfl (flatE_len rcC_len l1) ?c1 ?c2 ?c3 ?c4 ?c5 ?_)
            case c1 => exact HN.out
            case c2 => exact flat_oneE rcC_one l1
            case c3 => unfold maxLen; omega
            case c4 => omega
            case c5 => exact hb.size
            intro v' w4 hown' hgrow _
            have hb4 := hb.trans (below_grown hown hb.size hgrow)
            clear hgrow hown
            go_wp2
            go_roundw
            case rel => exact ⟨1, by omega, by go_num, by simp; simpa [OwnE] using hown', hb4⟩
            case measure => simp [intOf]
        · simp only [show ¬ (1 = 0) by omega, if_true, if_false] at hO
          cases a2 with
          | none =>
            have e1 := slE_none h2
            have e2 := hc2 rfl
            have qr1' : wr.cell? ⟨bq, 1, none⟩ = some (.slice none 0 0) := by rw [qr1, e1, e2]; rfl
            have HE : Hid (l2 = []) := e1
            clear qr1 e1 e2
            go_wp2_with (at_builtin; refine wpList_append_own_none rfl _ _ 22 rfl w.heap.size 43 i0 11 Tryz.underlying22 hi _ l1.length (l1.flatMap rcC) rfl hO.row rfl ?_)
            go_roundw
            case rel => exact ⟨2, by omega, by go_num, by simp [HE.out]; exact hO, hb⟩
            case measure => simp [intOf]
          | some ad =>
            have hn := slE_news (h2.below hb)
            have HN : Hid (∀ j u, (l2.flatMap rcC)[j]? = some u → wr.cell? (ad.add j) = some u) := hn
            have hown : wr.ownsRow w.heap.size 43 11 u6 l1.length (l1.flatMap rcC) := hO.row
            clear hn
            go_wp2_with (at_builtin; refine wpList_append_own _ rfl _ _ 22 rfl w.heap.size 43 i0 _ 11 104 Tryz.underlying22 hi hz0 hz1 hz2 rfl (by decide) _ _ _ rfl hown ad l2.length c2 (l2.flatMap rcC) rfl (flatE_len rcC_len l2) ?d1 ?d2 ?d3 ?d4 ?d5 ?_)
            case d1 => exact HN.out
            case d2 => exact flat_oneE rcC_one l2
            case d3 => unfold maxLen; omega
            case d4 => omega
            case d5 => exact hb.size
            intro v' w4 hown' hgrow _
            have hb4 := hb.trans (below_grown hown hb.size hgrow)
            clear hgrow hown
            go_wp2
            go_roundw
            case rel => exact ⟨2, by omega, by go_num, by simp; simpa [OwnE] using hown', hb4⟩
            case measure => simp [intOf]
        · simp only [show ¬ (2 = 0) by omega, show ¬ (2 = 1) by omega, if_false] at hO
          go_wp2
          go_ret
          exact ⟨_, rfl, hO, hb⟩
end Go.Proofs.YthlhnokgcnieeadGreatDoor

/- disk.Recover. -/
namespace Go.Proofs.YthlhnokgcnieeadGreatDoor
open Go.ChangeShapes Go.WideShapes Go.ChangeAt Go.RowKit
open Orangery (Mv Rc noRec noOp lnL lnN lnE diskE recovS recovL)

/-- chapter 7's Recover -/
def rcvS (s t : List UInt8) : List UInt8 := if diskE s t ≠ 0 then [] else recovS s t
def rcvL (s t : List UInt8) : List Rc := if diskE s t ≠ 0 then [] else recovL s t
theorem rcv_bad {s t : List UInt8} (h : diskE s t ≠ 0) : rcvS s t = [] ∧ rcvL s t = [] := by unfold rcvS rcvL; rw [if_pos h, if_pos h]; exact ⟨rfl, rfl⟩
theorem rcv_ok {s t : List UInt8} (h : diskE s t = 0) : rcvS s t = s ++ t.take (lnN (60 - (lnL 60 s).length) t) ∧ rcvL s t = lnL 60 s ++ lnL (60 - (lnL 60 s).length) t := by
  unfold rcvS rcvL
  rw [if_neg (by simpa using h), if_neg (by simpa using h)]
  exact ⟨rfl, rfl⟩
theorem BsIs.take {w : World} {a : Option Addr} {c : Nat} {l : List UInt8} (h : BsIs w a c l) (n : Nat) : BsIs w a c (l.take n) :=
  ⟨SlE.take h.reads n, h.none, by have := h.room; simp; omega, h.cap, by have := h.few; simp; omega⟩
theorem ownR_concat {w : World} {base : Nat} {v : Value} {X Y : List Rm} (h : OwnE rcC 11 43 w base v (X ++ Y)) (hx : ∀ x ∈ X, RootsIn 0 w x) (hy : ∀ x ∈ Y, RootsIn 0 w x) : OwnR w base v 0 (X ++ Y) :=
  ⟨h, fun x hm => by rcases List.mem_append.1 hm with h' | h'; exact hx x h'; exact hy x h'⟩

set_option maxHeartbeats 2000000 in
set_option maxRecDepth 100000 in
theorem krecover_any (w : World) (v : Value) (s t : List UInt8) (h : DkIs w v s t) (hv : Vars w) :
    Calls Tryz.prog 10 #[v] w fun e w' => (∃ (v' lv : Value) (X : List Rm), e = .returned (.tuple #[v', lv, .int .i64 (diskE s t)]) ∧ DkNew w.heap.size w' v' (rcvS s t) [] ∧ OwnR w' w.heap.size lv 0 X ∧ X.map (·.1) = rcvL s t) ∧ Below w.heap.size w w' := by
  obtain ⟨a, c, a', c', rfl, h1, h2⟩ := h
  have H1 := Lib.hid h1
  have H2 := Lib.hid h2
  have HV := Lib.hid hv
  have hroom : t.length ≤ c' := h2.room
  have hcap : c' ≤ 9223372036854775807 := h2.cap
  clear h1 h2 hv
  go_enter Tryz.func10, Tryz.ntmps10
  go_wp2_with fail
  obtain ⟨W0, hW, hA, hR, hB, -⟩ := laid2 w [.slice a s.length c, .slice a' t.length c'] 47 [.slice none 0 0, .slice none 0 0] 47
  rw [hW]
  clear hW
  refine (kcheck_any W0 _ s t ⟨a, c, a', c', rfl, H1.out.keep hB, H2.out.keep hB⟩ (HV.out.on hB)).mono ?_
  rintro e w1 ⟨rfl, hb⟩
  have hA1 := hA.keep hb
  have hR1 := hR.keep hb
  have HB1 := Lib.hid (hB.trans (hb.mono hB.size))
  clear hA hR hB hb
  by_cases hd : diskE s t = 0
  case neg =>
    have HE := Lib.hid (rcv_bad hd)
    have d1 : (diskE s t != 0) = true := by simpa using hd
    generalize hE : diskE s t = E at *
    have HEq : Hid (diskE s t = E) := hE
    have r0 := hR1.at 0 rfl
    have r1 := hR1.at 1 rfl
    have rf := hR1.frz
    clear hd hE
    go_wp2
    refine ret_cell_tmp_tmp Tryz.results10 rfl rfl rfl ((hR1.sets [.slice none 0 0, .slice none 0 0] rfl).load Tryz.underlying47 rfl sizeDisk) ?_
    rw [HE.out.1, HE.out.2, HEq.out]
    exact ⟨⟨_, _, [], rfl, dkNew_none _ _, OwnR.nil _ _ _, rfl⟩, below_sets HB1.out (w.heap.size + 1) (by omega) [.slice none 0 0, .slice none 0 0] 0⟩
  have hfit := disk_fits hd
  have HD := Lib.hid (rcv_ok hd)
  have HD0 : Hid (diskE s t = 0) := hd
  rw [hd]
  clear hd
  have x0 := hA1.at 0 rfl
  go_wp2_with fail
  refine (kread_any w1 a c s 60 (by omega) (by omega) (H1.out.keep HB1.out) (HV.out.on HB1.out)).mono ?_
  rintro e w2 ⟨⟨v2, X, a2, c2, rfl, hO, hX, hF⟩, hb⟩
  have hA2 := hA1.keep hb
  have hR2 := hR1.keep hb
  have HB2 := Lib.hid (HB1.out.trans (hb.mono HB1.out.size))
  have hz : w.heap.size + 1 < w1.heap.size := hR1.lt
  have hz2 : w1.heap.size ≤ w2.heap.size := hb.size
  clear x0 hA1 hR1 hb
  have hXl : X.length ≤ 60 := by
    have := Orangery.lnL_len 60 s
    rw [← hX] at this
    simpa using this
  rw [← hX] at HD
  rw [List.length_map] at HD
  obtain ⟨aX, cX, rfl, -, hcX, hnX⟩ := hO.val
  have HO := Lib.hid hO
  have HF := Lib.hid hF
  have HX : Hid (X.map (·.1) = lnL 60 s) := hX
  have HNX : Hid (aX = none → cX = 0) := hnX
  have e60 : (60 : Int) - (X.length : Int) = ((60 - X.length : Nat) : Int) := by omega
  clear hO hF hX hnX
  obtain ⟨m, hm⟩ : ∃ m, 60 - X.length = m := ⟨_, rfl⟩
  rw [hm] at HD e60
  have hm60 : m ≤ 60 := by omega
  clear hm
  generalize lnE 60 s = E60 at *
  generalize s.length - lnN 60 s = z60 at *
  have x1 := hA2.at 1 rfl
  go_wp2_with fail
  refine (kread_any w2 a' c' t m (by omega) hm60 (H2.out.keep HB2.out) (HV.out.on HB2.out)).mono ?_
  rintro e w3 ⟨⟨v3, Y, a3, c3, rfl, hO3, hY, hF3⟩, hb⟩
  have hA3 := hA2.keep hb
  have hR3 := hR2.keep hb
  have HB3 := Lib.hid (HB2.out.trans (hb.mono HB2.out.size))
  have HO2 := Lib.hid (HO.out.keep hb)
  have hz3 : w2.heap.size ≤ w3.heap.size := hb.size
  clear x1 hA2 hR2 hb HB2 HO
  have hYl : Y.length ≤ 60 := by
    have := Orangery.lnL_len m t
    rw [← hY] at this
    simp at this
    omega
  have hNl := Orangery.lnN_len m t
  rw [← hY] at HD
  obtain ⟨aY, cY, rfl, -, hcY, hnY⟩ := hO3.val
  have HO3 := Lib.hid hO3
  have HF3 := Lib.hid hF3
  have HNY : Hid (aY = none → cY = 0) := hnY
  clear hO3 hF3 hY hnY
  generalize lnE m t = E3 at *
  generalize lnN m t = N at *
  obtain ⟨r, hr⟩ : ∃ r, t.length - N = r := ⟨_, rfl⟩
  rw [hr]
  have eN : (t.length : Int) - (r : Int) = (N : Int) := by omega
  have hNc : N ≤ c' := by omega
  have HTk : Hid ((t.take N).length = N) := by show _ = _; simp; omega
  clear hr
  have x0 := hA3.at 0 rfl
  have x1 := hA3.at 1 rfl
  go_wp2_with fail
  obtain ⟨W4, hW, hQ, hB4, -⟩ := laid1 w3 [.slice a s.length c, .slice a' N c'] 45
  rw [hW]
  clear hW x0 x1
  have HB4 := Lib.hid (HB3.out.trans (hB4.mono HB3.out.size))
  have hR4 := hR3.keep hB4
  have HO4 := Lib.hid ((HO2.out.keep hB4))
  have HP4 := Lib.hid (HO3.out.keep hB4)
  have q1 := hQ.at 1 rfl
  rw [← HTk.out] at q1
  refine (concatBts_any W4 w3.heap.size a a' c c' s (t.take N) (by omega) (by rw [HTk.out]; omega) (H1.out).none (H2.out).none (hQ.at 0 rfl) q1 (H1.out.keep HB4.out).reads ((H2.out.keep HB4.out).take N).reads).mono ?_
  rintro e w5 ⟨v5, rfl, hO5, hb⟩
  have hR5 := hR4.keep hb
  have HB5 := Lib.hid (HB4.out.trans (hb.mono HB4.out.size))
  have HO5 := Lib.hid (HO4.out.keep hb)
  have HP5 := Lib.hid (HP4.out.keep hb)
  have hz4 : w3.heap.size < W4.heap.size := hQ.lt
  have hz5 : W4.heap.size ≤ w5.heap.size := hb.size
  obtain ⟨q, hq⟩ : ∃ q, q = s ++ t.take N := ⟨_, rfl⟩
  rw [← hq] at hO5
  have hql : q.length ≤ 60000 := by rw [hq, List.length_append, HTk.out]; omega
  have HQ : Hid (q = s ++ t.take N) := hq
  clear hq hb hQ hB4 q1 hR4 hR3 HB3 HB4 HO4 HP4 HO2 HO3 hA3
  obtain ⟨a5, c5, rfl, -⟩ := OwnB.bs hO5 (by omega)
  have HS5 := Lib.hid hO5
  clear hO5
  go_wp2_with fail
  obtain ⟨W6, hW, hQ, hB6, -⟩ := laid1 w5 [.slice aX X.length cX, .slice aY Y.length cY] 22
  rw [hW]
  clear hW
  have HB6 := Lib.hid (HB5.out.trans (hB6.mono HB5.out.size))
  have hR6 := hR5.keep hB6
  have HO6 := Lib.hid (HO5.out.keep hB6)
  have HP6 := Lib.hid (HP5.out.keep hB6)
  have HS6 := Lib.hid (OwnE.keep HS5.out hB6)
  refine (concatRecs_any W6 w5.heap.size aX aY cX cY X Y (by omega) (by omega) HNX.out HNY.out (hQ.at 0 rfl) (hQ.at 1 rfl) HO6.out.own.read HP6.out.own.read).mono ?_
  rintro e w7 ⟨v7, rfl, hO7, hb⟩
  have hR7 := hR6.keep hb
  have HB7 := Lib.hid (HB6.out.trans (hb.mono HB6.out.size))
  have HS7 := Lib.hid (OwnE.keep HS6.out hb)
  have hz6 : w5.heap.size < W6.heap.size := hQ.lt
  have HX7 : Hid (∀ x ∈ X, RootsIn 0 w7 x) := fun x hx => ((HO6.out.roots x hx).keep hb)
  have HY7 : Hid (∀ x ∈ Y, RootsIn 0 w7 x) := fun x hx => ((HP6.out.roots x hx).keep hb)
  have HO7 := Lib.hid hO7
  clear hb hQ hB6 hR5 hR6 HB5 HB6 HO5 HP5 HO6 HP6 HS5 HS6 hO7
  have r0 := hR7.at 0 rfl
  have r1 := hR7.at 1 rfl
  have rf := hR7.frz
  go_wp2
  refine ret_cell_tmp_tmp Tryz.results10 rfl rfl rfl ((hR7.sets [.slice a5 q.length c5, .slice none 0 0] rfl).load Tryz.underlying47 rfl sizeDisk) ?_
  rw [HD.out.1, HD.out.2, HD0.out]
  have hS := OwnB.bsi (OwnE.others (w.heap.size + 1) (by omega) [.slice a5 q.length c5, .slice none 0 0] 0 _ HS7.out) (by omega)
  have hL := OwnE.others (w.heap.size + 1) (by omega) [.slice a5 q.length c5, .slice none 0 0] 0 _ HO7.out
  have hL2 := ownR_concat hL (fun x hx => RootsIn.sets _ 0 _ (HX7.out x hx) (fun b off e => by have := HF.out x hx b off e; omega)) (fun x hx => RootsIn.sets _ 0 _ (HY7.out x hx) (fun b off e => by have := HF3.out x hx b off e; omega))
  rw [← HQ.out]
  refine ⟨⟨_, _, X ++ Y, rfl, ⟨a5, c5, none, 0, rfl, hS, bsIs_nil _, from_mono (OwnB.from HS7.out) (by omega), from_none⟩, ⟨hL2.own.mono (by omega), hL2.roots⟩, by simp⟩, below_sets HB7.out (w.heap.size + 1) (by omega) [.slice a5 q.length c5, .slice none 0 0] 0⟩
end Go.Proofs.YthlhnokgcnieeadGreatDoor

/- note.split. -/
namespace Go.Proofs.YthlhnokgcnieeadGreatDoor
open Go.ChangeShapes Go.WideShapes Go.ChangeAt Go.RowKit
open Orangery (Mv Rc recWord recNums wOp wLife wRoots opNums)

theorem ownI_new (w : World) (l : List Int) (hl : l.length ≤ 1000) : OwnI (w.alloc (.cells (l.map (Value.int .i64)).toArray 3)) w.heap.size (.slice (some ⟨w.heap.size, 0, none⟩) l.length l.length) l :=
  ⟨by simp, Or.inr ⟨w.heap.size, l.length, (l.map (Value.int .i64)).toArray, rfl, Nat.le_refl _, blk_new rfl, Nat.le_refl _, by unfold maxLen; omega, by simp, by simp only [Nat.mul_one]; exact List.take_of_length_le (by simp)⟩⟩
theorem OwnI.mono {w : World} {base base' : Nat} {v : Value} {l : List Int} (h : OwnI w base v l) (hb : base' ≤ base) : OwnI w base' v l := by
  obtain ⟨h1, h2⟩ := h
  refine ⟨h1, ?_⟩
  rcases h2 with h2 | ⟨g, cap, cur, e2, hg, r⟩
  · exact Or.inl h2
  · exact Or.inr ⟨g, cap, cur, e2, by omega, r⟩

set_option maxHeartbeats 2000000 in
set_option maxRecDepth 100000 in
theorem nsplit_op (w : World) (u f : Int) (r : Value) (o : Mv) (hr : ∃ a n c, r = .slice a n c) :
    Calls Tryz.prog 48 #[rcV 1 u f r o] w fun e w' => (∃ v, e = .returned (.tuple #[txV wOp, v]) ∧ OwnI w' w.heap.size v (opNums o)) ∧ Below w.heap.size w w' := by
  obtain ⟨a, n, c, rfl⟩ := hr
  obtain ⟨o1, o2, ⟨o3, o4, o5⟩, o6, o7⟩ := o
  go_enter Tryz.func48, Tryz.ntmps48
  go_wp2_with fail
  obtain ⟨W, hW, hA, hO, hB, -⟩ := laid2 w [Value.int IntKind.i64 1, .int .i64 u, .int .i64 f, .slice a n c, .int .i64 o1, .int .i64 o2, .int .i64 o3, .int .i64 o4, .int .i64 o5, .int .i64 o6, .int .i64 o7] 43 [.int .i64 o1, .int .i64 o2, .int .i64 o3, .int .i64 o4, .int .i64 o5, .int .i64 o6, .int .i64 o7] 41
  rw [hW]
  clear hW hA
  have m0 := hO.at 0 rfl
  have m1 := hO.at 1 rfl
  have m2 := hO.at 2 rfl
  have m3 := hO.at 3 rfl
  have m4 := hO.at 4 rfl
  have m5 := hO.at 5 rfl
  have m6 := hO.at 6 rfl
  clear hO
  generalize w.heap.size + 1 = g at *
  go_region_held3 (fun w' => w'.cell? ⟨g, 0, none⟩ = some (.int .i64 o1) ∧ w'.cell? ⟨g, 1, none⟩ = some (.int .i64 o2) ∧ w'.cell? ⟨g, 2, none⟩ = some (.int .i64 o3) ∧ w'.cell? ⟨g, 3, none⟩ = some (.int .i64 o4) ∧ w'.cell? ⟨g, 4, none⟩ = some (.int .i64 o5) ∧ w'.cell? ⟨g, 5, none⟩ = some (.int .i64 o6) ∧ w'.cell? ⟨g, 6, none⟩ = some (.int .i64 o7)) (go_keep) (fail)
  go_wp2
  go_ret2
  exact ⟨⟨_, rfl, (ownI_new W [o1, o2, o3, o4, o5, o6, o7] (by simp)).mono hB.size⟩, (hB.alloc hB.size _).drew⟩

set_option maxHeartbeats 2000000 in
set_option maxRecDepth 100000 in
theorem nsplit_life (w : World) (u f : Int) (r : Value) (o : Mv) (hr : ∃ a n c, r = .slice a n c) :
    Calls Tryz.prog 48 #[rcV 2 u f r o] w fun e w' => (∃ v, e = .returned (.tuple #[txV wLife, v]) ∧ OwnI w' w.heap.size v [u, f]) ∧ Below w.heap.size w w' := by
  obtain ⟨a, n, c, rfl⟩ := hr
  go_enter Tryz.func48, Tryz.ntmps48
  go_wp2_with fail
  obtain ⟨W, hW, hA, hB, -⟩ := laid1 w [Value.int IntKind.i64 2, .int .i64 u, .int .i64 f, .slice a n c, .int .i64 o.1, .int .i64 o.2.1, .int .i64 o.2.2.1.1, .int .i64 o.2.2.1.2.1, .int .i64 o.2.2.1.2.2, .int .i64 o.2.2.2.1, .int .i64 o.2.2.2.2] 43
  rw [hW]
  clear hW
  have m1 := hA.at 1 rfl
  have m2 := hA.at 2 rfl
  clear hA
  go_region_held3 (fun w' => w'.cell? ⟨w.heap.size, 1, none⟩ = some (.int .i64 u) ∧ w'.cell? ⟨w.heap.size, 2, none⟩ = some (.int .i64 f)) (go_keep) (fail)
  go_wp2
  go_ret2
  exact ⟨⟨_, rfl, (ownI_new W [u, f] (by simp)).mono hB.size⟩, (hB.alloc hB.size _).drew⟩

set_option maxHeartbeats 2000000 in
set_option maxRecDepth 100000 in
theorem nsplit_roots (w : World) (u f : Int) (a : Option Addr) (c : Nat) (R : List Int) (o : Mv) (hl : R.length ≤ 500) (hn : a = none → c = 0) (h : SlI w a R) :
    Calls Tryz.prog 48 #[rcV 3 u f (.slice a R.length c) o] w fun e w' => (∃ v, e = .returned (.tuple #[txV wRoots, v]) ∧ OwnI w' w.heap.size v (u :: R)) ∧ Below w.heap.size w w' := by
  obtain ⟨i0, hi, hz0, hz1, hz2⟩ := info_parts infoInt
  obtain ⟨W, hW, hA, hN, hB, -⟩ := laid2 w [Value.int IntKind.i64 3, .int .i64 u, .int .i64 f, .slice a R.length c, .int .i64 o.1, .int .i64 o.2.1, .int .i64 o.2.2.1.1, .int .i64 o.2.2.1.2.1, .int .i64 o.2.2.1.2.2, .int .i64 o.2.2.2.1, .int .i64 o.2.2.2.2] 43 [.int .i64 u] 3
  have hown : ((w.alloc (Obj.cells [Value.int IntKind.i64 3, .int .i64 u, .int .i64 f, .slice a R.length c, .int .i64 o.1, .int .i64 o.2.1, .int .i64 o.2.2.1.1, .int .i64 o.2.2.1.2.1, .int .i64 o.2.2.1.2.2, .int .i64 o.2.2.2.1, .int .i64 o.2.2.2.2].toArray 43)).alloc (Obj.cells [Value.int IntKind.i64 u].toArray 3)).ownsRow w.heap.size 3 1 (.slice (some ⟨w.heap.size + 1, 0, none⟩) 1 1) 1 [.int .i64 u] :=
    ⟨rfl, Or.inr ⟨w.heap.size + 1, 1, [Value.int IntKind.i64 u].toArray, rfl, by omega, blk_new (by simp), Nat.le_refl _, by unfold maxLen; omega, rfl, rfl⟩⟩
  cases a with
  | none =>
    have e1 := h.none_nil
    have e2 := hn rfl
    subst e1 e2
    clear hW hA hN hB
    go_enter Tryz.func48, Tryz.ntmps48
    go_wp2_with (at_builtin; refine wpList_append_own_none rfl _ _ 37 rfl w.heap.size 3 i0 1 Tryz.underlying37 hi _ 1 [.int .i64 u] rfl hown rfl ?_)
    go_wp2
    go_ret2
    exact ⟨⟨_, rfl, hown⟩, Go.Joins.below_alloc2 w _ _⟩
  | some ad =>
    have HN : Hid (∀ j v, (R.map (Value.int .i64))[j]? = some v → W.cell? (ad.add j) = some v) := (h.below hB).news
    rw [hW] at hown
    have x3 := hA.at 3 rfl
    clear hA hN h
    go_enter Tryz.func48, Tryz.ntmps48
    go_wp2_with (at_builtin; refine wpList_append_own _ rfl _ _ 37 rfl w.heap.size 3 i0 _ 1 8 Tryz.underlying37 hi hz0 hz1 hz2 rfl (by decide) _ _ _ rfl hown ad R.length c (R.map (Value.int .i64)) rfl (by simp) ?c1 ?c2 ?c3 ?c4 ?c5 ?_)
    case c1 => exact HN.out
    case c2 => exact map_one R
    case c3 => unfold maxLen; omega
    case c4 => omega
    case c5 => exact hB.size
    · intro v' w1 hown' hgrow _
      have hb1 := hB.trans (below_grown hown hB.size hgrow)
      have hO : OwnI w1 w.heap.size v' (u :: R) := by
        show w1.ownsRow _ _ _ _ _ _
        rw [show (u :: R).length = 1 + R.length by simp; omega]
        exact hown'
      clear hgrow hown hown'
      go_wp2
      go_ret2
      exact ⟨⟨_, rfl, hO⟩, hb1⟩

theorem nsplit_any (w : World) (k u f : Int) (a : Option Addr) (c : Nat) (R : List Int) (o : Mv) (hk : k = 1 ∨ k = 2 ∨ k = 3) (hl : R.length ≤ 500) (hn : a = none → c = 0) (h : SlI w a R) :
    Calls Tryz.prog 48 #[rcV k u f (.slice a R.length c) o] w
      fun e w' => (∃ v, e = .returned (.tuple #[txV (recWord (k, u, f, R, o)), v]) ∧ OwnI w' w.heap.size v (recNums (k, u, f, R, o))) ∧ Below w.heap.size w w' := by
  rcases hk with rfl | rfl | rfl
  · exact nsplit_op w u f _ o ⟨_, _, _, rfl⟩
  · exact nsplit_life w u f _ o ⟨_, _, _, rfl⟩
  · exact nsplit_roots w u f a c R o hl hn h
end Go.Proofs.YthlhnokgcnieeadGreatDoor

/- note.Print. -/
namespace Go.Proofs.YthlhnokgcnieeadGreatDoor
open Go.ChangeShapes Go.WideShapes Go.ChangeAt Go.RowKit
open Orangery (Mv Rc recWord recNums recText recT checkRec partT)

theorem recText_bad {r : Rc} (h : checkRec r ≠ 0) : recText r = [] := by unfold recText; rw [if_pos h]
theorem recText_ok {r : Rc} (h : checkRec r = 0) : recText r = recT r := by unfold recText; rw [if_neg (by simpa using h)]
theorem roots_few {k u f : Int} {R : List Int} {o : Mv} (h : checkRec (k, u, f, R, o) = 0) : R.length ≤ 4 := by
  rcases Orangery.checkRec_kind h with h1 | h1 | h1
  · have := (Orangery.checkRec_op h h1).1
    simp at this
    rw [this.2.2.2]; simp
  · have := (Orangery.checkRec_life h h1).1
    simp at this
    rw [this.2.1]; simp
  · exact Orangery.rootsOk_len (Orangery.checkRec_roots h h1).2.2

set_option maxHeartbeats 2000000 in
set_option maxRecDepth 100000 in
theorem nprint_any (w : World) (k u f : Int) (a : Option Addr) (c : Nat) (R : List Int) (o : Mv) (hl : R.length ≤ maxLen) (hn : a = none → c = 0) (h : SlI w a R) (hv : Vars w) :
    Calls Tryz.prog 25 #[rcV k u f (.slice a R.length c) o] w fun e w' => e = .returned (.tuple #[txV (recText (k, u, f, R, o)), .int .i64 (checkRec (k, u, f, R, o))]) ∧ Below w.heap.size w w' := by
  go_enter Tryz.func25, Tryz.ntmps25
  go_wp2_with fail
  obtain ⟨W0, hW, hA, hB, -⟩ := laid1 w [Value.int IntKind.i64 k, .int .i64 u, .int .i64 f, .slice a R.length c, .int .i64 o.1, .int .i64 o.2.1, .int .i64 o.2.2.1.1, .int .i64 o.2.2.1.2.1, .int .i64 o.2.2.1.2.2, .int .i64 o.2.2.2.1, .int .i64 o.2.2.2.2] 43
  rw [hW]
  clear hW
  refine (ncheck_any W0 k u f a c R o hl (h.below hB)).mono ?_
  rintro e w1 ⟨rfl, hb1⟩
  have hA1 := hA.keep hb1
  have h1 := (h.below hB).below hb1
  have hB1 : Below w.heap.size w w1 := hB.trans (hb1.mono hB.size)
  have hv1 := hv.on hB1
  clear hA hB hb1 h hv
  by_cases hc : checkRec (k, u, f, R, o) = 0
  case neg =>
    have HT : Hid (recText (k, u, f, R, o) = []) := recText_bad hc
    have d1 : (checkRec (k, u, f, R, o) != 0) = true := by simpa using hc
    have HB := Lib.hid hB1
    clear hc hA1 h1 hv1 hB1
    go_wp2
    go_ret2
    rw [HT.out]
    exact ⟨rfl, HB.out⟩
  have HT : Hid (recText (k, u, f, R, o) = recT (k, u, f, R, o)) := recText_ok hc
  have HL : Hid ((recT (k, u, f, R, o)).length ≤ 176) := Orangery.recT_len hc
  have HS := Lib.hid (Orangery.recNums_small hc)
  have hk := Orangery.checkRec_kind hc
  have hr4 := roots_few hc
  have HC : Hid (checkRec (k, u, f, R, o) = 0) := hc
  rw [hc]
  clear hc
  have x0 := hA1.at 0 rfl
  have x1 := hA1.at 1 rfl
  have x2 := hA1.at 2 rfl
  have x3 := hA1.at 3 rfl
  have x4 := hA1.at 4 rfl
  have x5 := hA1.at 5 rfl
  have x6 := hA1.at 6 rfl
  have x7 := hA1.at 7 rfl
  have x8 := hA1.at 8 rfl
  have x9 := hA1.at 9 rfl
  have x10 := hA1.at 10 rfl
  go_wp2_with fail
  refine (nsplit_any w1 k u f a c R o hk (by omega) hn h1).mono ?_
  rintro e w2 ⟨⟨v2, rfl, hO2⟩, hb2⟩
  have HE : Hid (recT (k, u, f, R, o) = partT (recWord (k, u, f, R, o)) (recNums (k, u, f, R, o)) (recNums (k, u, f, R, o)).length) := by
    show _ = _
    rw [Orangery.partT_all]
    rfl
  have HP : Hid (∀ j, (partT (recWord (k, u, f, R, o)) (recNums (k, u, f, R, o)) j).length ≤ 176) := fun j => Nat.le_trans (Orangery.partT_len _ _ j) HL.out
  have hB2 : Below w.heap.size w w2 := hB1.trans (hb2.mono hB1.size)
  have hv2 := hv1.on hb2
  clear hA1 h1 hv1 hb2 hB1 x0 x1 x2 x3 x4 x5 x6 x7 x8 x9 x10 hk hr4 hl hn HL
  obtain ⟨a2, c2, rfl, hI2, hc2, hm2⟩ := hO2.caps
  clear hO2
  generalize recWord (k, u, f, R, o) = wd at *
  generalize recNums (k, u, f, R, o) = ns at *
  have hBn := Go.Joins.below_alloc1 w2 (Obj.cells #[.pointer none, .slice none 0 0] 107)
  have hbu := Built.new w2
  go_wp2_with fail
  refine (write_any _ w2.heap.size w2.heap.size [] wd hbu (by have := HP.out 0; rw [Orangery.partT_zero] at this; simp; omega) hBn.size).mono ?_
  rintro e w3 ⟨⟨n3, rfl⟩, hbu3, hb3⟩
  have HB3 : Hid (Below w2.heap.size w2 w3) := hBn.trans hb3
  have HU3 : Hid (Built w3 w2.heap.size w2.heap.size (partT wd ns 0)) := by
    show Built _ _ _ _
    rw [Orangery.partT_zero]
    exact hbu3
  clear hbu hbu3 hb3 hBn
  have HV := Lib.hid hv2
  have HI := Lib.hid hI2
  have HB2 := Lib.hid hB2
  clear hv2 hI2 hB2
  have hns : ns.length ≤ 7 := HS.out.1
  go_wp2
  go_loopw [24] (fun i W => ∃ j : Nat, j ≤ ns.length ∧ i = .int .i64 j ∧ Built W w2.heap.size w2.heap.size (partT wd ns j) ∧ Below w2.heap.size w2 W) (fun i _ => ns.length - (intOf i).toNat)
  case atStart => exact ⟨0, Nat.zero_le _, rfl, HU3.out, HB3.out⟩
  case round =>
    clear HU3 HB3
    obtain ⟨j, hj, rfl, hbu, hb⟩ := hrel
    by_cases hlt : j < ns.length
    · obtain ⟨b, off, rfl, hbl, g0⟩ := (HI.out.below hb).at j hlt
      have HX : Hid (partT wd ns (j + 1) = partT wd ns j ++ 32 :: Lib.itoa ns[j]) := Orangery.partT_next wd ns j hlt
      have hsm := HS.out.2 _ (List.getElem_mem hlt)
      have HPJ := HP.out (j + 1)
      rw [HX.out] at HPJ
      have HLJ := Lib.hid HPJ
      have HVr := Lib.hid (HV.out.on hb)
      have HU := Lib.hid hbu
      have HB := Lib.hid hb
      clear hbu hb HPJ
      generalize ns[j] = n at *
      go_wp2_with fail
      refine (itoa_any _ n (by omega) (by omega) HVr.out).mono ?_
      rintro e w4 ⟨rfl, hb4⟩
      have HU4 := Lib.hid (HU.out.keep hb4)
      have HB4 : Hid (Below w2.heap.size w2 w4) := HB.out.trans (hb4.mono HB.out.size)
      clear hb4 HU HB HVr
      have d9 : ¬ 9223372036854775807 < 1 + (Lib.itoa n).length := by
        have := HLJ.out
        simp at this
        omega
      go_wp2_with fail
      rw [show Value.string ((⟨#[32]⟩ : ByteArray) ++ ⟨(Lib.itoa n).toArray⟩) = txV (32 :: Lib.itoa n) from congrArg Value.string (Orangery.bytes_app [32] (Lib.itoa n))]
      refine (write_any w4 w2.heap.size w2.heap.size (partT wd ns j) (32 :: Lib.itoa n) HU4.out (by have := HLJ.out; simp at this ⊢; omega) HB4.out.size).mono ?_
      rintro e w5 ⟨⟨n5, rfl⟩, hbu5, hb5⟩
      have HU5 : Hid (Built w5 w2.heap.size w2.heap.size (partT wd ns (j + 1))) := by
        show Built _ _ _ _
        rw [HX.out]
        exact hbu5
      have HB5 : Hid (Below w2.heap.size w2 w5) := HB4.out.trans hb5
      clear hbu5 hb5 HU4 HB4 d9
      go_wp2
      go_roundw
      case rel => exact ⟨j + 1, hlt, by go_num, HU5.out, HB5.out⟩
      case measure => simp [intOf]; omega
    · have hj' : j = ns.length := by omega
      subst hj'
      have HU := Lib.hid hbu
      have HB := Lib.hid hb
      clear hbu hb
      go_wp2_with fail
      refine (built_any wr w2.heap.size w2.heap.size (partT wd ns ns.length) HU.out HB.out.size).mono ?_
      rintro e w5 ⟨rfl, hb5⟩
      have HB5 : Hid (Below w.heap.size w w5) := HB2.out.trans ((HB.out.trans hb5).mono HB2.out.size)
      clear hb5
      go_wp2
      go_ret2
      rw [HT.out, HE.out, HC.out]
      exact ⟨rfl, HB5.out⟩
end Go.Proofs.YthlhnokgcnieeadGreatDoor

/- An append of a text's bytes in a region that draws its order. -/
namespace Go.Proofs.YthlhnokgcnieeadGreatDoor
open Go.ChangeShapes Go.WideShapes Go.ChangeAt Go.RowKit

theorem step_append_text {P : Program} {md : Region.Mode} {ops : Array Oper} {Q : Exit → Act → World → Prop} {S : World → Prop} (i d : Nat) {oi : Oper} {s x : Operand} (t u : TypeId) {fuel : Nat} {listed : Array Bool} {a : Act} {w : World} (hr : Region.ready md ops listed = [i]) (hi : ops[i]? = some oi) (hd : oi.dst = some d)
    (hw : Region.wanted oi (yielded ops a.tmps) = true) (ho : oi.op = .call { callee := .builtin .append, args := #[s, x], argTypes := #[t, u] })
    (base : Nat) (e : TypeId) (inf : TypeInfo) (ht : P.underlying t = some (.slice e)) (hu : P.underlying u = some .string) (hinf : P.info? e = some inf) (hz : inf.zero = some (.int .u8 0))
    (hsize : inf.size = 1) (hby : inf.bytes = 1)
    (v : Value) (n : Nat) (xs : List Value) (hs : a.eval s = v) (hown : w.ownsRow base e 1 v n xs) (b : ByteArray) (hx : a.eval x = .string b)
    (h63 : n + b.size ≤ maxLen) (hbytes : n + b.size ≤ 140737488355328) (hbase : base ≤ w.heap.size)
    (h : ∀ v' w', w'.ownsRow base e 1 v' (n + b.size) (xs ++ Lib.strCells b) → w.grownBy w' v.ownBlock → S w' ∧ wpAnyH P md ops Q S fuel (listed.setIfInBounds i true) (a.put (some d) v') w') : wpAnyH P md ops Q S (fuel + 1) listed a w := by
  refine wpAnyH_ready hr (by simp) (AllReadyH.cons hi (fun K hK => ?_) AllReadyH.nil)
  rw [if_pos hw]
  obtain ⟨v', w', hr2, h2, h3, _⟩ := Lib.run_append_own_string (P := P) w base t u oi.type e inf ht hu hinf hz hsize hby v n xs hown b h63 hbytes hbase
  unfold Oper.wp execOp
  simp only [ho, resolve, invoke, builtin, Sem.run_bind, Sem.run_pure, Result.andThen_ok, List.map_toArray, List.map_cons, List.map_nil, hs, hx, hr2]
  have hfin := hK.out _ _ (h v' w' h2 h3).1 (fun _ => (h v' w' h2 h3).2)
  rw [← hd] at hfin
  exact hfin
end Go.Proofs.YthlhnokgcnieeadGreatDoor

