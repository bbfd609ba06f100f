/- 3 texts of the proof: orangerylaw.at: a number brought within bounds. orangerylaw.HistoryLate: the walk. A tree that came in as an argument: which places it holds. -/
import Derived.Deep.Slices
import Derived.Deep.Strs
import Derived.ChangeOld
import Derived.Test.YtphameoibnimmabP01
import Derived.Test.YtphameoibnimmabP02
import Derived.Test.YtphameoibnimmabP08
import Derived.Test.YtphameoibnimmabP03
import Derived.Test.YtphameoibnimmabP05
/- orangerylaw.at: a number brought within bounds. -/
namespace Go.Proofs.Ytphameoibnimmab
open Go.ChangeShapes Go.WideShapes Go.ChangeAt Go.RowKit
open Orangery (atI)

set_option maxHeartbeats 400000 in
theorem at_any (w : World) (k n : Int) (hn : 0 < n) (hn2 : n ≤ 4611686018427387904) :
    Calls Try.prog 8 #[.int .i64 k, .int .i64 n] w fun e w' => e = .returned (.int .i64 (atI k n)) ∧ w' = w := by
  obtain ⟨⟨h1, h2⟩, hat⟩ := Orangery.tmod_at k n hn
  have HA : Hid (atI k n = if k.tmod n < 0 then k.tmod n + n else k.tmod n) := hat
  have hnz : (n == 0) = false := by simp; omega
  clear hat
  by_cases hneg : k.tmod n < 0
  · go_enter Try.func8, Try.ntmps8
    go_wp2
    go_ret
    exact ⟨ret_int (by rw [HA.out, if_pos hneg]), rfl⟩
  · go_enter Try.func8, Try.ntmps8
    go_wp2
    go_ret
    exact ⟨ret_int (by rw [HA.out, if_neg (by omega)]), rfl⟩

end Go.Proofs.Ytphameoibnimmab

/- orangerylaw.HistoryLate: the walk. -/
namespace Go.Proofs.Ytphameoibnimmab
open Go.ChangeShapes Go.WideShapes Go.ChangeAt Go.RowKit
open Orangery (Pl Mv Stp check checkOp foldE foldL foldT histE insE insL insT srt rk atI eqSts)

theorem at_bounds3 (k : Int) : 0 ≤ atI k 3 ∧ atI k 3 < 3 := by
  obtain ⟨⟨h1, h2⟩, h3⟩ := Orangery.tmod_at k 3 (by omega)
  rw [h3]
  split <;> omega

/-- one more operation, of a later time than all -/
theorem late_step {m : List Mv} {o : Mv} (hm : foldE m = 0) (hi : insE (foldL m) (foldT m) o = 0) (ht : ∀ x ∈ m, x.1 < o.1) :
    ∃ m' s, foldE m' = 0 ∧ insL (foldL m) (foldT m) o = foldL m' ∧ insT (foldL m) (foldT m) o = foldT m' ∧ foldL m' = foldL m ++ [s] ∧ s.1 = o ∧ ∀ x ∈ m', x ∈ m ∨ x = o := by
  obtain ⟨_, _, h3, _, _⟩ := Orangery.fold_ok hm
  obtain ⟨hd, hp, _⟩ := Orangery.srt_ok hm
  have hfL := (Orangery.fold_perm hp.symm hm).1
  have hok := ((Orangery.foldE_zero m).1 hm).2.1
  have hE : histE (foldL m) (foldT m) = 0 ∧ checkOp o = 0 ∧ foldE (srt m ++ [o]) = 0 := by
    unfold insE at hi
    split at hi
    · contradiction
    · rename_i e1
      split at hi
      · contradiction
      · rename_i e2
        split at hi
        · omega
        · rw [h3] at hi
          exact ⟨by simpa using e1, by simpa using e2, hi⟩
  have hlt : ∀ x ∈ srt m, rk x < rk o := fun x hx => by
    have hxm := Orangery.srt_mem m x hx
    exact (Orangery.rk_lt (hok x hxm) hE.2.1).2 (Or.inl (ht x hxm))
  obtain ⟨s, hs1, hs2⟩ := Orangery.ins_late hd o hlt hE.2.2
  refine ⟨srt m ++ [o], s, hE.2.2, ?_, ?_, ?_, hs1, ?_⟩
  · unfold insL; rw [if_neg (by simp [hi]), h3]
  · unfold insT; rw [if_neg (by simp [hi]), h3]
  · rw [hs2, hfL]
  · intro x hx
    rw [List.mem_append, List.mem_singleton] at hx
    rcases hx with hx | hx
    · exact Or.inl (Orangery.srt_mem m x hx)
    · exact Or.inr hx
theorem late_times {l : List Mv} (h : foldE l = 0) {la : Int} (hla : ∀ s ∈ foldL l, s.1.1 ≤ la) : ∀ x ∈ l, x.1 ≤ la := by
  intro x hx
  obtain ⟨_, _, h3, _, _⟩ := Orangery.fold_ok h
  obtain ⟨_, hp, _⟩ := Orangery.srt_ok h
  have : x ∈ (foldL l).map (·.1) := by rw [h3]; exact hp.mem_iff.2 hx
  obtain ⟨s, hs, rfl⟩ := List.mem_map.1 this
  exact hla s hs
theorem late_range {l : List Mv} (h : foldE l = 0) : ∀ s ∈ foldL l, 1 ≤ s.1.1 ∧ s.1.1 ≤ 10000 := by
  intro s hs
  obtain ⟨_, _, h3, _, _⟩ := Orangery.fold_ok h
  have hm : s.1 ∈ srt l := by rw [← h3]; exact List.mem_map.2 ⟨s, hs, rfl⟩
  have := Orangery.checkOp_zero (((Orangery.foldE_zero l).1 h).2.1 s.1 (Orangery.srt_mem l _ hm))
  simp only [Orangery.opOkB, decide_eq_true_eq] at this
  omega

theorem SlE.apart {α : Type} {enc : α → List Value} {a : Option Addr} {l : List α} (g : Nat) (hg : ∀ b off, a = some ⟨b, off, none⟩ → b ≠ g) : ∀ (us : List Value) (o : Nat) (w : World), SlE enc w a l → SlE enc (w.setCells g o us) a l
  | [], _, _, h => h
  | u :: us, o, w, h => by
    refine SlE.apart g hg us (o + 1) _ ?_
    rcases h with h | ⟨b, off, ha, hlt, hr⟩
    · exact Or.inl h
    · have hne := hg b off ha
      refine Or.inr ⟨b, off, ha, by simpa using hlt, fun j v hv => ?_⟩
      rw [World.cell?_setCell_other _ _ _ _ (by simp <;> omega)]
      exact hr j v hv
theorem SlP.apart {a : Option Addr} {l : List Pl} (g : Nat) (hg : ∀ b off, a = some ⟨b, off, none⟩ → b ≠ g) : ∀ (us : List Value) (o : Nat) (w : World), SlP w a l → SlP (w.setCells g o us) a l
  | [], _, _, h => h
  | u :: us, o, _, h => SlP.apart g hg us (o + 1) _ (h.other g hg o u)

theorem OwnE.place {α : Type} {enc : α → List Value} {k : Nat} {e : TypeId} {w : World} {base n c : Nat} {a : Option Addr} {l : List α} (h : OwnE enc k e w base (.slice a n c) l) : ∀ b off, a = some ⟨b, off, none⟩ → base ≤ b ∧ b < w.heap.size := by
  intro b off ha
  rcases h.2 with ⟨h', _⟩ | ⟨g, cap, cur, h', hb, hg, _⟩
  · simp [ha] at h'
  · rw [ha] at h'
    obtain ⟨⟨rfl, _⟩, _⟩ : (b = g ∧ off = 0) ∧ _ := by simpa using h'
    exact ⟨hb, blk_lt hg⟩
theorem OwnS.place {w : World} {base n c : Nat} {a : Option Addr} {l : List Pl} (h : OwnS w base (.slice a n c) l) : ∀ b off, a = some ⟨b, off, none⟩ → base ≤ b ∧ b < w.heap.size := by
  intro b off ha
  rcases h with ⟨h', _⟩ | ⟨g, cap, h', hb, hg, _⟩
  · simp [ha] at h'
  · rw [ha] at h'
    obtain ⟨⟨rfl, _⟩, _⟩ : (b = g ∧ off = 0) ∧ _ := by simpa using h'
    exact ⟨hb, hg⟩

set_option maxHeartbeats 4000000 in
set_option maxRecDepth 100000 in
theorem historyLate_any (w : World) (a : Option Addr) (c : Nat) (l : List Mv) (aM : Option Addr) (cM : Nat) (mo : List Mv) (hl : l.length ≤ maxLen) (hc : l.length ≤ c) (h : SlE opC w a l) (hlm : mo.length ≤ maxLen) (hcm : mo.length ≤ cM) (hcm2 : cM ≤ maxLen) (hnm : aM = none → cM = 0) (hm : SlE opC w aM mo) :
    Calls Try.prog 5 #[.slice a l.length c, .slice aM mo.length cM] w
      fun e w' => e = .returned (.bool true) ∧ Below w.heap.size w w' := by
  have HM : Hid (SlE opC w aM mo) := hm
  have hmM : mo.length ≤ 9223372036854775807 := hlm
  have hcM : cM ≤ 9223372036854775807 := hcm2
  have hf := fold_any w a c l hl hc h
  clear h hm
  go_enter Try.func5, Try.ntmps5
  go_wp2_with fail
  refine hf.mono ?_
  rintro e w1 ⟨vL, vT, rfl, hL1, hT1, hb1⟩
  obtain ⟨aT, cT, rfl⟩ := hT1.val
  obtain ⟨aL, cL, rfl, hPL, hcL⟩ := hL1.val
  have hPT := hT1.read
  have HCL : Hid ((foldL l).length ≤ cL) := hcL
  have HAL : Hid (∀ b off, aL = some ⟨b, off, none⟩ → b < w1.heap.size) := fun b off e => (hL1.place b off e).2
  have HAT : Hid (∀ b off, aT = some ⟨b, off, none⟩ → b < w1.heap.size) := fun b off e => (hT1.place b off e).2
  obtain ⟨W1, hW1, hH1, hBn, hS1⟩ := laid1 w1 [Value.slice aL (foldL l).length cL, Value.slice aT (foldT l).length cT] 28
  have hPL1 := hPL.below hBn
  have hPT1 := hPT.below hBn
  have HB1 : Hid (Below w.heap.size w W1) := hb1.trans (hBn.mono hb1.size)
  clear hf hL1 hT1 hPL hPT hb1 hBn hS1 hcL
  go_wp2_with fail
  clear hW1
  refine (folded_any W1).mono ?_
  rintro e w2 ⟨rfl, hb2⟩
  have hH2 := hH1.keep hb2
  have hPL2 := hPL1.below hb2
  have hPT2 := hPT1.below hb2
  have HB2 : Hid (Below w.heap.size w w2) := HB1.out.trans (hb2.mono HB1.out.size)
  clear hH1 hPL1 hPT1 HB1 hb2
  by_cases hz : foldE l = 0
  case neg =>
    have hz' : (foldE l != 0) = true := by simpa using hz
    clear hz
    go_wp2_with fail
    refine (folded_any w2).mono ?_
    rintro e w3 ⟨rfl, hb3⟩
    have HB3 : Hid (Below w.heap.size w w3) := HB2.out.trans (hb3.mono HB2.out.size)
    clear hb3
    go_wp2
    go_ret
    exact ⟨rfl, HB3.out⟩
  case pos =>
    have HZ : Hid (foldE l = 0) := hz
    have HRG : Hid (∀ s ∈ foldL l, 1 ≤ s.1.1 ∧ s.1.1 ≤ 10000) := late_range hz
    have hll : l.length ≤ 30 := ((Orangery.foldE_zero l).1 hz).1
    have hz' : (foldE l != 0) = false := by simp [hz]
    have hLl := foldL_len l
    have k0 := hH2.at 0 rfl
    clear hz
    obtain ⟨LL, hLL⟩ : ∃ LL, foldL l = LL := ⟨_, rfl⟩
    have HLL : Hid (foldL l = LL) := hLL
    rw [hLL] at hH2 hPL2 HCL HRG hLl k0 ⊢
    clear hLL
    go_wp2
    go_loopw [7, 31] (fun x y W => ∃ (k : Nat) (la : Int), k ≤ LL.length ∧ x = .int .i64 la ∧ y = .int .i64 k ∧ 0 ≤ la ∧ la ≤ 10000 ∧ (∀ s ∈ LL.take k, s.1.1 ≤ la) ∧ Below w2.heap.size w2 W) (fun _ y _ => LL.length - (intOf y).toNat)
    case atStart => exact ⟨0, 0, Nat.zero_le _, rfl, rfl, by omega, by omega, by simp, Below.refl _ _⟩
    case round =>
      obtain ⟨k, la, hk, rfl, rfl, hla0, hla1, hlas, hb⟩ := hrel
      have HLAS : Hid (∀ s ∈ LL.take k, s.1.1 ≤ la) := hlas
      clear hlas
      by_cases hlt : k < LL.length
      · obtain ⟨b, off, rfl, hbl, hr⟩ := (hPL2.below hb).at stC_len k hlt
        obtain ⟨g0, g1, g2, g3, g4, g5, g6, g7, g8, g9, g10⟩ := st_cells hr
        have HT1 : Hid (LL.take (k + 1) = LL.take k ++ [LL[k]]) := List.take_succ_eq_append_getElem hlt
        have hrg := HRG.out LL[k] (List.getElem_mem hlt)
        clear hr
        generalize LL[k] = s at *
        obtain ⟨⟨o1, o2, ⟨o3, o4, o5⟩, o6, o7⟩, d, ⟨p1, p2, p3⟩⟩ := s
        simp only at g0 g1 g2 g3 g4 g5 g6 g7 g8 g9 g10 hrg
        obtain ⟨WC, hWC, hN, hBn, hSC⟩ := laid1 wr [Value.int IntKind.i64 o1, Value.int IntKind.i64 o2, Value.int IntKind.i64 o3, Value.int IntKind.i64 o4, Value.int IntKind.i64 o5, Value.int IntKind.i64 o6, Value.int IntKind.i64 o7, Value.bool d, Value.int IntKind.i64 p1, Value.int IntKind.i64 p2, Value.int IntKind.i64 p3] 47
        have HBC : Hid (Below w2.heap.size w2 WC) := hb.trans (hBn.mono hb.size)
        have n0 := hN.at 0 rfl
        clear hb hBn hSC hN
        go_wp2
        go_roundw
        case rel =>
          refine ⟨k + 1, max la o1, hlt, by first | rfl | go_num | (congr 1; omega), by go_num, by omega, by omega, ?_, HBC.out⟩
          intro s hs
          rw [HT1.out, List.mem_append, List.mem_singleton] at hs
          rcases hs with hs | rfl
          · have := HLAS.out s hs; omega
          · show o1 ≤ _; omega
        case measure => simp [intOf]; omega
      · rw [List.take_of_length_le (by omega)] at HLAS
        have hHr := hH2.keep hb
        have hPLr := hPL2.below hb
        have hPTr := hPT2.below hb
        have HBr : Hid (Below w.heap.size w wr) := HB2.out.trans (hb.mono HB2.out.size)
        have x0 := hHr.at 0 rfl
        have x1 := hHr.at 1 rfl
        clear hb hH2 hPL2 hPT2 HB2 k0
        rename World => WL
        have hq1 : (30 : Int) - (l.length : Int) = ((30 - l.length : Nat) : Int) := by omega
        obtain ⟨q, hq⟩ : ∃ q, q = min mo.length (30 - l.length) := ⟨_, rfl⟩
        have hmin : min (mo.length : Int) ((30 - l.length : Nat) : Int) = (q : Int) := by omega
        have hmax : max (q : Int) 0 = (q : Int) := by omega
        have hqm : q ≤ mo.length := by omega
        have hq30 : q ≤ 30 := by omega
        have hqc : (q : Int) ≤ (cM : Int) := by omega
        clear hq
        have HGA : Hid (Blk (WL.alloc (Obj.cells #[Value.slice aL LL.length cL, Value.slice aT (foldT l).length cT] 28)) WL.heap.size [Value.slice aL LL.length cL, Value.slice aT (foldT l).length cT]) := Blk.new WL [Value.slice aL LL.length cL, Value.slice aT (foldT l).length cT] 28
        have HBG : Hid (Below WL.heap.size WL (WL.alloc (Obj.cells #[Value.slice aL LL.length cL, Value.slice aT (foldT l).length cT] 28))) := Go.Joins.below_alloc1 WL _
        have hw1 : w1.heap.size < WL.heap.size := hHr.lt
        go_wp2
        go_loopw [52] (fun x W => ∃ (i : Nat) (m : List Mv) (aG aQ : Option Addr) (cG cQ : Nat), i ≤ q ∧ x = .int .i64 i ∧ foldE m = 0 ∧ (∀ y ∈ m, y.1 ≤ la + (i : Int)) ∧ (∃ ext, foldL m = LL ++ ext) ∧ Blk W WL.heap.size [.slice aG (foldL m).length cG, .slice aQ (foldT m).length cQ] ∧ SlE stC W aG (foldL m) ∧ SlP W aQ (foldT m) ∧ (∀ b off, aG = some ⟨b, off, none⟩ → b ≠ WL.heap.size) ∧ (∀ b off, aQ = some ⟨b, off, none⟩ → b ≠ WL.heap.size) ∧ (foldL m).length ≤ cG ∧ Below WL.heap.size WL W) (fun x _ => q - (intOf x).toNat)
        case atStart =>
          refine ⟨0, l, aL, aT, cL, cT, Nat.zero_le _, rfl, HZ.out, ?_, ⟨[], by rw [HLL.out]; simp⟩, ?_, ?_, hPTr.below HBG.out, ?_, ?_, ?_, HBG.out⟩
          · have := late_times HZ.out (la := la) (by rw [HLL.out]; exact HLAS.out)
            intro y hy
            have := this y hy
            omega
          · rw [HLL.out]; exact HGA.out
          · rw [HLL.out]; exact hPLr.below HBG.out
          · intro b off e; have := HAL.out b off e; omega
          · intro b off e; have := HAT.out b off e; omega
          · rw [HLL.out]; exact HCL.out
        case round =>
          clear x0 x1
          obtain ⟨i, m, aG, aQ, cG, cQ, hi, rfl, hfm, hmt, hext, hBG, hSG, hSQ, hnG, hnQ, hcG, hb⟩ := hrel
          have HBWr : Hid (Below w.heap.size w wr) := HBr.out.trans (hb.mono HBr.out.size)
          have HFM : Hid (foldE m = 0) := hfm
          have HMT : Hid (∀ y ∈ m, y.1 ≤ la + (i : Int)) := hmt
          have HEX : Hid (∃ ext, foldL m = LL ++ ext) := hext
          have HNG : Hid (∀ b off, aG = some ⟨b, off, none⟩ → b ≠ WL.heap.size) := hnG
          have HNQ : Hid (∀ b off, aQ = some ⟨b, off, none⟩ → b ≠ WL.heap.size) := hnQ
          have hHw := hHr.keep hb
          have hPw := hPLr.below hb
          have hml := foldL_len m
          have hmtl := foldT_len m
          have HXT : Hid ((foldL m).take LL.length = LL ∧ LL.length ≤ (foldL m).length) := by
            obtain ⟨ext, he⟩ := hext
            rw [he]
            exact ⟨by simp, by simp⟩
          have hwlt : WL.heap.size < wr.heap.size := hBG.lt
          clear hfm hmt hext hnG hnQ
          by_cases hlt : i < q
          · obtain ⟨b, off, rfl, hbl, hr⟩ := (HM.out.below HBWr.out).at opC_len i (by omega)
            obtain ⟨g0, g1, g2, g3, g4, g5, g6⟩ := op_cells hr
            clear hr
            generalize mo[i] = o at *
            obtain ⟨o1, o2, ⟨o3, o4, o5⟩, o6, o7⟩ := o
            simp only at g0 g1 g2 g3 g4 g5 g6
            obtain ⟨ha0, ha2⟩ := at_bounds3 o2
            have HCA : Hid (∀ W, Calls Try.prog 8 #[.int .i64 o2, .int .i64 3] W fun e w' => e = .returned (.int .i64 (atI o2 3)) ∧ w' = W) := fun W => at_any W o2 3 (by omega) (by omega)
            generalize atI o2 3 = u at *
            obtain ⟨T, hT⟩ : ∃ T, la + 1 + (i : Int) = T := ⟨_, rfl⟩
            have hTb : T ≤ 20000 := by omega
            have HTT : Hid (la + 1 + (i : Int) = T) := hT
            obtain ⟨W3, hW3, hN3, hBn3, hS3⟩ := laid1 wr [Value.int IntKind.i64 o1, Value.int IntKind.i64 o2, Value.int IntKind.i64 o3, Value.int IntKind.i64 o4, Value.int IntKind.i64 o5, Value.int IntKind.i64 o6, Value.int IntKind.i64 o7] 38
            have n0 := hN3.at 0 rfl
            have n1 := hN3.at 1 rfl
            have nf := hN3.frz
            have hN4 := (hN3.set 0 (by simp) (.int .i64 T)).set 1 (by simp) (.int .i64 u)
            have HS4 : Hid (Below wr.heap.size wr ((W3.setCell ⟨wr.heap.size, 0, none⟩ (.int .i64 T)).setCell ⟨wr.heap.size, 1, none⟩ (.int .i64 u))) := (hBn3.setCell (Nat.le_refl _) _).setCell (Nat.le_refl _) _
            have HN4 : Hid (Blk ((W3.setCell ⟨wr.heap.size, 0, none⟩ (.int .i64 T)).setCell ⟨wr.heap.size, 1, none⟩ (.int .i64 u)) wr.heap.size [Value.int IntKind.i64 T, Value.int IntKind.i64 u, Value.int IntKind.i64 o3, Value.int IntKind.i64 o4, Value.int IntKind.i64 o5, Value.int IntKind.i64 o6, Value.int IntKind.i64 o7]) := hN4
            clear hN4 hN3 hBn3 hS3
            go_wp2_with fail
            refine (HCA.out W3).mono ?_
            rintro e W3 ⟨rfl, rfl⟩
            clear hW3 g0 g1 g2 g3 g4 g5 g6
            go_upto_region 15 with fail
            generalize ((W3.setCell ⟨wr.heap.size, 0, none⟩ (.int .i64 T)).setCell ⟨wr.heap.size, 1, none⟩ (.int .i64 u)) = W4 at *
            clear n0 n1 nf hT
            have hG4 := hBG.keep HS4.out
            have hH4 := hHw.keep HS4.out
            have hSG4 := hSG.below HS4.out
            have hSQ4 := hSQ.below HS4.out
            have hPL4 := hPw.below HS4.out
            have HB4 : Hid (Below WL.heap.size WL W4) := hb.trans (HS4.out.mono hb.size)
            have HBW4 : Hid (Below w.heap.size w W4) := HBWr.out.trans (HS4.out.mono HBWr.out.size)
            clear hBG hHw hSG hSQ hPw hb
            have m0 := HN4.out.at 0 rfl
            by_cases hTm : T > 10000
            · have d1 : decide (T > 10000) = true := by simpa using hTm
              clear hTm
              have hxl := HXT.out.2
              have hcl : LL.length ≤ cG := by omega
              have hclI : (LL.length : Int) ≤ (cG : Int) := by omega
              have HEQ : Hid (∀ W', SlE stC W' aG (foldL m) → SlE stC W' aL LL → Calls Try.prog 16 #[.slice aG LL.length cG, .slice aL LL.length cL] W' fun e w' => e = .returned (.bool true) ∧ ∃ k, w' = W'.drewN k) := fun W' p1 p2 => by
                have p3 := p1.take LL.length
                rw [HXT.out.1] at p3
                have := equal_sts W' aG aL cG cL LL LL (by unfold maxLen; omega) p3 p2
                rw [eqSts_yes rfl] at this
                exact this
              have HSG : Hid (SlE stC W4 aG (foldL m)) := hSG4
              have HPL : Hid (SlE stC W4 aL LL) := hPL4
              have KEEP : Hid (∀ w', Below W4.heap.size W4 w' → w'.cell? ⟨WL.heap.size, 0, none⟩ = some (.slice aG (foldL m).length cG) ∧ w'.cell? ⟨w1.heap.size, 0, none⟩ = some (.slice aL LL.length cL)) := fun w' h => ⟨(hG4.keep h).at 0 rfl, (hH4.keep h).at 0 rfl⟩
              go_upto_region 23 with fail
              have hS' : Below W4.heap.size W4 W4.drew := (Below.refl _ W4).drew
              refine wp_region_held_drew (S := fun w' => w'.cell? ⟨WL.heap.size, 0, none⟩ = some (.slice aG (foldL m).length cG) ∧ w'.cell? ⟨w1.heap.size, 0, none⟩ = some (.slice aL LL.length cL)) (by kernel_rfl) (KEEP.out _ hS') (fun hHeld => ?_)
              refine take_yes 0 110 (v := ?_) rfl rfl (by kernel_rfl) (by kernel_rfl) (by kernel_rfl) (fun _ _ _ h => h) (by rfl) ?_ (by assumption) ?_
              rotate_left 1
              · (intro w hSw; (try dsimp only at hSw); go_simp; try with_reducible rfl)
              simp only [Act.put, List.setIfInBounds_toArray, List.set_cons_succ, List.set_cons_zero]
              refine take_yes 1 111 (v := ?_) rfl rfl (by kernel_rfl) (by kernel_rfl) (by kernel_rfl) (fun _ _ _ h => h) (by rfl) ?_ (by assumption) ?_
              rotate_left 1
              · (intro w hSw; (try dsimp only at hSw); go_simp; try with_reducible rfl)
              simp only [Act.put, List.setIfInBounds_toArray, List.set_cons_succ, List.set_cons_zero]
              refine take_yes 2 112 (v := ?_) rfl rfl (by kernel_rfl) (by kernel_rfl) (by kernel_rfl) (fun _ _ _ h => h) (by rfl) ?_ (by assumption) ?_
              rotate_left 1
              · (intro w hSw; (try dsimp only at hSw); go_simp; try with_reducible rfl)
              simp only [Act.put, List.setIfInBounds_toArray, List.set_cons_succ, List.set_cons_zero]
              refine take_yes 3 113 (v := ?_) rfl rfl (by kernel_rfl) (by kernel_rfl) (by kernel_rfl) (fun _ _ _ h => h) (by rfl) ?_ (by assumption) ?_
              rotate_left 1
              · (intro w hSw; (try dsimp only at hSw); go_simp; try with_reducible rfl)
              simp only [Act.put, List.setIfInBounds_toArray, List.set_cons_succ, List.set_cons_zero]
              refine take_yes 4 114 (v := ?_) rfl rfl (by kernel_rfl) (by kernel_rfl) (by kernel_rfl) (fun _ _ _ h => h) (by rfl) ?_ (by assumption) ?_
              rotate_left 1
              · (intro w hSw; (try dsimp only at hSw); go_simp; try with_reducible rfl)
              simp only [Act.put, List.setIfInBounds_toArray, List.set_cons_succ, List.set_cons_zero]
              refine take_yes 5 115 (v := ?_) rfl rfl (by kernel_rfl) (by kernel_rfl) (by kernel_rfl) (fun _ _ _ h => h) (by rfl) ?_ (by assumption) ?_
              rotate_left 1
              · (intro w hSw; (try dsimp only at hSw); go_simp; try with_reducible rfl)
              simp only [Act.put, List.setIfInBounds_toArray, List.set_cons_succ, List.set_cons_zero]
              refine take_yes 6 116 (v := ?_) rfl rfl (by kernel_rfl) (by kernel_rfl) (by kernel_rfl) (fun _ _ _ h => h) (by rfl) ?_ (by assumption) ?_
              rotate_left 1
              · (intro w hSw; (try dsimp only at hSw); go_simp; try with_reducible rfl)
              simp only [Act.put, List.setIfInBounds_toArray, List.set_cons_succ, List.set_cons_zero]
              refine take_yes 7 117 (v := ?_) rfl rfl (by kernel_rfl) (by kernel_rfl) (by kernel_rfl) (fun _ _ _ h => h) (by rfl) ?_ (by assumption) ?_
              rotate_left 1
              · (intro w hSw; (try dsimp only at hSw); go_simp; try with_reducible rfl)
              simp only [Act.put, List.setIfInBounds_toArray, List.set_cons_succ, List.set_cons_zero]
              refine wpAnyH_ready (rs := [8]) (by kernel_rfl) (by simp) ?_
              refine AllReadyH.cons rfl (fun K hK => ?_) AllReadyH.nil
              go_simp
              refine (HEQ.out _ (HSG.out.below hS') (HPL.out.below hS')).mono ?_
              rintro e wn ⟨rfl, nn, hnn⟩
              have hS' : Below W4.heap.size W4 wn := (by rw [hnn]; exact hS'.trans ⟨rfl, rfl, rfl, Nat.le_refl _, fun _ _ => rfl⟩)
              clear hnn
              go_wp2_with fail
              refine hK.out _ _ ?_ (fun hHeld => ?_)
              · (try dsimp only); exact KEEP.out _ hS'
              clear hK K
              refine take_yes 9 4 (v := ?_) rfl rfl (by kernel_rfl) (by kernel_rfl) (by kernel_rfl) (fun _ _ _ h => h) (by rfl) ?_ (by assumption) ?_
              rotate_left 1
              · (intro w hSw; (try dsimp only at hSw); go_simp; try with_reducible rfl)
              simp only [Act.put, List.setIfInBounds_toArray, List.set_cons_succ, List.set_cons_zero]
              refine wpAnyH_done (by kernel_rfl) ?_ _
              go_wp2
              go_ret
              exact ⟨rfl, HBW4.out.trans (hS'.mono HBW4.out.size)⟩
            · have d1 : decide (T > 10000) = false := by simpa using hTm
              have m1 := HN4.out.at 1 rfl
              have m2 := HN4.out.at 2 rfl
              have m3 := HN4.out.at 3 rfl
              have m4 := HN4.out.at 4 rfl
              have m5 := HN4.out.at 5 rfl
              have m6 := HN4.out.at 6 rfl
              have y0 := hG4.at 0 rfl
              have y1 := hG4.at 1 rfl
              have HST : Hid (insE (foldL m) (foldT m) (T, u, (o3, o4, o5), o6, o7) = 0 → ∃ m' s, foldE m' = 0 ∧ insL (foldL m) (foldT m) (T, u, (o3, o4, o5), o6, o7) = foldL m' ∧ insT (foldL m) (foldT m) (T, u, (o3, o4, o5), o6, o7) = foldT m' ∧ foldL m' = foldL m ++ [s] ∧ s.1 = (T, u, (o3, o4, o5), o6, o7) ∧ ∀ x ∈ m', x ∈ m ∨ x = (T, u, (o3, o4, o5), o6, o7)) := fun e => late_step HFM.out e (fun x hx => by have := HMT.out x hx; have := HTT.out; show x.1 < T; omega)
              clear hTm
              go_wp2_with fail
              refine (insert_any W4 aG aQ cG cQ (foldL m) (foldT m) (T, u, (o3, o4, o5), o6, o7) (by omega) (by unfold maxLen; omega) hSG4 hSQ4).mono ?_
              rintro e w5 ⟨vL5, vT5, rfl, hL5, hT5, hb5⟩
              clear m0 m1 m2 m3 m4 m5 m6 y0 y1
              by_cases he : insE (foldL m) (foldT m) (T, u, (o3, o4, o5), o6, o7) = 0
              · obtain ⟨m', s, hf', eL, eT, eA, es, hx'⟩ := HST.out he
                rw [he]
                rw [eL] at hL5
                rw [eT] at hT5
                obtain ⟨aX, cX, rfl, hPX, hcX⟩ := hL5.val
                obtain ⟨aY, cY, rfl⟩ := hT5.val
                have hPY := hT5.read
                have HMX : Hid (foldE m' = 0 ∧ (∀ y ∈ m', y.1 ≤ la + ((i + 1 : Nat) : Int)) ∧ ∃ ext, foldL m' = LL ++ ext) := by
                  refine ⟨hf', fun y hy => ?_, ?_⟩
                  · have hTT := HTT.out
                    rcases hx' y hy with h1 | h1
                    · have := HMT.out y h1; omega
                    · rw [h1]; show T ≤ _; omega
                  · obtain ⟨ext, hee⟩ := HEX.out
                    exact ⟨ext ++ [s], by rw [eA, hee, List.append_assoc]⟩
                have HNX : Hid (∀ b off, aX = some ⟨b, off, none⟩ → b ≠ WL.heap.size) := fun b off e => by have := (hL5.place b off e).1; have := HB4.out.size; have := hG4.lt; omega
                have HNY : Hid (∀ b off, aY = some ⟨b, off, none⟩ → b ≠ WL.heap.size) := fun b off e => by have := (hT5.place b off e).1; have := hG4.lt; omega
                have hlen' : (foldL m').length = (foldL m).length + 1 := by rw [eA]; simp
                obtain ⟨b5, off5, ea5, _, hr5⟩ := hPX.at stC_len (foldL m).length (by omega)
                have hs5 : (foldL m')[(foldL m).length]'(by omega) = s := by
                  have : (foldL m')[(foldL m).length]? = some s := by rw [eA]; simp
                  rw [List.getElem?_eq_getElem (by omega)] at this
                  simpa using this
                rw [hs5] at hr5
                subst ea5
                have hL0 : off5 = 0 := by
                  obtain ⟨a', cap', e1, _, h2⟩ := own_slE hL5.row
                  rcases h2 with h2 | ⟨g, h2, _⟩
                  · rw [h2] at e1; simp at e1
                  · rw [h2] at e1; simp at e1; exact e1.1.2
                subst hL0
                obtain ⟨⟨s1, s2, ⟨s3, s4, s5⟩, s6, s7⟩, sd, ⟨sp1, sp2, sp3⟩⟩ := s
                simp only [Prod.mk.injEq] at es
                obtain ⟨rfl, rfl, ⟨rfl, rfl, rfl⟩, rfl, rfl⟩ := es
                have hc5 := st_cells hr5
                simp only [Nat.zero_add] at hc5
                have HTK : Hid ((foldL m').take (foldL m).length = foldL m) := by show _ = _; rw [eA]; simp
                have hLB : b5 < w5.heap.size := (hL5.place b5 0 rfl).2
                have HCX : Hid ((foldL m').length ≤ cX) := hcX
                have HLN : Hid ((foldL m').length = (foldL m).length + 1) := hlen'
                clear hs5 hlen' eA
                obtain ⟨W6, hW6, hN6, hBn6, hS6⟩ := laid1 w5 [Value.slice (some ⟨b5, 0, none⟩) (foldL m').length cX, Value.slice aY (foldT m').length cY] 28
                have hS56 : Below W4.heap.size W4 W6 := hb5.trans (hBn6.mono hb5.size)
                have hG6 := hG4.keep hS56
                have hPX6 := hPX.below hBn6
                have hPY6 := hPY.below hBn6
                have hSG6 := hSG4.below hS56
                have HN6 : Hid (Blk W6 wr.heap.size [Value.int IntKind.i64 s1, Value.int IntKind.i64 s2, Value.int IntKind.i64 s3, Value.int IntKind.i64 s4, Value.int IntKind.i64 s5, Value.int IntKind.i64 s6, Value.int IntKind.i64 s7]) := HN4.out.keep hS56
                have HB6 : Hid (Below WL.heap.size WL W6) := HB4.out.trans (hS56.mono HB4.out.size)
                have v0 := hG6.at 0 rfl
                have HC6 : Hid (∀ w', Below W6.heap.size W6 w' → w'.rangeAt b5 ((foldL m).length * 11) (opC (s1, s2, (s3, s4, s5), s6, s7))) := fun w' h j v hv => by
                  rw [h.cell (by show b5 < W6.heap.size; have := hBn6.size; omega), hBn6.cell (by exact hLB)]
                  have := hr5 j v (by
                    have hj : j < 7 := (List.getElem?_eq_some_iff.1 hv).1
                    have e7 : stC ((s1, s2, (s3, s4, s5), s6, s7), sd, (sp1, sp2, sp3)) = opC (s1, s2, (s3, s4, s5), s6, s7) ++ [.bool sd, .int .i64 sp1, .int .i64 sp2, .int .i64 sp3] := rfl
                    rw [e7, List.getElem?_append_left (by exact hj)]
                    exact hv)
                  rw [Nat.zero_add] at this
                  exact this
                clear hL5 hT5 hb5 hPX hPY hG4 hSG4 hSQ4 hBn6 hS6 hr5 hc5 hx' eL eT hS56 HST he hf'
                have HNX6 : Hid (Blk W6 w5.heap.size [Value.slice (some ⟨b5, 0, none⟩) (foldL m').length cX, Value.slice aY (foldT m').length cY]) := hN6
                have HG6 : Hid (Blk W6 WL.heap.size [.slice aG (foldL m).length cG, .slice aQ (foldT m).length cQ]) := hG6
                go_upto_region 19 with fail
                clear hW6 hN6 v0 hG6
                obtain ⟨n, hn⟩ : ∃ n, (foldL m).length = n := ⟨_, rfl⟩
                have hlen' := HLN.out
                rw [hn] at hlen'
                have hnI : (n : Int) ≤ (cX : Int) := by have := HCX.out; omega
                have hn30 : n ≤ 30 := by omega
                have hwn : IntKind.i64.wrap ((n : Int) + 1) = (n : Int) + 1 := by rw [IntKind.wrap_i64]; omega
                have hnq : (((n : Int) + 1) != ((n : Int) + 1)) = false := by simp
                have hnl : (n : Int) < (n : Int) + 1 := by omega
                have HEQS : Hid (∀ W, SlE stC W (some ⟨b5, 0, none⟩) (foldL m') → SlE stC W aG (foldL m) → Calls Try.prog 16 #[.slice (some ⟨b5, 0, none⟩) n cX, .slice aG n cG] W fun e w' => e = .returned (.bool true) ∧ ∃ k, w' = W.drewN k) := fun W p1 p2 => by
                  have p3 := p1.take (foldL m).length
                  rw [HTK.out] at p3
                  have := equal_sts W (some ⟨b5, 0, none⟩) aG cX cG (foldL m) (foldL m) (by unfold maxLen; omega) p3 p2
                  rw [eqSts_yes rfl, hn] at this
                  exact this
                have hneo := run_neq_op (s1, s2, (s3, s4, s5), s6, s7)
                try simp only at hneo
                have hgdo := guard_op
                have KEEP : Hid (∀ w', Below W6.heap.size W6 w' → w'.cell? ⟨w5.heap.size, 0, none⟩ = some (.slice (some ⟨b5, 0, none⟩) (n + 1) cX) ∧ w'.cell? ⟨WL.heap.size, 0, none⟩ = some (.slice aG n cG) ∧ w'.cell? ⟨b5, n * 11, none⟩ = some (.int .i64 s1) ∧ w'.cell? ⟨b5, n * 11 + 1, none⟩ = some (.int .i64 s2) ∧ w'.cell? ⟨b5, n * 11 + 2, none⟩ = some (.int .i64 s3) ∧ w'.cell? ⟨b5, n * 11 + 3, none⟩ = some (.int .i64 s4) ∧ w'.cell? ⟨b5, n * 11 + 4, none⟩ = some (.int .i64 s5) ∧ w'.cell? ⟨b5, n * 11 + 5, none⟩ = some (.int .i64 s6) ∧ w'.cell? ⟨b5, n * 11 + 6, none⟩ = some (.int .i64 s7) ∧ w'.cell? ⟨wr.heap.size, 0, none⟩ = some (.int .i64 s1) ∧ w'.cell? ⟨wr.heap.size, 1, none⟩ = some (.int .i64 s2) ∧ w'.cell? ⟨wr.heap.size, 2, none⟩ = some (.int .i64 s3) ∧ w'.cell? ⟨wr.heap.size, 3, none⟩ = some (.int .i64 s4) ∧ w'.cell? ⟨wr.heap.size, 4, none⟩ = some (.int .i64 s5) ∧ w'.cell? ⟨wr.heap.size, 5, none⟩ = some (.int .i64 s6) ∧ w'.cell? ⟨wr.heap.size, 6, none⟩ = some (.int .i64 s7)) := fun w' h => by
                  have e1 := (HNX6.out.keep h).at 0 rfl
                  have e2 := (HG6.out.keep h).at 0 rfl
                  have e3 := op_cells (HC6.out w' h)
                  rw [hn] at e2 e3
                  rw [hlen'] at e1
                  exact ⟨e1, e2, e3.1, e3.2.1, e3.2.2.1, e3.2.2.2.1, e3.2.2.2.2.1, e3.2.2.2.2.2.1, e3.2.2.2.2.2.2, (HN6.out.keep h).at 0 rfl, (HN6.out.keep h).at 1 rfl, (HN6.out.keep h).at 2 rfl, (HN6.out.keep h).at 3 rfl, (HN6.out.keep h).at 4 rfl, (HN6.out.keep h).at 5 rfl, (HN6.out.keep h).at 6 rfl⟩
                have hS' : Below W6.heap.size W6 W6.drew := (Below.refl _ W6).drew
                rw [hlen', hn]
                refine wp_region_held_drew (S := fun w' => w'.cell? ⟨w5.heap.size, 0, none⟩ = some (.slice (some ⟨b5, 0, none⟩) (n + 1) cX) ∧ w'.cell? ⟨WL.heap.size, 0, none⟩ = some (.slice aG n cG) ∧ w'.cell? ⟨b5, n * 11, none⟩ = some (.int .i64 s1) ∧ w'.cell? ⟨b5, n * 11 + 1, none⟩ = some (.int .i64 s2) ∧ w'.cell? ⟨b5, n * 11 + 2, none⟩ = some (.int .i64 s3) ∧ w'.cell? ⟨b5, n * 11 + 3, none⟩ = some (.int .i64 s4) ∧ w'.cell? ⟨b5, n * 11 + 4, none⟩ = some (.int .i64 s5) ∧ w'.cell? ⟨b5, n * 11 + 5, none⟩ = some (.int .i64 s6) ∧ w'.cell? ⟨b5, n * 11 + 6, none⟩ = some (.int .i64 s7) ∧ w'.cell? ⟨wr.heap.size, 0, none⟩ = some (.int .i64 s1) ∧ w'.cell? ⟨wr.heap.size, 1, none⟩ = some (.int .i64 s2) ∧ w'.cell? ⟨wr.heap.size, 2, none⟩ = some (.int .i64 s3) ∧ w'.cell? ⟨wr.heap.size, 3, none⟩ = some (.int .i64 s4) ∧ w'.cell? ⟨wr.heap.size, 4, none⟩ = some (.int .i64 s5) ∧ w'.cell? ⟨wr.heap.size, 5, none⟩ = some (.int .i64 s6) ∧ w'.cell? ⟨wr.heap.size, 6, none⟩ = some (.int .i64 s7)) (by kernel_rfl) (KEEP.out _ hS') (fun hHeld => ?_)
                refine take_yes 0 82 (v := ?_) rfl rfl (by kernel_rfl) (by kernel_rfl) (by kernel_rfl) (fun _ _ _ h => h) (by rfl) ?_ (by assumption) ?_
                rotate_left 1
                · (intro w hSw; (try dsimp only at hSw); go_simp; try with_reducible rfl)
                simp only [Act.put, List.setIfInBounds_toArray, List.set_cons_succ, List.set_cons_zero]
                refine take_yes 1 83 (v := ?_) rfl rfl (by kernel_rfl) (by kernel_rfl) (by kernel_rfl) (fun _ _ _ h => h) (by rfl) ?_ (by assumption) ?_
                rotate_left 1
                · (intro w hSw; (try dsimp only at hSw); go_simp; try with_reducible rfl)
                simp only [Act.put, List.setIfInBounds_toArray, List.set_cons_succ, List.set_cons_zero]
                refine take_yes 2 84 (v := ?_) rfl rfl (by kernel_rfl) (by kernel_rfl) (by kernel_rfl) (fun _ _ _ h => h) (by rfl) ?_ (by assumption) ?_
                rotate_left 1
                · (intro w hSw; (try dsimp only at hSw); go_simp; try with_reducible rfl)
                simp only [Act.put, List.setIfInBounds_toArray, List.set_cons_succ, List.set_cons_zero]
                refine take_yes 3 85 (v := ?_) rfl rfl (by kernel_rfl) (by kernel_rfl) (by kernel_rfl) (fun _ _ _ h => h) (by rfl) ?_ (by assumption) ?_
                rotate_left 1
                · (intro w hSw; (try dsimp only at hSw); go_simp; try with_reducible rfl)
                simp only [Act.put, List.setIfInBounds_toArray, List.set_cons_succ, List.set_cons_zero]
                refine take_yes 4 86 (v := ?_) rfl rfl (by kernel_rfl) (by kernel_rfl) (by kernel_rfl) (fun _ _ _ h => h) (by rfl) ?_ (by assumption) ?_
                rotate_left 1
                · (intro w hSw; (try dsimp only at hSw); go_simp; try with_reducible rfl)
                simp only [Act.put, List.setIfInBounds_toArray, List.set_cons_succ, List.set_cons_zero]
                refine take_yes 5 87 (v := ?_) rfl rfl (by kernel_rfl) (by kernel_rfl) (by kernel_rfl) (fun _ _ _ h => h) (by rfl) ?_ (by assumption) ?_
                rotate_left 1
                · (intro w hSw; (try dsimp only at hSw); go_simp; try with_reducible rfl)
                simp only [Act.put, List.setIfInBounds_toArray, List.set_cons_succ, List.set_cons_zero]
                refine wpAnyH_ready (rs := [6]) (by kernel_rfl) (by simp) ?_
                refine AllReadyH.cons rfl (fun K hK => ?_) AllReadyH.nil
                go_simp
                refine (HEQS.out _ (hPX6.below hS') (hSG6.below hS')).mono ?_
                rintro e wn ⟨rfl, nn, hnn⟩
                have hS' : Below W6.heap.size W6 wn := (by rw [hnn]; exact hS'.trans ⟨rfl, rfl, rfl, Nat.le_refl _, fun _ _ => rfl⟩)
                clear hnn
                go_wp2_with fail
                refine hK.out _ _ ?_ (fun hHeld => ?_)
                · (try dsimp only); exact KEEP.out _ hS'
                clear hK K
                refine take_yes 7 89 (v := ?_) rfl rfl (by kernel_rfl) (by kernel_rfl) (by kernel_rfl) (fun _ _ _ h => h) (by rfl) ?_ (by assumption) ?_
                rotate_left 1
                · (intro w hSw; (try dsimp only at hSw); go_simp; try with_reducible rfl)
                simp only [Act.put, List.setIfInBounds_toArray, List.set_cons_succ, List.set_cons_zero]
                refine take_yes 8 90 (v := ?_) rfl rfl (by kernel_rfl) (by kernel_rfl) (by kernel_rfl) (fun _ _ _ h => h) (by rfl) ?_ (by assumption) ?_
                rotate_left 1
                · (intro w hSw; (try dsimp only at hSw); go_simp; try with_reducible rfl)
                simp only [Act.put, List.setIfInBounds_toArray, List.set_cons_succ, List.set_cons_zero]
                refine take_yes 9 91 (v := ?_) rfl rfl (by kernel_rfl) (by kernel_rfl) (by kernel_rfl) (fun _ _ _ h => h) (by rfl) ?_ (by assumption) ?_
                rotate_left 1
                · (intro w hSw; (try dsimp only at hSw); go_simp; try with_reducible rfl)
                simp only [Act.put, List.setIfInBounds_toArray, List.set_cons_succ, List.set_cons_zero]
                refine take_yes 10 92 (v := ?_) rfl rfl (by kernel_rfl) (by kernel_rfl) (by kernel_rfl) (fun _ _ _ h => h) (by rfl) ?_ (by assumption) ?_
                rotate_left 1
                · (intro w hSw; (try dsimp only at hSw); go_simp; try with_reducible rfl)
                simp only [Act.put, List.setIfInBounds_toArray, List.set_cons_succ, List.set_cons_zero]
                refine take_yes 11 93 (v := ?_) rfl rfl (by kernel_rfl) (by kernel_rfl) (by kernel_rfl) (fun _ _ _ h => h) (by rfl) ?_ (by assumption) ?_
                rotate_left 1
                · (intro w hSw; (try dsimp only at hSw); go_simp; try with_reducible rfl)
                simp only [Act.put, List.setIfInBounds_toArray, List.set_cons_succ, List.set_cons_zero]
                refine take_yes 12 94 (v := ?_) rfl rfl (by kernel_rfl) (by kernel_rfl) (by kernel_rfl) (fun _ _ _ h => h) (by rfl) ?_ (by assumption) ?_
                rotate_left 1
                · (intro w hSw; (try dsimp only at hSw); go_simp; try with_reducible rfl)
                simp only [Act.put, List.setIfInBounds_toArray, List.set_cons_succ, List.set_cons_zero]
                refine take_yes 13 95 (v := ?_) rfl rfl (by kernel_rfl) (by kernel_rfl) (by kernel_rfl) (fun _ _ _ h => h) (by rfl) ?_ (by assumption) ?_
                rotate_left 1
                · (intro w hSw; (try dsimp only at hSw); go_simp; try with_reducible rfl)
                simp only [Act.put, List.setIfInBounds_toArray, List.set_cons_succ, List.set_cons_zero]
                refine take_yes 14 96 (v := ?_) rfl rfl (by kernel_rfl) (by kernel_rfl) (by kernel_rfl) (fun _ _ _ h => h) (by rfl) ?_ (by assumption) ?_
                rotate_left 1
                · (intro w hSw; (try dsimp only at hSw); go_simp; try with_reducible rfl)
                simp only [Act.put, List.setIfInBounds_toArray, List.set_cons_succ, List.set_cons_zero]
                refine take_yes 15 97 (v := ?_) rfl rfl (by kernel_rfl) (by kernel_rfl) (by kernel_rfl) (fun _ _ _ h => h) (by rfl) ?_ (by assumption) ?_
                rotate_left 1
                · (intro w hSw; (try dsimp only at hSw); go_simp; try with_reducible rfl)
                simp only [Act.put, List.setIfInBounds_toArray, List.set_cons_succ, List.set_cons_zero]
                refine take_yes 16 98 (v := ?_) rfl rfl (by kernel_rfl) (by kernel_rfl) (by kernel_rfl) (fun _ _ _ h => h) (by rfl) ?_ (by assumption) ?_
                rotate_left 1
                · (intro w hSw; (try dsimp only at hSw); go_simp; try with_reducible rfl)
                simp only [Act.put, List.setIfInBounds_toArray, List.set_cons_succ, List.set_cons_zero]
                refine take_yes 17 99 (v := ?_) rfl rfl (by kernel_rfl) (by kernel_rfl) (by kernel_rfl) (fun _ _ _ h => h) (by rfl) ?_ (by assumption) ?_
                rotate_left 1
                · (intro w hSw; (try dsimp only at hSw); go_simp; try with_reducible rfl)
                simp only [Act.put, List.setIfInBounds_toArray, List.set_cons_succ, List.set_cons_zero]
                refine take_yes 18 100 (v := ?_) rfl rfl (by kernel_rfl) (by kernel_rfl) (by kernel_rfl) (fun _ _ _ h => h) (by rfl) ?_ (by assumption) ?_
                rotate_left 1
                · (intro w hSw; (try dsimp only at hSw); go_simp; try with_reducible rfl)
                simp only [Act.put, List.setIfInBounds_toArray, List.set_cons_succ, List.set_cons_zero]
                refine take_yes 19 101 (v := ?_) rfl rfl (by kernel_rfl) (by kernel_rfl) (by kernel_rfl) (fun _ _ _ h => h) (by rfl) ?_ (by assumption) ?_
                rotate_left 1
                · (intro w hSw; (try dsimp only at hSw); go_simp; try with_reducible rfl)
                simp only [Act.put, List.setIfInBounds_toArray, List.set_cons_succ, List.set_cons_zero]
                refine take_yes 20 102 (v := ?_) rfl rfl (by kernel_rfl) (by kernel_rfl) (by kernel_rfl) (fun _ _ _ h => h) (by rfl) ?_ (by assumption) ?_
                rotate_left 1
                · (intro w hSw; (try dsimp only at hSw); go_simp; try with_reducible rfl)
                simp only [Act.put, List.setIfInBounds_toArray, List.set_cons_succ, List.set_cons_zero]
                refine take_yes 21 103 (v := ?_) rfl rfl (by kernel_rfl) (by kernel_rfl) (by kernel_rfl) (fun _ _ _ h => h) (by rfl) ?_ (by assumption) ?_
                rotate_left 1
                · (intro w hSw; (try dsimp only at hSw); go_simp; try with_reducible rfl)
                simp only [Act.put, List.setIfInBounds_toArray, List.set_cons_succ, List.set_cons_zero]
                refine take_yes 22 104 (v := ?_) rfl rfl (by kernel_rfl) (by kernel_rfl) (by kernel_rfl) (fun _ _ _ h => h) (by rfl) ?_ (by assumption) ?_
                rotate_left 1
                · (intro w hSw; (try dsimp only at hSw); go_simp; try with_reducible rfl)
                simp only [Act.put, List.setIfInBounds_toArray, List.set_cons_succ, List.set_cons_zero]
                refine take_yes 23 105 (v := ?_) rfl rfl (by kernel_rfl) (by kernel_rfl) (by kernel_rfl) (fun _ _ _ h => h) (by rfl) ?_ (by assumption) ?_
                rotate_left 1
                · (intro w hSw; (try dsimp only at hSw); go_simp; try with_reducible rfl)
                simp only [Act.put, List.setIfInBounds_toArray, List.set_cons_succ, List.set_cons_zero]
                refine take_yes 24 106 (v := ?_) rfl rfl (by kernel_rfl) (by kernel_rfl) (by kernel_rfl) (fun _ _ _ h => h) (by rfl) ?_ (by assumption) ?_
                rotate_left 1
                · (intro w hSw; (try dsimp only at hSw); go_simp; try with_reducible rfl)
                simp only [Act.put, List.setIfInBounds_toArray, List.set_cons_succ, List.set_cons_zero]
                refine take_yes 25 107 (v := ?_) rfl rfl (by kernel_rfl) (by kernel_rfl) (by kernel_rfl) (fun _ _ _ h => h) (by rfl) ?_ (by assumption) ?_
                rotate_left 1
                · (intro w hSw; (try dsimp only at hSw); go_simp; try with_reducible rfl)
                simp only [Act.put, List.setIfInBounds_toArray, List.set_cons_succ, List.set_cons_zero]
                refine wpAnyH_done (by kernel_rfl) ?_ _
                have hGn := HG6.out.keep hS'
                have hXn := HNX6.out.keep hS'
                have hPXn := SlE.apart WL.heap.size HNX.out [Value.slice (some ⟨b5, 0, none⟩) (foldL m').length cX, Value.slice aY (foldT m').length cY] 0 _ (hPX6.below hS')
                have hPYn := SlP.apart WL.heap.size HNY.out [Value.slice (some ⟨b5, 0, none⟩) (foldL m').length cX, Value.slice aY (foldT m').length cY] 0 _ (hPY6.below hS')
                have HBN : Hid (Below WL.heap.size WL (wn.setCells WL.heap.size 0 [Value.slice (some ⟨b5, 0, none⟩) (foldL m').length cX, Value.slice aY (foldT m').length cY])) := below_sets (HB6.out.trans (hS'.mono HB6.out.size)) WL.heap.size (Nat.le_refl _) [Value.slice (some ⟨b5, 0, none⟩) (foldL m').length cX, Value.slice aY (foldT m').length cY] 0
                have hGs := hGn.sets [Value.slice (some ⟨b5, 0, none⟩) (foldL m').length cX, Value.slice aY (foldT m').length cY] rfl
                have HREL : Hid (Blk (wn.setCells WL.heap.size 0 [Value.slice (some ⟨b5, 0, none⟩) (foldL m').length cX, Value.slice aY (foldT m').length cY]) WL.heap.size [Value.slice (some ⟨b5, 0, none⟩) (foldL m').length cX, Value.slice aY (foldT m').length cY] ∧ SlE stC (wn.setCells WL.heap.size 0 [Value.slice (some ⟨b5, 0, none⟩) (foldL m').length cX, Value.slice aY (foldT m').length cY]) (some ⟨b5, 0, none⟩) (foldL m') ∧ SlP (wn.setCells WL.heap.size 0 [Value.slice (some ⟨b5, 0, none⟩) (foldL m').length cX, Value.slice aY (foldT m').length cY]) aY (foldT m')) := ⟨hGs, hPXn, hPYn⟩
                have e0 := hXn.at 0 rfl
                have e1 := hXn.at 1 rfl
                have f0 := hGn.at 0 rfl
                have f1 := hGn.at 1 rfl
                have ff := hGn.frz
                clear hGs hPXn hPYn hGn hXn hlen' hwn hnq hnl hnI hneo hgdo hS' hPX6 hPY6 hSG6 hHeld
                go_wp2
                go_roundw
                case rel => exact ⟨i + 1, m', some ⟨b5, 0, none⟩, aY, cX, cY, by omega, by go_num, HMX.out.1, HMX.out.2.1, HMX.out.2.2, HREL.out.1, HREL.out.2.1, HREL.out.2.2, HNX.out, HNY.out, HCX.out, HBN.out⟩
                case measure => simp [intOf]; omega
              · have hz2 : (insE (foldL m) (foldT m) (T, u, (o3, o4, o5), o6, o7) != 0) = true := by simpa using he
                obtain ⟨aX, cX, rfl, _, _⟩ := hL5.val
                obtain ⟨aY, cY, rfl⟩ := hT5.val
                have hS5 : Below W4.heap.size W4 (w5.alloc (Obj.cells #[Value.slice aX (insL (foldL m) (foldT m) (T, u, (o3, o4, o5), o6, o7)).length cX, Value.slice aY (insT (foldL m) (foldT m) (T, u, (o3, o4, o5), o6, o7)).length cY] 28)) := hb5.alloc hb5.size _
                have hGe := hG4.keep hS5
                have hSGe := hSG4.below hS5
                have hSQe := hSQ4.below hS5
                have HBe : Hid (Below WL.heap.size WL (w5.alloc (Obj.cells #[Value.slice aX (insL (foldL m) (foldT m) (T, u, (o3, o4, o5), o6, o7)).length cX, Value.slice aY (insT (foldL m) (foldT m) (T, u, (o3, o4, o5), o6, o7)).length cY] 28))) := HB4.out.trans (hS5.mono HB4.out.size)
                have HRL : Hid (Blk (w5.alloc (Obj.cells #[Value.slice aX (insL (foldL m) (foldT m) (T, u, (o3, o4, o5), o6, o7)).length cX, Value.slice aY (insT (foldL m) (foldT m) (T, u, (o3, o4, o5), o6, o7)).length cY] 28)) WL.heap.size [.slice aG (foldL m).length cG, .slice aQ (foldT m).length cQ] ∧ SlE stC (w5.alloc (Obj.cells #[Value.slice aX (insL (foldL m) (foldT m) (T, u, (o3, o4, o5), o6, o7)).length cX, Value.slice aY (insT (foldL m) (foldT m) (T, u, (o3, o4, o5), o6, o7)).length cY] 28)) aG (foldL m) ∧ SlP (w5.alloc (Obj.cells #[Value.slice aX (insL (foldL m) (foldT m) (T, u, (o3, o4, o5), o6, o7)).length cX, Value.slice aY (insT (foldL m) (foldT m) (T, u, (o3, o4, o5), o6, o7)).length cY] 28)) aQ (foldT m)) := ⟨hGe, hSGe, hSQe⟩
                clear hL5 hT5 hb5 hS5 hGe hSGe hSQe HST he hG4 hSG4 hSQ4
                go_wp2
                go_roundw
                case rel => exact ⟨i + 1, m, aG, aQ, cG, cQ, by omega, by go_num, HFM.out, fun y hy => by have := HMT.out y hy; omega, HEX.out, HRL.out.1, HRL.out.2.1, HRL.out.2.2, HNG.out, HNQ.out, hcG, HBe.out⟩
                case measure => simp [intOf]; omega
          · skip
            have hxl := HXT.out.2
            have hcl : LL.length ≤ cG := by omega
            have hclI : (LL.length : Int) ≤ (cG : Int) := by omega
            have HEQ : Hid (∀ W', SlE stC W' aG (foldL m) → SlE stC W' aL LL → Calls Try.prog 16 #[.slice aG LL.length cG, .slice aL LL.length cL] W' fun e w' => e = .returned (.bool true) ∧ ∃ k, w' = W'.drewN k) := fun W' p1 p2 => by
              have p3 := p1.take LL.length
              rw [HXT.out.1] at p3
              have := equal_sts W' aG aL cG cL LL LL (by unfold maxLen; omega) p3 p2
              rw [eqSts_yes rfl] at this
              exact this
            have HSG : Hid (SlE stC wr aG (foldL m)) := hSG
            have HPL : Hid (SlE stC wr aL LL) := hPw
            have KEEP : Hid (∀ w', Below wr.heap.size wr w' → w'.cell? ⟨WL.heap.size, 0, none⟩ = some (.slice aG (foldL m).length cG) ∧ w'.cell? ⟨w1.heap.size, 0, none⟩ = some (.slice aL LL.length cL)) := fun w' h => ⟨(hBG.keep h).at 0 rfl, (hHw.keep h).at 0 rfl⟩
            go_upto_region 23 with fail
            have hS' : Below wr.heap.size wr wr.drew := (Below.refl _ wr).drew
            refine wp_region_held_drew (S := fun w' => w'.cell? ⟨WL.heap.size, 0, none⟩ = some (.slice aG (foldL m).length cG) ∧ w'.cell? ⟨w1.heap.size, 0, none⟩ = some (.slice aL LL.length cL)) (by kernel_rfl) (KEEP.out _ hS') (fun hHeld => ?_)
            refine take_yes 0 110 (v := ?_) rfl rfl (by kernel_rfl) (by kernel_rfl) (by kernel_rfl) (fun _ _ _ h => h) (by rfl) ?_ (by assumption) ?_
            rotate_left 1
            · (intro w hSw; (try dsimp only at hSw); go_simp; try with_reducible rfl)
            simp only [Act.put, List.setIfInBounds_toArray, List.set_cons_succ, List.set_cons_zero]
            refine take_yes 1 111 (v := ?_) rfl rfl (by kernel_rfl) (by kernel_rfl) (by kernel_rfl) (fun _ _ _ h => h) (by rfl) ?_ (by assumption) ?_
            rotate_left 1
            · (intro w hSw; (try dsimp only at hSw); go_simp; try with_reducible rfl)
            simp only [Act.put, List.setIfInBounds_toArray, List.set_cons_succ, List.set_cons_zero]
            refine take_yes 2 112 (v := ?_) rfl rfl (by kernel_rfl) (by kernel_rfl) (by kernel_rfl) (fun _ _ _ h => h) (by rfl) ?_ (by assumption) ?_
            rotate_left 1
            · (intro w hSw; (try dsimp only at hSw); go_simp; try with_reducible rfl)
            simp only [Act.put, List.setIfInBounds_toArray, List.set_cons_succ, List.set_cons_zero]
            refine take_yes 3 113 (v := ?_) rfl rfl (by kernel_rfl) (by kernel_rfl) (by kernel_rfl) (fun _ _ _ h => h) (by rfl) ?_ (by assumption) ?_
            rotate_left 1
            · (intro w hSw; (try dsimp only at hSw); go_simp; try with_reducible rfl)
            simp only [Act.put, List.setIfInBounds_toArray, List.set_cons_succ, List.set_cons_zero]
            refine take_yes 4 114 (v := ?_) rfl rfl (by kernel_rfl) (by kernel_rfl) (by kernel_rfl) (fun _ _ _ h => h) (by rfl) ?_ (by assumption) ?_
            rotate_left 1
            · (intro w hSw; (try dsimp only at hSw); go_simp; try with_reducible rfl)
            simp only [Act.put, List.setIfInBounds_toArray, List.set_cons_succ, List.set_cons_zero]
            refine take_yes 5 115 (v := ?_) rfl rfl (by kernel_rfl) (by kernel_rfl) (by kernel_rfl) (fun _ _ _ h => h) (by rfl) ?_ (by assumption) ?_
            rotate_left 1
            · (intro w hSw; (try dsimp only at hSw); go_simp; try with_reducible rfl)
            simp only [Act.put, List.setIfInBounds_toArray, List.set_cons_succ, List.set_cons_zero]
            refine take_yes 6 116 (v := ?_) rfl rfl (by kernel_rfl) (by kernel_rfl) (by kernel_rfl) (fun _ _ _ h => h) (by rfl) ?_ (by assumption) ?_
            rotate_left 1
            · (intro w hSw; (try dsimp only at hSw); go_simp; try with_reducible rfl)
            simp only [Act.put, List.setIfInBounds_toArray, List.set_cons_succ, List.set_cons_zero]
            refine take_yes 7 117 (v := ?_) rfl rfl (by kernel_rfl) (by kernel_rfl) (by kernel_rfl) (fun _ _ _ h => h) (by rfl) ?_ (by assumption) ?_
            rotate_left 1
            · (intro w hSw; (try dsimp only at hSw); go_simp; try with_reducible rfl)
            simp only [Act.put, List.setIfInBounds_toArray, List.set_cons_succ, List.set_cons_zero]
            refine wpAnyH_ready (rs := [8]) (by kernel_rfl) (by simp) ?_
            refine AllReadyH.cons rfl (fun K hK => ?_) AllReadyH.nil
            go_simp
            refine (HEQ.out _ (HSG.out.below hS') (HPL.out.below hS')).mono ?_
            rintro e wn ⟨rfl, nn, hnn⟩
            have hS' : Below wr.heap.size wr wn := (by rw [hnn]; exact hS'.trans ⟨rfl, rfl, rfl, Nat.le_refl _, fun _ _ => rfl⟩)
            clear hnn
            go_wp2_with fail
            refine hK.out _ _ ?_ (fun hHeld => ?_)
            · (try dsimp only); exact KEEP.out _ hS'
            clear hK K
            refine take_yes 9 4 (v := ?_) rfl rfl (by kernel_rfl) (by kernel_rfl) (by kernel_rfl) (fun _ _ _ h => h) (by rfl) ?_ (by assumption) ?_
            rotate_left 1
            · (intro w hSw; (try dsimp only at hSw); go_simp; try with_reducible rfl)
            simp only [Act.put, List.setIfInBounds_toArray, List.set_cons_succ, List.set_cons_zero]
            refine wpAnyH_done (by kernel_rfl) ?_ _
            go_wp2
            go_ret
            exact ⟨rfl, HBWr.out.trans (hS'.mono HBWr.out.size)⟩
end Go.Proofs.Ytphameoibnimmab

/- A tree that came in as an argument: which places it holds. -/
namespace Go.Proofs.Ytphameoibnimmab
open Go.ChangeShapes Go.WideShapes Go.ChangeAt Go.RowKit
open Orangery (Pl)

theorem cells3_of {w : World} {base : Nat} {a : Addr} {cs : List Value} (h : w.cells? base a 3 = some cs) :
    ∃ x y z, cs = [x, y, z] ∧ w.cell? (a.add 0) = some x ∧ w.cell? (a.add 1) = some y ∧ w.cell? (a.add 2) = some z := by
  unfold World.cells? at h
  split at h
  · simp only [show List.range 3 = [0, 1, 2] from rfl, List.mapM_cons, List.mapM_nil] at h
    cases h0 : w.cell? (a.add 0) with
    | none => simp [h0] at h
    | some x =>
      cases h1 : w.cell? (a.add 1) with
      | none => simp [h0, h1] at h
      | some y =>
        cases h2 : w.cell? (a.add 2) with
        | none => simp [h0, h1, h2] at h
        | some z =>
          simp [h0, h1, h2] at h
          exact ⟨x, y, z, h.symm, rfl, rfl, rfl⟩
  · simp at h

theorem add_at (b off i : Nat) : (⟨b, off, none⟩ : Addr).add i = ⟨b, off + i, none⟩ := by
  unfold Addr.add
  by_cases hz : i = 0 <;> simp [hz]

/-- a slice of places that is read -/
theorem open_places {H : Type} {enc : TypeId × Value → H} {w : World} {base fuel : Nat} {spare : Nat → Bool} {held : Bool} {v : Value} {x : DataW H × List MemPlace}
    (h : DataW.trod enc Try.prog w base spare held fuel 24 [v] = some x) : ∃ a c, ∃ l : List Pl, v = .slice a l.length c ∧ l.length ≤ maxLen ∧ SlP w a l := by
  rcases Go.Deep.open_slice Try.underlying24 h with ⟨hcs, _⟩ | ⟨a, len, cap, m, n, D, Pq, hcs, _, hle, hm, hmm, _, hel⟩
  · simp at hcs
    subst hcs
    exact ⟨none, 0, [], rfl, by simp, Or.inl rfl⟩
  · simp at hcs
    subst hcs
    have hlm : len ≤ m := by rw [hmm]; split <;> omega
    have hC : Try.prog.cellsOf 45 = 3 := by kernel_rfl
    have hI : Try.prog.cellsOf 3 = 1 := by kernel_rfl
    have key : ∀ i, i < len → ∃ q : Pl, w.cell? ((a.add (i * 3)).add 0) = some (.int .i64 q.1) ∧ w.cell? ((a.add (i * 3)).add 1) = some (.int .i64 q.2.1) ∧ w.cell? ((a.add (i * 3)).add 2) = some (.int .i64 q.2.2) := by
      intro i hi
      obtain ⟨cs', h1, h2⟩ := hel i (by omega)
      rw [hC] at h1
      obtain ⟨x, y, z, rfl, c0, c1, c2⟩ := cells3_of h1
      obtain ⟨y0, y1, y2, n', _, _, t0, t1, t2⟩ := Go.Deep.trod_struct3 Try.underlying45 h2
      simp [hI] at t0 t1 t2
      obtain ⟨q0, e0, _, _⟩ := DataW.trod_int Try.underlying3 t0
      obtain ⟨q1, e1, _, _⟩ := DataW.trod_int Try.underlying3 t1
      obtain ⟨q2, e2, _, _⟩ := DataW.trod_int Try.underlying3 t2
      simp at e0 e1 e2
      subst e0 e1 e2
      exact ⟨(q0, q1, q2), c0, c1, c2⟩
    obtain ⟨f, hf⟩ := Go.Deep.choose_lt key
    refine ⟨some a, cap, (List.range len).map f, by simp, by simp; omega, ?_⟩
    by_cases hz : len = 0
    · exact Or.inl (by simp [hz])
    · right
      have h0 := (hf 0 (by omega)).1
      obtain ⟨b, off, spot⟩ := a
      have hspot : spot = none := by simpa [Addr.add] using World.cell?_spot h0
      subst hspot
      have hb : b < w.heap.size := by
        have := World.block_lt_of_cell? w _ h0
        rw [add_at, add_at] at this
        exact this
      refine ⟨b, off, rfl, hb, fun i hi => ?_⟩
      have hi' : i < len := by simpa using hi
      have := hf i hi'
      rw [add_at, add_at, add_at, add_at] at this
      simpa using this

set_option maxRecDepth 100000 in
/-- a tree that came in -/
theorem open_tree {H : Type} {enc : TypeId × Value → H} {w : World} {r : Reach} {b0 base : Nat} {spare : Nat → Bool} {held : Bool} {v : Value} {d : DataW H} {p : List MemPlace}
    (hv : Value.okWide Try.prog w r b0 26 v) (h : DataW.Trod enc Try.prog w base spare held 26 v d p) : ∃ a c, ∃ l : List Pl, v = .agg #[.slice a l.length c] ∧ l.length ≤ maxLen ∧ SlP w a l := by
  obtain ⟨cs, rfl, hsz⟩ := okWide_struct Try.underlying26 hv
  have hC : Try.prog.cellsOf 26 = 1 := by kernel_rfl
  have hD : Try.prog.cellsOf 24 = 1 := by kernel_rfl
  rw [hC] at hsz
  obtain ⟨c0, rfl⟩ : ∃ c0, cs = #[c0] := by
    have h1 : cs.toList.length = 1 := by simpa using hsz
    obtain ⟨x, hx⟩ := List.length_eq_one_iff.1 h1
    exact ⟨x, by cases cs; simp_all⟩
  obtain ⟨fuel, hf⟩ := h
  obtain ⟨y0, n, _, _, h0⟩ := trod_struct1 Try.underlying26 hf
  simp [Value.cells, hD] at h0
  obtain ⟨a, c, l, rfl, h1, h2⟩ := open_places h0
  exact ⟨a, c, l, rfl, h1, h2⟩
end Go.Proofs.Ytphameoibnimmab

