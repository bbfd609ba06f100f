/- history.Fold. -/
import Derived.Test.YtphameoibnimmaaPlay
import Derived.Test.YtphameoibnimmaaSortOp
namespace Go.Proofs.Ytphameoibnimmaa
open Go.ChangeShapes Go.WideShapes Go.ChangeAt Go.RowKit
open Orangery (Pl Mv Stp check checkOp firstE foldE foldL foldT noTwo hasM srt)

/-- what a call that folds leaves -/
def Folds (w : World) (L : List Stp) (T : List Pl) (E : Int) (e : Ending) (w' : World) : Prop :=
  ∃ vL vT, e = .returned (.tuple #[hiV vL vT, .int .i64 E]) ∧ OwnE stC 11 51 w' w.heap.size vL L ∧ OwnS w' w.heap.size vT T ∧ Below w.heap.size w w'

theorem folds_err {w w' : World} {L : List Stp} {T : List Pl} {E : Int} (hL : L = []) (hT : T = []) (hb : Below w.heap.size w w') :
    Folds w L T E (.returned (.tuple #[.agg [Value.slice none 0 0, Value.slice none 0 0].toArray, .int .i64 E])) w' := by
  subst hL hT
  exact ⟨_, _, rfl, OwnE.nil _ _, Or.inl ⟨rfl, rfl⟩, hb⟩

set_option maxHeartbeats 2000000 in
set_option maxRecDepth 100000 in
theorem fold_any (w : World) (a : Option Addr) (c : Nat) (l : List Mv) (hl : l.length ≤ maxLen) (hc : l.length ≤ c) (h : SlE opC w a l) :
    Calls Try.prog 29 #[.slice a l.length c] w fun e w' => Folds w (foldL l) (foldT l) (foldE l) e w' := by
  have hl' : l.length ≤ 9223372036854775807 := hl
  have HH : Hid (SlE opC w a l) := h
  clear h hl
  obtain ⟨W0, hW, hR, hB, hS⟩ := laid1 w [Value.slice none 0 0, Value.slice none 0 0] 62
  have HS0 : Hid (W0.heap.size = w.heap.size + 1) := hS
  clear hS
  by_cases hlen : l.length ≤ 30
  case neg =>
    have hd : decide ((l.length : Int) > 30) = true := by simp; omega
    have HE : Hid (foldE l = 2) := Orangery.foldE_many (by omega)
    have r0 := hR.at 0 rfl
    have r1 := hR.at 1 rfl
    have rf := hR.frz
    clear hlen
    go_enter Try.func29, Try.ntmps29
    go_wp2
    have hRf := hR.sets [Value.slice none 0 0, Value.slice none 0 0] rfl
    refine ret_cell_tmp Try.results29 rfl rfl (hRf.load Try.underlying62 rfl sizeHist) ?_
    rw [HE.out]
    have hz := Orangery.fold_err (l := l) (by rw [HE.out]; decide)
    exact folds_err hz.1 hz.2 (below_sets hB w.heap.size (Nat.le_refl _) [Value.slice none 0 0, Value.slice none 0 0] 0)
  case pos =>
    have hd : decide ((l.length : Int) > 30) = false := by simp; omega
    go_enter Try.func29, Try.ntmps29
    go_wp2
    clear hW
    go_loopw [16] (fun i W => ∃ k : Nat, k ≤ l.length ∧ i = .int .i64 k ∧ firstE (l.drop k) = firstE l ∧ Below W0.heap.size W0 W) (fun i _ => l.length - (intOf i).toNat)
    case atStart => exact ⟨0, Nat.zero_le _, rfl, rfl, Below.refl _ _⟩
    case round =>
      obtain ⟨k, hk, rfl, hf, hb⟩ := hrel
      have hR1 := hR.keep hb
      have hB1 : Below w.heap.size w wr := hB.trans (hb.mono hB.size)
      by_cases hlt : k < l.length
      · obtain ⟨b, off, rfl, hbl, hr⟩ := (HH.out.below hB1).at opC_len k hlt
        obtain ⟨g0, g1, g2, g3, g4, g5, g6⟩ := op_cells hr
        obtain ⟨s1, s2⟩ := Orangery.firstE_drop l k hlt hf
        have H1 : Hid (checkOp l[k] ≠ 0 → firstE l = checkOp l[k]) := s1
        have H2 : Hid (checkOp l[k] = 0 → firstE (l.drop (k + 1)) = firstE l) := s2
        clear s1 s2 hf hr
        generalize l[k] = o at *
        obtain ⟨o1, o2, ⟨o3, o4, o5⟩, o6, o7⟩ := o
        simp only at g0 g1 g2 g3 g4 g5 g6
        obtain ⟨W2, hW2, hN, hBn, _⟩ := laid1 wr [Value.int IntKind.i64 o1, Value.int IntKind.i64 o2, Value.int IntKind.i64 o3, Value.int IntKind.i64 o4, Value.int IntKind.i64 o5, Value.int IntKind.i64 o6, Value.int IntKind.i64 o7] 49
        have n0 := hN.at 0 rfl
        have n1 := hN.at 1 rfl
        have n2 := hN.at 2 rfl
        have n3 := hN.at 3 rfl
        have n4 := hN.at 4 rfl
        have n5 := hN.at 5 rfl
        have n6 := hN.at 6 rfl
        have hR2 := hR1.keep hBn
        have HB2 : Hid (Below W0.heap.size W0 W2) := hb.trans (hBn.mono hb.size)
        clear hR1 hB1 hb hBn hN
        go_wp2_with fail
        refine (moveCheck_any W2 (o1, o2, (o3, o4, o5), o6, o7)).mono ?_
        rintro e w3 ⟨rfl, hb3⟩
        have hR3 := hR2.keep hb3
        have HB3 : Hid (Below W0.heap.size W0 w3) := HB2.out.trans (hb3.mono HB2.out.size)
        clear hR2 HB2 hb3 hW2 n0 n1 n2 n3 n4 n5 n6 g0 g1 g2 g3 g4 g5 g6
        by_cases hz : checkOp (o1, o2, (o3, o4, o5), o6, o7) = 0
        · have HE := H2.out hz
          have HEE : Hid (firstE (l.drop (k + 1)) = firstE l) := HE
          rw [hz]
          clear HE H1 H2 hz
          go_wp2
          go_roundw
          case rel => exact ⟨k + 1, hlt, by go_num, HEE.out, HB3.out⟩
          case measure => simp [intOf]; omega
        · have hz' : (checkOp (o1, o2, (o3, o4, o5), o6, o7) != 0) = true := by simpa using hz
          have HZ : Hid (checkOp (o1, o2, (o3, o4, o5), o6, o7) ≠ 0) := hz
          have HE : Hid (firstE l = checkOp (o1, o2, (o3, o4, o5), o6, o7)) := H1.out hz
          have r0 := hR3.at 0 rfl
          have r1 := hR3.at 1 rfl
          have rf := hR3.frz
          clear hz H1 H2
          generalize checkOp (o1, o2, (o3, o4, o5), o6, o7) = E at *
          go_wp2
          have hRf := hR3.sets [Value.slice none 0 0, Value.slice none 0 0] rfl
          refine ret_cell_tmp Try.results29 rfl rfl (hRf.load Try.underlying62 rfl sizeHist) ?_
          have e0 : foldE l = E := by rw [Orangery.foldE_first hlen (by rw [HE.out]; exact HZ.out), HE.out]
          rw [e0]
          have hzz := Orangery.fold_err (l := l) (by rw [e0]; exact HZ.out)
          exact folds_err hzz.1 hzz.2 (below_sets (hB.trans (HB3.out.mono hB.size)) w.heap.size (Nat.le_refl _) [Value.slice none 0 0, Value.slice none 0 0] 0)
      · have hk' : k = l.length := by omega
        subst hk'
        have hok0 : firstE l = 0 := by rw [← hf, List.drop_of_length_le (Nat.le_refl _)]; rfl
        have HOK0 : Hid (firstE l = 0) := hok0
        have HOK : Hid (∀ o ∈ l, checkOp o = 0) := (Orangery.firstE_zero l).1 hok0
        have HB1 : Hid (Below w.heap.size w wr) := hB1
        have HR1 : Hid (Blk wr w.heap.size [Value.slice none 0 0, Value.slice none 0 0]) := hR1
        clear hf hok0 hb hR hB hB1 hR1 HS0
        rename World => W1
        go_wp2
        go_loopw [29] (fun i W => ∃ k : Nat, k ≤ l.length ∧ i = .int .i64 k ∧ noTwo (l.take k) ∧ Below W1.heap.size W1 W) (fun i _ => l.length - (intOf i).toNat)
        case atStart => exact ⟨0, Nat.zero_le _, rfl, by simp, Below.refl _ _⟩
        case round =>
          obtain ⟨k, hk2, rfl, hnt, hb⟩ := hrel
          have hR1 := HR1.out.keep hb
          have hB1 : Below w.heap.size w wr := HB1.out.trans (hb.mono HB1.out.size)
          by_cases hlt : k < l.length
          · obtain ⟨b, off, rfl, hbl, hr⟩ := (HH.out.below hB1).at opC_len k hlt
            obtain ⟨g0, g1, g2, g3, g4, g5, g6⟩ := op_cells hr
            obtain ⟨s1, s2⟩ := Orangery.noTwo_take HOK.out k hlt hnt
            have H1 : Hid (hasM (l.take k) l[k].1 l[k].2.1 = false → noTwo (l.take (k + 1))) := s1
            have H2 : Hid (hasM (l.take k) l[k].1 l[k].2.1 = true → ¬ noTwo l) := s2
            have hHP := ((HH.out.below hB1).take k)
            have hkc : k ≤ c := by omega
            have hkc' : (k : Int) ≤ (c : Int) := by omega
            clear s1 s2 hnt hr
            generalize l[k] = o at *
            obtain ⟨o1, o2, ⟨o3, o4, o5⟩, o6, o7⟩ := o
            simp only at g0 g1 g2 g3 g4 g5 g6
            have HAS : Hid (∀ W, SlE opC W (some ⟨b, off, none⟩) (l.take k) → Calls Try.prog 62 #[.slice (some ⟨b, off, none⟩) k c, .agg #[.int .i64 o1, .int .i64 o2]] W fun e w' => e = .returned (.bool (hasM (l.take k) o1 o2)) ∧ Below W.heap.size W w') := by
              show ∀ W, _
              intro W hPW
              have := has_any W (some ⟨b, off, none⟩) c (l.take k) o1 o2 (by simp; unfold maxLen; omega) hPW
              rw [List.length_take_of_le (by omega)] at this
              exact this
            obtain ⟨W2, hW2, hN, hBn, _⟩ := laid1 wr [Value.int IntKind.i64 o1, Value.int IntKind.i64 o2, Value.int IntKind.i64 o3, Value.int IntKind.i64 o4, Value.int IntKind.i64 o5, Value.int IntKind.i64 o6, Value.int IntKind.i64 o7] 49
            have n0 := hN.at 0 rfl
            have n1 := hN.at 1 rfl
            have hwl : wr.heap.size < W2.heap.size := hN.lt
            have hR2 := hR1.keep hBn
            have HP2 : Hid (SlE opC W2 (some ⟨b, off, none⟩) (l.take k)) := hHP.below hBn
            have HB2 : Hid (Below W1.heap.size W1 W2) := hb.trans (hBn.mono hb.size)
            clear hR1 hB1 hb hBn hN hHP
            go_upto_region 13 with fail
            clear hW2 g0 g1 g2 g3 g4 g5 g6
            go_region_held3 (fun w' => w'.cell? ⟨wr.heap.size, 0, none⟩ = some (.int .i64 o1) ∧ w'.cell? ⟨wr.heap.size, 1, none⟩ = some (.int .i64 o2)) (go_keep)
              (first | (go_at_call 62; refine (HAS.out _ ?_).mono ?_; exact HP2.out.drew; rintro e w3 ⟨rfl, hb3⟩; have m0 := (hb3.cell (p := ⟨wr.heap.size, 0, none⟩) hwl).trans n0; have m1 := (hb3.cell (p := ⟨wr.heap.size, 1, none⟩) hwl).trans n1))
            have HB3 : Hid (Below W1.heap.size W1 w3) := HB2.out.trans ((((Below.refl _ W2).drew).trans hb3).mono HB2.out.size)
            have hR3 := hR2.keep (((Below.refl _ W2).drew).trans hb3)
            clear hR2 HB2 hb3 m0 m1 n0 n1 hwl HP2 HAS
            cases hq : hasM (l.take k) o1 o2
            · have HE : Hid (noTwo (l.take (k + 1))) := H1.out hq
              clear H1 H2
              go_wp2
              go_roundw
              case rel => exact ⟨k + 1, hlt, by go_num, HE.out, HB3.out⟩
              case measure => simp [intOf]; omega
            · have HE : Hid (¬ noTwo l) := H2.out hq
              clear H1 H2
              have r0 := hR3.at 0 rfl
              have r1 := hR3.at 1 rfl
              have rf := hR3.frz
              go_wp2
              have hRf := hR3.sets [Value.slice none 0 0, Value.slice none 0 0] rfl
              refine ret_cell_tmp Try.results29 rfl rfl (hRf.load Try.underlying62 rfl sizeHist) ?_
              have e0 : foldE l = 6 := Orangery.foldE_twice hlen HOK0.out HE.out
              rw [e0]
              have hzz := Orangery.fold_err (l := l) (by rw [e0]; decide)
              exact folds_err hzz.1 hzz.2 (below_sets (HB1.out.trans (HB3.out.mono HB1.out.size)) w.heap.size (Nat.le_refl _) [Value.slice none 0 0, Value.slice none 0 0] 0)
          · have hk' : k = l.length := by omega
            subst hk'
            rw [List.take_of_length_le (Nat.le_refl _)] at hnt
            have HNT : Hid (noTwo l) := hnt
            have HBW : Hid (Below w.heap.size w wr) := hB1
            have hP := HH.out.below hB1
            clear hnt hb hB1 HB1 HR1
            go_wp2_with fail
            refine (cloneOps_any wr a c l (by omega) hP).mono ?_
            rintro e w2 ⟨v2, rfl, hO2, hb2⟩
            have hR2 := hR1.keep hb2
            have HB2 : Hid (Below w.heap.size w w2) := HBW.out.trans (hb2.mono HBW.out.size)
            have hwr : w.heap.size + 1 ≤ wr.heap.size := hR1.lt
            have hsz2 := hb2.size
            clear hP hR1 HBW hb2
            go_wp2_with fail
            refine (sortOps_any w2 wr.heap.size v2 l (by omega) hsz2 hO2).mono ?_
            rintro e w3 ⟨rfl, l', hp', hs', hO3, hb3⟩
            have hR3 := hR2.below hb3 (by omega)
            have HB3 : Hid (Below w.heap.size w w3) := HB2.out.trans (hb3.mono (by omega))
            have HSR : Hid (srt l = l') := Orangery.srt_of_stamps HOK.out HNT.out hp' hs'
            have HOK' : Hid (∀ o ∈ l', checkOp o = 0) := fun o ho => HOK.out o (hp'.mem_iff.1 ho)
            have hlen' : l'.length ≤ 1000 := by rw [hp'.length_eq]; omega
            obtain ⟨a3, c3, rfl, hP3, _⟩ := hO3.val
            have hsz3 := hb3.size
            clear hO2 hO3 hR2 HB2 hp' hs' hb3
            go_wp2_with fail
            refine (play_any w3 a3 c3 l' hlen' hP3 HOK'.out).mono ?_
            rintro e w4 ⟨vL, vT, rfl, hL4, hT4, hb4⟩
            have hR4 := hR3.keep hb4
            have HB4 : Hid (Below w.heap.size w w4) := HB3.out.trans (hb4.mono HB3.out.size)
            have hL5 := hL4.mono (base' := w.heap.size + 1) (by omega)
            have hT5 := hT4.mono (base' := w.heap.size + 1) (by omega)
            obtain ⟨aT, cT, rfl⟩ := hT5.val
            obtain ⟨aL, cL, rfl, _, _⟩ := hL5.val
            have r0 := hR4.at 0 rfl
            have r1 := hR4.at 1 rfl
            have rf := hR4.frz
            clear hL4 hT4 hP3 hR3 HB3 hb4
            go_wp2
            have hRf := hR4.sets [Value.slice aL (Orangery.runS [] l').length cL, Value.slice aT (Orangery.runT [] l').length cT] rfl
            refine ret_cell_tmp Try.results29 rfl rfl (hRf.load Try.underlying62 rfl sizeHist) ?_
            have e0 : foldE l = 0 := Orangery.foldE_ok hlen HOK0.out HNT.out
            obtain ⟨f1, f2, _⟩ := Orangery.fold_ok e0
            rw [e0, f1, f2, HSR.out]
            have e1 := (OwnE.others w.heap.size (by omega) [Value.slice aL (Orangery.runS [] l').length cL, Value.slice aT (Orangery.runT [] l').length cT] 0 w4 hL5).mono (base' := w.heap.size) (by omega)
            have e2 := (OwnS.others w.heap.size (by omega) [Value.slice aL (Orangery.runS [] l').length cL, Value.slice aT (Orangery.runT [] l').length cT] 0 w4 hT5).mono (base' := w.heap.size) (by omega)
            exact ⟨_, _, rfl, e1, e2, below_sets HB4.out w.heap.size (Nat.le_refl _) [Value.slice aL (Orangery.runS [] l').length cL, Value.slice aT (Orangery.runT [] l').length cT] 0⟩
end Go.Proofs.Ytphameoibnimmaa
