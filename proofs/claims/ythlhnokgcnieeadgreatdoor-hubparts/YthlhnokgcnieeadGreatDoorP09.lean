/- 6 texts of the proof: slices.SortFunc by history.byStamp. history.Fold. history.operations, orangeryref.OpsOf: the operations of a history. history.Check. hub.New, orangeryref.FreshHub; hub.clone. A hub that is worked into, and what accepts a life and roots. -/
import Derived.OwnWalk
import Derived.Deep.DeepCutAuto
import Derived.Test.YthlhnokgcnieeadGreatDoorP04
import Derived.Test.YthlhnokgcnieeadGreatDoorP08
import Derived.Test.YthlhnokgcnieeadGreatDoorP07
/- slices.SortFunc by history.byStamp. -/
namespace Go.Proofs.YthlhnokgcnieeadGreatDoor
open Go.ChangeShapes Go.WideShapes Go.ChangeAt Go.RowKit
open Orangery (Pl Mv Stp cmpI orI)

theorem byS_lt (o p : Mv) : byS o p < 0 ↔ o.1 < p.1 ∨ (o.1 = p.1 ∧ o.2.1 < p.2.1) := by
  unfold byS orI cmpI
  by_cases h1 : o.1 < p.1
  · simp [h1]
  · by_cases h2 : p.1 < o.1
    · simp [h1, h2]; omega
    · by_cases h3 : o.2.1 < p.2.1
      · simp [h1, h2, h3]; omega
      · by_cases h4 : p.2.1 < o.2.1 <;> simp [h1, h2, h3, h4]
theorem swoStamp : Go.Sort.SWO (Go.Proofs.ltOf byS) := by
  refine ⟨fun x => ?_, fun x y z h1 h2 => ?_, fun x y z h1 h2 => ?_⟩
  · have : ¬ byS x x < 0 := by rw [byS_lt]; omega
    simpa [Go.Proofs.ltOf] using this
  · simp only [Go.Proofs.ltOf, decide_eq_true_eq, byS_lt] at *
    omega
  · simp only [Go.Proofs.ltOf, decide_eq_false_iff_not, byS_lt] at *
    omega

theorem sortOps_any (w : World) (base : Nat) (v : Value) (l : List Mv) (hl : l.length ≤ 1000) (hbase : base ≤ w.heap.size) (h : OwnE opC 7 41 w base v l) :
    Calls Tryz.prog 79 #[v, .func (.func 80) #[] #[]] w
      fun e w' => e = .returned (.tuple #[]) ∧ ∃ l', l'.Perm l ∧ (l'.Pairwise fun p q => ¬ (q.1 < p.1 ∨ (q.1 = p.1 ∧ q.2.1 < p.2.1))) ∧ OwnE opC 7 41 w' base v l' ∧ Below base w w' := by
  have hn := sortE Tryz.sortOp Tryz.isAgg41 Tryz.sizeOf41 opC_len (by omega) opC_one byS swoStamp 80 (Go.Proofs.enters_of Tryz.func80 (by kernel_rfl) rfl) (fun w x y => byStamp_any w x y) w base 41 v l hl hbase h
  change Calls Tryz.prog 79 _ _ _ at hn
  refine hn.mono ?_
  rintro e w' ⟨rfl, l', h1, h2, h3, h4, _⟩
  exact ⟨rfl, l', h1, h2.imp (fun {p q} hh => by rw [byS_lt] at hh; exact hh), h3, h4⟩
end Go.Proofs.YthlhnokgcnieeadGreatDoor

/- history.Fold. -/
namespace Go.Proofs.YthlhnokgcnieeadGreatDoor
open Go.ChangeShapes Go.WideShapes Go.ChangeAt Go.RowKit
open Orangery (Pl Mv Stp check checkOp firstE foldE foldL foldT noTwo hasM srt)

/-- what a call that folds leaves -/
def Folds (w : World) (L : List Stp) (T : List Pl) (E : Int) (e : Ending) (w' : World) : Prop :=
  ∃ vL vT, e = .returned (.tuple #[hiV vL vT, .int .i64 E]) ∧ OwnE stC 11 95 w' w.heap.size vL L ∧ OwnS w' w.heap.size vT T ∧ Below w.heap.size w w'

theorem folds_err {w w' : World} {L : List Stp} {T : List Pl} {E : Int} (hL : L = []) (hT : T = []) (hb : Below w.heap.size w w') :
    Folds w L T E (.returned (.tuple #[.agg [Value.slice none 0 0, Value.slice none 0 0].toArray, .int .i64 E])) w' := by
  subst hL hT
  exact ⟨_, _, rfl, OwnE.nil _ _, Or.inl ⟨rfl, rfl⟩, hb⟩

set_option maxHeartbeats 2000000 in
set_option maxRecDepth 100000 in
theorem fold_any (w : World) (a : Option Addr) (c : Nat) (l : List Mv) (hl : l.length ≤ maxLen) (hc : l.length ≤ c) (h : SlE opC w a l) :
    Calls Tryz.prog 60 #[.slice a l.length c] w fun e w' => Folds w (foldL l) (foldT l) (foldE l) e w' := by
  have hl' : l.length ≤ 9223372036854775807 := hl
  have HH : Hid (SlE opC w a l) := h
  clear h hl
  obtain ⟨W0, hW, hR, hB, hS⟩ := laid1 w [Value.slice none 0 0, Value.slice none 0 0] 28
  have HS0 : Hid (W0.heap.size = w.heap.size + 1) := hS
  clear hS
  by_cases hlen : l.length ≤ 30
  case neg =>
    have hd : decide ((l.length : Int) > 30) = true := by simp; omega
    have HE : Hid (foldE l = 2) := Orangery.foldE_many (by omega)
    have r0 := hR.at 0 rfl
    have r1 := hR.at 1 rfl
    have rf := hR.frz
    clear hlen
    go_enter Tryz.func60, Tryz.ntmps60
    go_wp2
    have hRf := hR.sets [Value.slice none 0 0, Value.slice none 0 0] rfl
    refine ret_cell_tmp Tryz.results60 rfl rfl (hRf.load Tryz.underlying28 rfl sizeHist) ?_
    rw [HE.out]
    have hz := Orangery.fold_err (l := l) (by rw [HE.out]; decide)
    exact folds_err hz.1 hz.2 (below_sets hB w.heap.size (Nat.le_refl _) [Value.slice none 0 0, Value.slice none 0 0] 0)
  case pos =>
    have hd : decide ((l.length : Int) > 30) = false := by simp; omega
    go_enter Tryz.func60, Tryz.ntmps60
    go_wp2
    clear hW
    go_loopw [16] (fun i W => ∃ k : Nat, k ≤ l.length ∧ i = .int .i64 k ∧ firstE (l.drop k) = firstE l ∧ Below W0.heap.size W0 W) (fun i _ => l.length - (intOf i).toNat)
    case atStart => exact ⟨0, Nat.zero_le _, rfl, rfl, Below.refl _ _⟩
    case round =>
      obtain ⟨k, hk, rfl, hf, hb⟩ := hrel
      have hR1 := hR.keep hb
      have hB1 : Below w.heap.size w wr := hB.trans (hb.mono hB.size)
      by_cases hlt : k < l.length
      · obtain ⟨b, off, rfl, hbl, hr⟩ := (HH.out.below hB1).at opC_len k hlt
        obtain ⟨g0, g1, g2, g3, g4, g5, g6⟩ := op_cells hr
        obtain ⟨s1, s2⟩ := Orangery.firstE_drop l k hlt hf
        have H1 : Hid (checkOp l[k] ≠ 0 → firstE l = checkOp l[k]) := s1
        have H2 : Hid (checkOp l[k] = 0 → firstE (l.drop (k + 1)) = firstE l) := s2
        clear s1 s2 hf hr
        generalize l[k] = o at *
        obtain ⟨o1, o2, ⟨o3, o4, o5⟩, o6, o7⟩ := o
        simp only at g0 g1 g2 g3 g4 g5 g6
        obtain ⟨W2, hW2, hN, hBn, _⟩ := laid1 wr [Value.int IntKind.i64 o1, Value.int IntKind.i64 o2, Value.int IntKind.i64 o3, Value.int IntKind.i64 o4, Value.int IntKind.i64 o5, Value.int IntKind.i64 o6, Value.int IntKind.i64 o7] 41
        have n0 := hN.at 0 rfl
        have n1 := hN.at 1 rfl
        have n2 := hN.at 2 rfl
        have n3 := hN.at 3 rfl
        have n4 := hN.at 4 rfl
        have n5 := hN.at 5 rfl
        have n6 := hN.at 6 rfl
        have hR2 := hR1.keep hBn
        have HB2 : Hid (Below W0.heap.size W0 W2) := hb.trans (hBn.mono hb.size)
        clear hR1 hB1 hb hBn hN
        go_wp2_with fail
        refine (moveCheck_any W2 (o1, o2, (o3, o4, o5), o6, o7)).mono ?_
        rintro e w3 ⟨rfl, hb3⟩
        have hR3 := hR2.keep hb3
        have HB3 : Hid (Below W0.heap.size W0 w3) := HB2.out.trans (hb3.mono HB2.out.size)
        clear hR2 HB2 hb3 hW2 n0 n1 n2 n3 n4 n5 n6 g0 g1 g2 g3 g4 g5 g6
        by_cases hz : checkOp (o1, o2, (o3, o4, o5), o6, o7) = 0
        · have HE := H2.out hz
          have HEE : Hid (firstE (l.drop (k + 1)) = firstE l) := HE
          rw [hz]
          clear HE H1 H2 hz
          go_wp2
          go_roundw
          case rel => exact ⟨k + 1, hlt, by go_num, HEE.out, HB3.out⟩
          case measure => simp [intOf]; omega
        · have hz' : (checkOp (o1, o2, (o3, o4, o5), o6, o7) != 0) = true := by simpa using hz
          have HZ : Hid (checkOp (o1, o2, (o3, o4, o5), o6, o7) ≠ 0) := hz
          have HE : Hid (firstE l = checkOp (o1, o2, (o3, o4, o5), o6, o7)) := H1.out hz
          have r0 := hR3.at 0 rfl
          have r1 := hR3.at 1 rfl
          have rf := hR3.frz
          clear hz H1 H2
          generalize checkOp (o1, o2, (o3, o4, o5), o6, o7) = E at *
          go_wp2
          have hRf := hR3.sets [Value.slice none 0 0, Value.slice none 0 0] rfl
          refine ret_cell_tmp Tryz.results60 rfl rfl (hRf.load Tryz.underlying28 rfl sizeHist) ?_
          have e0 : foldE l = E := by rw [Orangery.foldE_first hlen (by rw [HE.out]; exact HZ.out), HE.out]
          rw [e0]
          have hzz := Orangery.fold_err (l := l) (by rw [e0]; exact HZ.out)
          exact folds_err hzz.1 hzz.2 (below_sets (hB.trans (HB3.out.mono hB.size)) w.heap.size (Nat.le_refl _) [Value.slice none 0 0, Value.slice none 0 0] 0)
      · have hk' : k = l.length := by omega
        subst hk'
        have hok0 : firstE l = 0 := by rw [← hf, List.drop_of_length_le (Nat.le_refl _)]; rfl
        have HOK0 : Hid (firstE l = 0) := hok0
        have HOK : Hid (∀ o ∈ l, checkOp o = 0) := (Orangery.firstE_zero l).1 hok0
        have HB1 : Hid (Below w.heap.size w wr) := hB1
        have HR1 : Hid (Blk wr w.heap.size [Value.slice none 0 0, Value.slice none 0 0]) := hR1
        clear hf hok0 hb hR hB hB1 hR1 HS0
        rename World => W1
        go_wp2
        go_loopw [29] (fun i W => ∃ k : Nat, k ≤ l.length ∧ i = .int .i64 k ∧ noTwo (l.take k) ∧ Below W1.heap.size W1 W) (fun i _ => l.length - (intOf i).toNat)
        case atStart => exact ⟨0, Nat.zero_le _, rfl, by simp, Below.refl _ _⟩
        case round =>
          obtain ⟨k, hk2, rfl, hnt, hb⟩ := hrel
          have hR1 := HR1.out.keep hb
          have hB1 : Below w.heap.size w wr := HB1.out.trans (hb.mono HB1.out.size)
          by_cases hlt : k < l.length
          · obtain ⟨b, off, rfl, hbl, hr⟩ := (HH.out.below hB1).at opC_len k hlt
            obtain ⟨g0, g1, g2, g3, g4, g5, g6⟩ := op_cells hr
            obtain ⟨s1, s2⟩ := Orangery.noTwo_take HOK.out k hlt hnt
            have H1 : Hid (hasM (l.take k) l[k].1 l[k].2.1 = false → noTwo (l.take (k + 1))) := s1
            have H2 : Hid (hasM (l.take k) l[k].1 l[k].2.1 = true → ¬ noTwo l) := s2
            have hHP := ((HH.out.below hB1).take k)
            have hkc : k ≤ c := by omega
            have hkc' : (k : Int) ≤ (c : Int) := by omega
            clear s1 s2 hnt hr
            generalize l[k] = o at *
            obtain ⟨o1, o2, ⟨o3, o4, o5⟩, o6, o7⟩ := o
            simp only at g0 g1 g2 g3 g4 g5 g6
            have HAS : Hid (∀ W, SlE opC W (some ⟨b, off, none⟩) (l.take k) → Calls Tryz.prog 77 #[.slice (some ⟨b, off, none⟩) k c, .agg #[.int .i64 o1, .int .i64 o2]] W fun e w' => e = .returned (.bool (hasM (l.take k) o1 o2)) ∧ Below W.heap.size W w') := by
              show ∀ W, _
              intro W hPW
              have := has_any W (some ⟨b, off, none⟩) c (l.take k) o1 o2 (by simp; unfold maxLen; omega) hPW
              rw [List.length_take_of_le (by omega)] at this
              exact this
            obtain ⟨W2, hW2, hN, hBn, _⟩ := laid1 wr [Value.int IntKind.i64 o1, Value.int IntKind.i64 o2, Value.int IntKind.i64 o3, Value.int IntKind.i64 o4, Value.int IntKind.i64 o5, Value.int IntKind.i64 o6, Value.int IntKind.i64 o7] 41
            have n0 := hN.at 0 rfl
            have n1 := hN.at 1 rfl
            have hwl : wr.heap.size < W2.heap.size := hN.lt
            have hR2 := hR1.keep hBn
            have HP2 : Hid (SlE opC W2 (some ⟨b, off, none⟩) (l.take k)) := hHP.below hBn
            have HB2 : Hid (Below W1.heap.size W1 W2) := hb.trans (hBn.mono hb.size)
            clear hR1 hB1 hb hBn hN hHP
            go_upto_region 13 with fail
            clear hW2 g0 g1 g2 g3 g4 g5 g6
            go_region_held3 (fun w' => w'.cell? ⟨wr.heap.size, 0, none⟩ = some (.int .i64 o1) ∧ w'.cell? ⟨wr.heap.size, 1, none⟩ = some (.int .i64 o2)) (go_keep)
              (first | (go_at_call 77; refine (HAS.out _ ?_).mono ?_; exact HP2.out.drew; rintro e w3 ⟨rfl, hb3⟩; have m0 := (hb3.cell (p := ⟨wr.heap.size, 0, none⟩) hwl).trans n0; have m1 := (hb3.cell (p := ⟨wr.heap.size, 1, none⟩) hwl).trans n1))
            have HB3 : Hid (Below W1.heap.size W1 w3) := HB2.out.trans ((((Below.refl _ W2).drew).trans hb3).mono HB2.out.size)
            have hR3 := hR2.keep (((Below.refl _ W2).drew).trans hb3)
            clear hR2 HB2 hb3 m0 m1 n0 n1 hwl HP2 HAS
            cases hq : hasM (l.take k) o1 o2
            · have HE : Hid (noTwo (l.take (k + 1))) := H1.out hq
              clear H1 H2
              go_wp2
              go_roundw
              case rel => exact ⟨k + 1, hlt, by go_num, HE.out, HB3.out⟩
              case measure => simp [intOf]; omega
            · have HE : Hid (¬ noTwo l) := H2.out hq
              clear H1 H2
              have r0 := hR3.at 0 rfl
              have r1 := hR3.at 1 rfl
              have rf := hR3.frz
              go_wp2
              have hRf := hR3.sets [Value.slice none 0 0, Value.slice none 0 0] rfl
              refine ret_cell_tmp Tryz.results60 rfl rfl (hRf.load Tryz.underlying28 rfl sizeHist) ?_
              have e0 : foldE l = 6 := Orangery.foldE_twice hlen HOK0.out HE.out
              rw [e0]
              have hzz := Orangery.fold_err (l := l) (by rw [e0]; decide)
              exact folds_err hzz.1 hzz.2 (below_sets (HB1.out.trans (HB3.out.mono HB1.out.size)) w.heap.size (Nat.le_refl _) [Value.slice none 0 0, Value.slice none 0 0] 0)
          · have hk' : k = l.length := by omega
            subst hk'
            rw [List.take_of_length_le (Nat.le_refl _)] at hnt
            have HNT : Hid (noTwo l) := hnt
            have HBW : Hid (Below w.heap.size w wr) := hB1
            have hP := HH.out.below hB1
            clear hnt hb hB1 HB1 HR1
            go_wp2_with fail
            refine (cloneOps_any wr a c l (by omega) hP).mono ?_
            rintro e w2 ⟨v2, rfl, hO2, hb2⟩
            have hR2 := hR1.keep hb2
            have HB2 : Hid (Below w.heap.size w w2) := HBW.out.trans (hb2.mono HBW.out.size)
            have hwr : w.heap.size + 1 ≤ wr.heap.size := hR1.lt
            have hsz2 := hb2.size
            clear hP hR1 HBW hb2
            go_wp2_with fail
            refine (sortOps_any w2 wr.heap.size v2 l (by omega) hsz2 hO2).mono ?_
            rintro e w3 ⟨rfl, l', hp', hs', hO3, hb3⟩
            have hR3 := hR2.below hb3 (by omega)
            have HB3 : Hid (Below w.heap.size w w3) := HB2.out.trans (hb3.mono (by omega))
            have HSR : Hid (srt l = l') := Orangery.srt_of_stamps HOK.out HNT.out hp' hs'
            have HOK' : Hid (∀ o ∈ l', checkOp o = 0) := fun o ho => HOK.out o (hp'.mem_iff.1 ho)
            have hlen' : l'.length ≤ 1000 := by rw [hp'.length_eq]; omega
            obtain ⟨a3, c3, rfl, hP3, _⟩ := hO3.val
            have hsz3 := hb3.size
            clear hO2 hO3 hR2 HB2 hp' hs' hb3
            go_wp2_with fail
            refine (play_any w3 a3 c3 l' hlen' hP3 HOK'.out).mono ?_
            rintro e w4 ⟨vL, vT, rfl, hL4, hT4, hb4⟩
            have hR4 := hR3.keep hb4
            have HB4 : Hid (Below w.heap.size w w4) := HB3.out.trans (hb4.mono HB3.out.size)
            have hL5 := hL4.mono (base' := w.heap.size + 1) (by omega)
            have hT5 := hT4.mono (base' := w.heap.size + 1) (by omega)
            obtain ⟨aT, cT, rfl⟩ := hT5.val
            obtain ⟨aL, cL, rfl, _, _⟩ := hL5.val
            have r0 := hR4.at 0 rfl
            have r1 := hR4.at 1 rfl
            have rf := hR4.frz
            clear hL4 hT4 hP3 hR3 HB3 hb4
            go_wp2
            have hRf := hR4.sets [Value.slice aL (Orangery.runS [] l').length cL, Value.slice aT (Orangery.runT [] l').length cT] rfl
            refine ret_cell_tmp Tryz.results60 rfl rfl (hRf.load Tryz.underlying28 rfl sizeHist) ?_
            have e0 : foldE l = 0 := Orangery.foldE_ok hlen HOK0.out HNT.out
            obtain ⟨f1, f2, _⟩ := Orangery.fold_ok e0
            rw [e0, f1, f2, HSR.out]
            have e1 := (OwnE.others w.heap.size (by omega) [Value.slice aL (Orangery.runS [] l').length cL, Value.slice aT (Orangery.runT [] l').length cT] 0 w4 hL5).mono (base' := w.heap.size) (by omega)
            have e2 := (OwnS.others w.heap.size (by omega) [Value.slice aL (Orangery.runS [] l').length cL, Value.slice aT (Orangery.runT [] l').length cT] 0 w4 hT5).mono (base' := w.heap.size) (by omega)
            exact ⟨_, _, rfl, e1, e2, below_sets HB4.out w.heap.size (Nat.le_refl _) [Value.slice aL (Orangery.runS [] l').length cL, Value.slice aT (Orangery.runT [] l').length cT] 0⟩
end Go.Proofs.YthlhnokgcnieeadGreatDoor

/- history.operations, orangeryref.OpsOf: the operations of a history. -/
namespace Go.Proofs.YthlhnokgcnieeadGreatDoor
open Go.ChangeShapes Go.WideShapes Go.ChangeAt Go.RowKit
open Orangery (Pl Mv Stp)

/-- cells set in a block, one behind the other -/
theorem setCells_block (g : Nat) (t : TypeId) : ∀ (vs : List Value) (o : Nat) (w : World) (cur : Array Value), w.heap[g]? = some (.cells cur t (0, 0)) → o + vs.length ≤ cur.size →
    ∃ cur', (w.setCells g o vs).heap[g]? = some (.cells cur' t (0, 0)) ∧ cur'.size = cur.size ∧ cur'.toList.take (o + vs.length) = cur.toList.take o ++ vs
  | [], o, w, cur, h, _ => ⟨cur, h, rfl, by simp⟩
  | v :: r, o, w, cur, h, hl => by
    have hs := heap_setCell_same w g o cur t v h
    have hlo : o < cur.size := by simp at hl; omega
    obtain ⟨cur', h1, h2, h3⟩ := setCells_block g t r (o + 1) (w.setCell ⟨g, o, none⟩ v) (cur.setIfInBounds o v) hs (by simp at hl ⊢; omega)
    refine ⟨cur', h1, by simpa using h2, ?_⟩
    have e : o + (v :: r).length = o + 1 + r.length := by simp; omega
    rw [e, h3, Array.toList_setIfInBounds]
    have e2 : (cur.toList.set o v).take (o + 1) = cur.toList.take o ++ [v] := by
      rw [List.take_succ_eq_append_getElem (by simpa using hlo), List.take_set_of_le (Nat.le_refl _)]
      simp
    rw [e2, List.append_assoc]
    rfl

theorem there_block {w : World} {g : Nat} {t : TypeId} {cur : Array Value} (h : w.heap[g]? = some (.cells cur t (0, 0))) (o n : Nat) (hl : o + n ≤ cur.size) : w.there g o n := by
  intro j hj
  refine ⟨?_, Go.Joins.unfrozen_of_block h _⟩
  rw [Go.Joins.cell_of_block h, Array.getElem?_eq_getElem (by omega)]
  rfl

theorem there_at {w : World} {g o n : Nat} (h : w.there g o n) (j : Nat) (hj : j < n) : ∃ u, w.cell? ⟨g, o + j, none⟩ = some u := Option.isSome_iff_exists.1 (h j hj).1

set_option maxHeartbeats 1000000 in
set_option maxRecDepth 100000 in
theorem hops_any (w : World) (a : Option Addr) (c : Nat) (l : List Stp) (y : Value) (hl : l.length * 88 ≤ 140737488351232) (h : SlE stC w a l) :
    Calls Tryz.prog 61 #[hiV (.slice a l.length c) y] w
      fun e w' => ∃ v, e = .returned v ∧ OwnE opC 7 41 w' w.heap.size v (l.map (·.1)) ∧ Below w.heap.size w w' := by
  obtain ⟨i0, hi, hz0, hz1, hz2⟩ := info_parts infoOp
  have hB := Go.Joins.below_alloc1 w (Obj.cells #[Value.slice a l.length c, y] 28)
  have HH : Hid (SlE stC w a l) := h
  clear h
  go_enter Tryz.func61, Tryz.ntmps61
  go_wp2_with (at_make; refine wpList_make_full _ rfl _ _ 129 rfl w.heap.size 41 i0 _ 7 Tryz.underlying129 hi hz0 hz1 .i64 .i64 _ _ l.length rfl rfl rfl rfl ?c1 ?c2 ?c3 ?_)
  case c1 => rw [hz2]; omega
  case c2 => unfold maxLen; omega
  case c3 => exact hB.size
  intro w1 hown hgrow
  have hb1 : Below w.heap.size w w1 := hB.trans (below_grown (v := .slice none 0 0) (World.ownsRow_nil _ _ 41 7) hB.size hgrow)
  have hbx := (Blk.new w [Value.slice a l.length c, y] 28).grown hgrow (by simp)
  obtain ⟨cur0, hcur0, hsz0⟩ : ∃ cur, w1.heap[w.heap.size + 1]? = some (.cells cur 41 (0, 0)) ∧ cur.size = l.length * 7 := by
    rcases hown.2 with ⟨h', _⟩ | ⟨g, cap, cur, h', _, hh, _, _, hs, _⟩
    · simp at h'
    · simp at h'
      obtain ⟨rfl, rfl⟩ := h'
      exact ⟨cur, hh, hs⟩
  have t0 := hbx.at 0 rfl
  clear hown hgrow hB hbx
  go_wp2
  go_loopw [13] (fun i W => ∃ (k : Nat) (cur : Array Value), k ≤ l.length ∧ i = .int .i64 k ∧ W.heap[w.heap.size + 1]? = some (.cells cur 41 (0, 0)) ∧ cur.size = l.length * 7 ∧ cur.toList.take (k * 7) = ((l.take k).map (·.1)).flatMap opC ∧ Below w.heap.size w W) (fun i _ => l.length - (intOf i).toNat)
  case atStart => exact ⟨0, cur0, Nat.zero_le _, rfl, hcur0, hsz0, by simp, hb1⟩
  case round =>
    clear hcur0 hsz0 hb1 t0
    obtain ⟨k, cur, hk, rfl, hcur, hsz, htk, hb⟩ := hrel
    have HTK : Hid (cur.toList.take (k * 7) = ((l.take k).map (·.1)).flatMap opC) := htk
    clear htk
    by_cases hlt : k < l.length
    · obtain ⟨b, off, rfl, hbl, hr⟩ := (HH.out.below hb).at stC_len k hlt
      obtain ⟨g0, g1, g2, g3, g4, g5, g6, g7, g8, g9, g10⟩ := st_cells hr
      have HT1 : Hid (l.take (k + 1) = l.take k ++ [l[k]]) := List.take_succ_eq_append_getElem hlt
      clear hr
      generalize l[k] = s at *
      obtain ⟨⟨o1, o2, ⟨o3, o4, o5⟩, o6, o7⟩, d, ⟨p1, p2, p3⟩⟩ := s
      simp only at g0 g1 g2 g3 g4 g5 g6 g7 g8 g9 g10
      have hgl : w.heap.size + 1 < wr.heap.size := blk_lt hcur
      obtain ⟨W2, hW, hN, hBn, _⟩ := laid1 wr [Value.int IntKind.i64 o1, Value.int IntKind.i64 o2, Value.int IntKind.i64 o3, Value.int IntKind.i64 o4, Value.int IntKind.i64 o5, Value.int IntKind.i64 o6, Value.int IntKind.i64 o7, Value.bool d, Value.int IntKind.i64 p1, Value.int IntKind.i64 p2, Value.int IntKind.i64 p3] 95
      have hcur2 : W2.heap[w.heap.size + 1]? = some (.cells cur 41 (0, 0)) := by rw [hBn.block _ hgl]; exact hcur
      have hle : k * 7 + (opC (o1, o2, (o3, o4, o5), o6, o7)).length ≤ cur.size := by rw [hsz, opC_len]; omega
      obtain ⟨cur', hc1, hc2, hc3⟩ := setCells_block (w.heap.size + 1) 41 (opC (o1, o2, (o3, o4, o5), o6, o7)) (k * 7) _ cur hcur2 hle
      have HTH : Hid (W2.there (w.heap.size + 1) (k * 7) 7) := there_block hcur2 _ _ (by simpa [opC] using hle)
      have HFZ : Hid (∀ j, W2.frozen? ⟨w.heap.size + 1, j, none⟩ = false) := fun j => Go.Joins.unfrozen_of_block hcur2 j
      have HB2 : Hid (Below w.heap.size w W2) := hb.trans (hBn.mono hb.size)
      have HC : Hid ((W2.setCells (w.heap.size + 1) (k * 7) (opC (o1, o2, (o3, o4, o5), o6, o7))).heap[w.heap.size + 1]? = some (.cells cur' 41 (0, 0)) ∧ cur'.size = cur.size ∧ cur'.toList.take (k * 7 + (opC (o1, o2, (o3, o4, o5), o6, o7)).length) = cur.toList.take (k * 7) ++ opC (o1, o2, (o3, o4, o5), o6, o7)) := ⟨hc1, hc2, hc3⟩
      have HSZ : Hid (cur.size = l.length * 7) := hsz
      clear hc1 hc2 hc3 hcur2 hcur hsz hle hBn hb
      go_upto_region 5 with fail
      clear hW g0 g1 g2 g3 g4 g5 g6 g7 g8 g9 g10
      have y0 := hN.at 0 rfl
      have y1 := hN.at 1 rfl
      have y2 := hN.at 2 rfl
      have y3 := hN.at 3 rfl
      have y4 := hN.at 4 rfl
      have y5 := hN.at 5 rfl
      have y6 := hN.at 6 rfl
      clear hN
      go_wp2_with (with_reducible refine at_store 41 ?_; refine wpList_store_mid ?c1 41 (Operand.tmp 22) (Operand.tmp 21) ?c2 (w.heap.size + 1) (k * 7) #[Value.int IntKind.i64 o1, Value.int IntKind.i64 o2, Value.int IntKind.i64 o3, Value.int IntKind.i64 o4, Value.int IntKind.i64 o5, Value.int IntKind.i64 o6, Value.int IntKind.i64 o7] ?c3 ?c4 ?c5 ?c6 ?c7 ?_)
      case c1 => rfl
      case c2 => rfl
      case c3 => rfl
      case c4 => rfl
      case c5 => exact HTH.out
      case c6 => exact sizeOp
      case c7 => exact all_oneCell_toArray (opC_one (o1, o2, (o3, o4, o5), o6, o7))
      go_roundw
      case rel =>
        obtain ⟨hc1, hc2, hc3⟩ := HC.out
        refine ⟨k + 1, cur', hlt, by go_num, hc1, hc2.trans HSZ.out, ?_, ?_⟩
        · rw [HT1.out, List.map_append, List.flatMap_append, ← HTK.out]
          have e : (k + 1) * 7 = k * 7 + (opC (o1, o2, (o3, o4, o5), o6, o7)).length := by rw [opC_len]; omega
          rw [e, hc3]
          simp
        · exact below_sets HB2.out (w.heap.size + 1) (by omega) (opC (o1, o2, (o3, o4, o5), o6, o7)) (k * 7)
      case measure => simp [intOf]; omega
    · have hk' : k = l.length := by omega
      subst hk'
      go_wp2
      go_ret
      refine ⟨_, rfl, ⟨flatE_len opC_len _, Or.inr ⟨w.heap.size + 1, l.length, cur, by simp, by omega, hcur, by simp, by unfold maxLen; omega, hsz, ?_⟩⟩, hb⟩
      have e := HTK.out
      rw [List.take_of_length_le (Nat.le_refl _)] at e
      simpa using e
end Go.Proofs.YthlhnokgcnieeadGreatDoor

/- history.Check. -/
namespace Go.Proofs.YthlhnokgcnieeadGreatDoor
open Go.ChangeShapes Go.WideShapes Go.ChangeAt Go.RowKit
open Orangery (Pl Mv Stp check checkOp foldE foldL foldT histE sameB)

theorem sameB_comm (l m : List Stp) (t u : List Pl) : sameB l m t u = sameB m l u t := by
  rw [Bool.eq_iff_iff, Orangery.sameB_iff, Orangery.sameB_iff]
  constructor <;> rintro ⟨rfl, rfl⟩ <;> exact ⟨rfl, rfl⟩
theorem histE_bad {l : List Stp} {t : List Pl} {m : List Mv} (hm : l.map (·.1) = m) (h : foldE m ≠ 0) : histE l t = foldE m := by subst hm; unfold histE; rw [if_pos h]
theorem histE_ok {l : List Stp} {t : List Pl} {m : List Mv} (hm : l.map (·.1) = m) (h : foldE m = 0) : histE l t = if sameB l (foldL m) t (foldT m) = true then 0 else 4 := by
  subst hm
  unfold histE
  rw [if_neg (by simp [h]), sameB_comm]

theorem foldL_len (m : List Mv) : (foldL m).length ≤ 30 := by
  by_cases h : foldE m = 0
  · rw [(Orangery.fold_ok h).2.2.2.1]; exact ((Orangery.foldE_zero m).1 h).1
  · rw [(Orangery.fold_err h).1]; simp
theorem foldT_len (m : List Mv) : (foldT m).length ≤ 15 := by
  by_cases h : foldE m = 0
  · exact Orangery.check_len _ (Orangery.fold_ok h).2.2.2.2
  · rw [(Orangery.fold_err h).2]; simp

set_option maxHeartbeats 2000000 in
set_option maxRecDepth 100000 in
theorem hcheck_any (w : World) (a p : Option Addr) (c d : Nat) (l : List Stp) (t : List Pl) (hl : l.length * 88 ≤ 140737488351232) (ht : t.length ≤ maxLen) (h1 : SlE stC w a l) (h3 : SlP w p t) :
    Calls Tryz.prog 36 #[hiV (.slice a l.length c) (.slice p t.length d)] w
      fun e w' => e = .returned (.int .i64 (histE l t)) ∧ Below w.heap.size w w' := by
  obtain ⟨W0, hW, hH, hB, hS⟩ := laid1 w [Value.slice a l.length c, Value.slice p t.length d] 28
  have hP := h1.below hB
  have hT := h3.below hB
  have x0 := hH.at 0 rfl
  have x1 := hH.at 1 rfl
  have HB : Hid (Below w.heap.size w W0) := hB
  have hlen : (l.map (·.1)).length ≤ maxLen := by simp; unfold maxLen; omega
  clear h1 h3 hB
  go_enter Tryz.func36, Tryz.ntmps36
  go_wp2_with fail
  refine (hops_any W0 a c l (.slice p t.length d) hl hP).mono ?_
  rintro e w1 ⟨v1, rfl, hO1, hb1⟩
  obtain ⟨a1, c1, rfl, hP1, hc1⟩ := hO1.val
  have hH1 := hH.keep hb1
  have hPa := hP.below hb1
  have hTa := hT.below hb1
  have HB1 : Hid (Below w.heap.size w w1) := HB.out.trans (hb1.mono HB.out.size)
  generalize hm : l.map (·.1) = m at *
  have HM : Hid (l.map (·.1) = m) := hm
  clear hm hO1 hb1 hH hP hT HB hS hW x0 x1
  go_wp2_with fail
  refine (fold_any w1 a1 c1 m hlen hc1 hP1).mono ?_
  rintro e w2 ⟨vL, vT, rfl, hL2, hT2, hb2⟩
  obtain ⟨aT, cT, rfl⟩ := hT2.val
  obtain ⟨aL, cL, rfl, hPL, _⟩ := hL2.val
  have hPT := hT2.read
  have hH2 := hH1.keep hb2
  have hPb := hPa.below hb2
  have hTb := hTa.below hb2
  have HB2 : Hid (Below w.heap.size w w2) := HB1.out.trans (hb2.mono HB1.out.size)
  have hLl := foldL_len m
  have hTl := foldT_len m
  clear hL2 hT2 hP1 hPa hTa HB1 hH1 hb2 hlen hc1
  by_cases hz : foldE m = 0
  · have HE : Hid (histE l t = if sameB l (foldL m) t (foldT m) = true then 0 else 4) := histE_ok HM.out hz
    rw [hz]
    clear hz HM
    generalize foldL m = L at *
    generalize foldT m = T at *
    obtain ⟨W3, hW3, hN, hBn, _⟩ := laid1 w2 [Value.slice aL L.length cL, Value.slice aT T.length cT] 28
    have hH3 := hH2.keep hBn
    have x0 := hH3.at 0 rfl
    have x1 := hH3.at 1 rfl
    have y0 := hN.at 0 rfl
    have y1 := hN.at 1 rfl
    have hl2 : l.length ≤ maxLen := by unfold maxLen; omega
    have HB3 : Hid (Below w.heap.size w W3) := HB2.out.trans (hBn.mono HB2.out.size)
    have hPL3 := hPL.below hBn
    have hPT3 := hPT.below hBn
    have hPb3 := hPb.below hBn
    have hTb3 := hTb.below hBn
    clear hH2 hH3 hN hBn hPL hPT hPb hTb HB2
    go_wp2_with fail
    refine (same_any W3 a aL p aT c cL d cT l L t T hl2 ht hPb3 hPL3 hTb3 hPT3).mono ?_
    rintro e w4 ⟨rfl, hb4⟩
    have HB4 : Hid (Below w.heap.size w w4) := HB3.out.trans (hb4.mono HB3.out.size)
    clear hb4 hPL3 hPT3 hPb3 hTb3 HB3 x0 x1 y0 y1
    cases hq : sameB l L t T
    · go_wp2
      go_ret
      exact ⟨ret_int (by rw [HE.out, hq]; rfl), HB4.out⟩
    · go_wp2
      go_ret
      exact ⟨ret_int (by rw [HE.out, hq]; rfl), HB4.out⟩
  · have hz' : (foldE m != 0) = true := by simpa using hz
    have HE : Hid (histE l t = foldE m) := histE_bad HM.out hz
    have HBx : Hid (Below w.heap.size w (w2.alloc (.cells #[Value.slice aL (foldL m).length cL, Value.slice aT (foldT m).length cT] 28))) := HB2.out.alloc HB2.out.size _
    clear hz HM
    generalize foldE m = E at *
    go_wp2
    go_ret
    exact ⟨ret_int (by rw [HE.out]), HBx.out⟩
end Go.Proofs.YthlhnokgcnieeadGreatDoor

/- hub.New, orangeryref.FreshHub; hub.clone. -/
namespace Go.Proofs.YthlhnokgcnieeadGreatDoor
open Go.ChangeShapes Go.WideShapes Go.ChangeAt Go.RowKit
open Orangery (Pl Mv Stp Rc Pr Hb peerE peersE rootsOk hubE histE newHb)

/-- what hub.clone leaves -/
def Cloned (w : World) (h : Hb) (e : Ending) (w' : World) : Prop :=
  ∃ g cap a c p d X, e = .returned (huV (.slice a h.1.1.length c) (.slice p h.1.2.length d) h.2.1 (.slice (some ⟨g, 0, none⟩) 3 cap)) ∧ w.heap.size ≤ g ∧ Row3 w' g X ∧ X.map (·.1) = h.2.2 ∧ SlE stC w' a h.1.1 ∧ SlP w' p h.1.2 ∧ OffL g a h.1.1 ∧ OffL g p h.1.2 ∧ (InL (w.heap.size ≤ ·) a h.1.1 ∧ InL (w.heap.size ≤ ·) p h.1.2 ∧ ∀ x ∈ X, InL (w.heap.size ≤ ·) x.2.1 x.1.2.2) ∧ Below w.heap.size w w'

theorem hub_few {h : Hb} (hok : hubE h = 0) : h.1.1.length ≤ 30 ∧ h.1.2.length ≤ 30 ∧ h.2.2.length = 3 ∧ ∀ p ∈ h.2.2, p.2.2.length ≤ 4 := by
  obtain ⟨h1, _, h3, h4⟩ := (Orangery.hubE_zero h).1 hok
  have h6 : Orangery.foldE (h.1.1.map (·.1)) = 0 := by
    unfold histE at h1
    split at h1
    · contradiction
    · rename_i h7
      simpa using h7
  rw [histE_ok rfl h6] at h1
  have h7 : Orangery.sameB h.1.1 (Orangery.foldL (h.1.1.map (·.1))) h.1.2 (Orangery.foldT (h.1.1.map (·.1))) = true := by
    split at h1
    · assumption
    · omega
  obtain ⟨e2, e3⟩ := (Orangery.sameB_iff _ _ _ _).1 h7
  have g2 := foldL_len (h.1.1.map (·.1))
  have g3 := foldT_len (h.1.1.map (·.1))
  refine ⟨by rw [e2]; exact g2, by rw [e3]; omega, h3, ?_⟩
  · intro p hp
    have h5 := h4 p hp
    refine Orangery.rootsOk_len ?_
    unfold peerE at h5
    split at h5
    · omega
    · split at h5
      · omega
      · exact h5
theorem map_set_same {X : List Pm} {P : List Pr} (h : X.map (·.1) = P) (k : Nat) (hk : k < X.length) (x : Pm) (hx : x.1 = X[k].1) : (X.set k x).map (·.1) = P := by
  rw [List.map_set, h, hx]
  subst h
  apply List.ext_getElem?
  intro j
  rw [List.getElem?_set]
  by_cases hj : k = j
  · subst hj; simp [hk]
  · simp [hj]

set_option maxHeartbeats 2000000 in
set_option maxRecDepth 100000 in
theorem uclone_any (w : World) (v : Value) (h : Hb) (hok : hubE h = 0) (hh : HuIs w v h) : Calls Tryz.prog 22 #[v] w (Cloned w h) := by
  obtain ⟨a, c, p, d, q, gc, X, rfl, hX⟩ := hh
  obtain ⟨f1, f2, f3, f4⟩ := hub_few hok
  have hl3 : X.length = 3 := by rw [← hX.are] at f3; simpa using f3
  have HF4 : Hid (∀ p ∈ h.2.2, p.2.2.length ≤ 4) := f4
  rw [hl3]
  have HL3 := Lib.hid hl3
  have HX := Lib.hid hX
  have HGOAL : Hid (∀ e w', (∃ g cap a c p d X, e = .returned (huV (.slice a h.1.1.length c) (.slice p h.1.2.length d) h.2.1 (.slice (some ⟨g, 0, none⟩) 3 cap)) ∧ w.heap.size ≤ g ∧ Row3 w' g X ∧ X.map (·.1) = h.2.2 ∧ SlE stC w' a h.1.1 ∧ SlP w' p h.1.2 ∧ OffL g a h.1.1 ∧ OffL g p h.1.2 ∧ (InL (w.heap.size ≤ ·) a h.1.1 ∧ InL (w.heap.size ≤ ·) p h.1.2 ∧ ∀ x ∈ X, InL (w.heap.size ≤ ·) x.2.1 x.1.2.2) ∧ Below w.heap.size w w') → Cloned w h e w') := fun e w' h => h
  clear hX f3 f4 hok hl3
  obtain ⟨⟨L, T⟩, n, P⟩ := h
  simp only at f1 f2
  go_enter Tryz.func22, Tryz.ntmps22
  go_wp2_with fail
  obtain ⟨W0, hW, hA, hC, hB, hZ⟩ := laid2 w [Value.slice a L.length c, .slice p T.length d, .int .i64 n, .slice q 3 gc] 31 [Value.slice none 0 0, .slice none 0 0, .int .i64 0, .slice none 0 0] 31
  rw [hW]
  clear hW
  refine (cloneSteps_any W0 a c L (by omega) (HX.out.keep hB).steps).mono ?_
  rintro e w1 ⟨vL, rfl, hL, hb⟩
  obtain ⟨aL, cL, rfl, hLr, -⟩ := hL.val
  have hA1 := (hA.keep hb).set 0 (by simp) (.slice aL L.length cL)
  have hC1 := (hC.keep hb).other (by omega : w.heap.size + 1 ≠ w.heap.size) 0 (.slice aL L.length cL)
  have HOL : Hid (OffL w.heap.size aL L) := row_off hL.row hA.lt
  have HIL : Hid (InL (w.heap.size ≤ ·) aL L) := (row_in hL.row).imp (fun b hb => by have := hB.size; omega)
  have HOL1 : Hid (OffL (w.heap.size + 1) aL L) := row_off hL.row hC.lt
  have hL1 : SlE stC (w1.setCell ⟨w.heap.size, 0, none⟩ (.slice aL L.length cL)) aL L := hLr.sets HOL.out [_] 0
  have HB1 : Hid (Below w.heap.size w (w1.setCell ⟨w.heap.size, 0, none⟩ (.slice aL L.length cL))) := below_sets (hB.trans (hb.mono hB.size)) w.heap.size (Nat.le_refl _) [_] 0
  have fz1 := (hA.keep hb).frz
  have k1 := (hA.keep hb).at 0 rfl
  have k2 := (hA.keep hb).at 1 rfl
  clear hA hC hL hLr hb hB hZ
  go_wp2_with fail
  clear fz1 k1 k2
  generalize w1.setCell ⟨w.heap.size, 0, none⟩ (.slice aL L.length cL) = W2 at *
  simp only [List.set_cons_zero] at hA1
  refine (clone_any W2 p d T (by omega) (HX.out.keep HB1.out).places).mono ?_
  rintro e w3 ⟨vT, rfl, hT, hb⟩
  obtain ⟨aT, cT, rfl⟩ := hT.val
  have hA2 := (hA1.keep hb).set 1 (by simp) (.slice aT T.length cT)
  have hC2 := (hC1.keep hb).other (by omega : w.heap.size + 1 ≠ w.heap.size) 1 (.slice aT T.length cT)
  have hL2 : SlE stC (w3.setCell ⟨w.heap.size, 1, none⟩ (.slice aT T.length cT)) aL L := (hL1.below hb).sets HOL.out [_] 1
  have HOT : Hid (OffL w.heap.size aT T) := row_off hT.row hA1.lt
  have HIT : Hid (InL (w.heap.size ≤ ·) aT T) := (row_in hT.row).imp (fun b hb => by have := HB1.out.size; omega)
  have HOT1 : Hid (OffL (w.heap.size + 1) aT T) := row_off hT.row hC1.lt
  have hT2 : SlP (w3.setCell ⟨w.heap.size, 1, none⟩ (.slice aT T.length cT)) aT T := hT.read.sets HOT.out [_] 1
  have HB2 : Hid (Below w.heap.size w (w3.setCell ⟨w.heap.size, 1, none⟩ (.slice aT T.length cT))) := below_sets (HB1.out.trans (hb.mono HB1.out.size)) w.heap.size (Nat.le_refl _) [_] 1
  have fz1 := (hA1.keep hb).frz
  have k1 := (hA1.keep hb).at 1 rfl
  have k2 := (hA1.keep hb).at 3 rfl
  clear hA1 hC1 hL1 hT hb HB1
  go_wp2_with fail
  clear fz1 k1 k2
  generalize w3.setCell ⟨w.heap.size, 1, none⟩ (.slice aT T.length cT) = W4 at *
  simp only [List.set_cons_zero, List.set_cons_succ] at hA2
  refine (clonePeers3_any W4 q gc X HL3.out (HX.out.keep HB2.out).peers.reads).mono ?_
  rintro e w5 ⟨g, cap, rfl, hG, hg, hb⟩
  have hlt : w.heap.size + 1 < W4.heap.size := hC2.lt
  have hA3 := (hA2.keep hb).set 3 (by simp) (.slice (some ⟨g, 0, none⟩) 3 cap)
  have hC3 := (hC2.keep hb).other (by omega : w.heap.size + 1 ≠ w.heap.size) 3 (.slice (some ⟨g, 0, none⟩) 3 cap)
  have hL3 : SlE stC (w5.setCell ⟨w.heap.size, 3, none⟩ (.slice (some ⟨g, 0, none⟩) 3 cap)) aL L := (hL2.below hb).sets HOL.out [_] 3
  have HOLg : Hid (OffL g aL L) := hL2.off hg
  have HOTg : Hid (OffL g aT T) := hT2.off hg
  have hT3 : SlP (w5.setCell ⟨w.heap.size, 3, none⟩ (.slice (some ⟨g, 0, none⟩) 3 cap)) aT T := (hT2.below hb).sets HOT.out [_] 3
  have HB3 : Hid (Below w.heap.size w (w5.setCell ⟨w.heap.size, 3, none⟩ (.slice (some ⟨g, 0, none⟩) 3 cap))) := below_sets (HB2.out.trans (hb.mono HB2.out.size)) w.heap.size (Nat.le_refl _) [_] 3
  have hg1 : w.heap.size + 1 < g := by omega
  have hR3 : Row3 (w5.setCell ⟨w.heap.size, 3, none⟩ (.slice (some ⟨g, 0, none⟩) 3 cap)) g X := by
    refine ⟨hG.other (by omega) 3 _, HL3.out, fun x hx => ?_, fun x hx => ?_⟩
    · exact (HX.out.peers.roots x hx).keep HB3.out
    · exact (HX.out.peers.roots x hx).1.off (by have := HB2.out.size; omega)
  have fz1 := (hA2.keep hb).frz
  have k1 := (hA2.keep hb).at 3 rfl
  have HM := Lib.hid HX.out.are
  have HOR : Hid (∀ x ∈ X, OffL (w.heap.size + 1) x.2.1 x.1.2.2) := fun x hx => (HX.out.peers.roots x hx).1.off (by omega)
  have HGS := Lib.hid hg
  clear hA2 hC2 hL2 hT2 hb HB2 hG hg hlt HX
  go_wp2_with fail
  clear fz1 k1
  generalize w5.setCell ⟨w.heap.size, 3, none⟩ (.slice (some ⟨g, 0, none⟩) 3 cap) = W6 at *
  simp only [List.set_cons_zero, List.set_cons_succ] at hA3
  go_loopw [26] (fun i W => ∃ (k : Nat) (Y : List Pm), k ≤ 3 ∧ i = .int .i64 k ∧ Row3 W g Y ∧ Y.map (·.1) = P ∧ Blk W w.heap.size [.slice aL L.length cL, .slice aT T.length cT, .int .i64 n, .slice (some ⟨g, 0, none⟩) 3 cap] ∧ Blk W (w.heap.size + 1) [.slice none 0 0, .slice none 0 0, .int .i64 0, .slice none 0 0] ∧ SlE stC W aL L ∧ SlP W aT T ∧ (∀ x ∈ Y, OffL (w.heap.size + 1) x.2.1 x.1.2.2) ∧ (∀ j, (hj : j < Y.length) → j < k → InL (w.heap.size ≤ ·) Y[j].2.1 Y[j].1.2.2) ∧ Below w.heap.size w W) (fun i _ => 3 - (intOf i).toNat)
  case atStart => exact ⟨0, X, by omega, rfl, hR3, HM.out, hA3, hC3, hL3, hT3, HOR.out, fun j _ hj => absurd hj (Nat.not_lt_zero _), HB3.out⟩
  case round =>
    obtain ⟨k, Y, hk, rfl, hR, hM, hA, hC, hLr, hTr, hor, hin, hb⟩ := hrel
    have HORY := Lib.hid hor
    have HINY := Lib.hid hin
    clear hor hin
    have HBr := Lib.hid hb
    have HMY := Lib.hid hM
    clear hR3 hA3 hC3 hL3 hT3 HB3 hb hM HM
    by_cases hlt : k < 3
    case neg =>
      have hk3 : k = 3 := by omega
      have hkk : ((k : Int) < 3) = False := by simp; omega
      have x0 := hA.at 0 rfl
      have x1 := hA.at 1 rfl
      have x2 := hA.at 2 rfl
      have x3 := hA.at 3 rfl
      have rf := hC.frz
      have r0 := hC.at 0 rfl
      have r1 := hC.at 1 rfl
      have r2 := hC.at 2 rfl
      have r3 := hC.at 3 rfl
      go_wp2
      have hRf := hC.sets [Value.slice aL L.length cL, .slice aT T.length cT, .int .i64 n, .slice (some ⟨g, 0, none⟩) 3 cap] rfl
      refine ret_cell Tryz.results22 rfl (hRf.load Tryz.underlying31 rfl sizeHub) ?_
      refine HGOAL.out _ _ ⟨g, cap, aL, cL, aT, cT, Y, rfl, by omega, ?_, HMY.out, ?_, ?_, HOLg.out, HOTg.out, ⟨HIL.out, HIT.out, fun x hx => by obtain ⟨j, hj, rfl⟩ := List.getElem_of_mem hx; exact HINY.out j hj (by have := hR.len; omega)⟩, below_sets HBr.out (w.heap.size + 1) (by omega) [Value.slice aL L.length cL, .slice aT T.length cT, .int .i64 n, .slice (some ⟨g, 0, none⟩) 3 cap] 0⟩
      · exact hR.other (by omega) HORY.out [Value.slice aL L.length cL, .slice aT T.length cT, .int .i64 n, .slice (some ⟨g, 0, none⟩) 3 cap] 0
      · exact hLr.sets HOL1.out [Value.slice aL L.length cL, .slice aT T.length cT, .int .i64 n, .slice (some ⟨g, 0, none⟩) 3 cap] 0
      · exact hTr.sets HOT1.out [Value.slice aL L.length cL, .slice aT T.length cT, .int .i64 n, .slice (some ⟨g, 0, none⟩) 3 cap] 0
    have hkl : k < Y.length := by rw [hR.len]; exact hlt
    have HF : Hid (Y[k].1.2.2.length ≤ 4) := HF4.out _ (by rw [← HMY.out]; exact List.mem_map_of_mem (List.getElem_mem hkl))
    have HPI := Lib.hid (hR.roots _ (List.getElem_mem hkl))
    have HMS : Hid (∀ R a c, R = Y[k].1.2.2 → (Y.set k ((Y[k].1.1, Y[k].1.2.1, R), a, c)).map (·.1) = P) := by
      intro R a c e
      subst e
      exact map_set_same HMY.out k hkl _ rfl
    have HSR : Hid (∀ (W : World) (R : List Int) (a : Option Addr) (c : Nat), Row3 W g Y → SlI W a R → R.length ≤ maxLen → OffL g a R → Row3 (W.setCell ⟨g, k * 3 + 2, none⟩ (.slice a R.length c)) g (Y.set k ((Y[k].1.1, Y[k].1.2.1, R), a, c))) := fun W R a c h1 h2 h3 h4 => h1.setRoots k hkl R a c h2 h3 h4
    have HIN2 : Hid (∀ y : Pm, InL (w.heap.size ≤ ·) y.2.1 y.1.2.2 → ∀ j, (hj : j < (Y.set k y).length) → j < k + 1 → InL (w.heap.size ≤ ·) (Y.set k y)[j].2.1 (Y.set k y)[j].1.2.2) := by
      intro y hy j hj hjk
      rw [List.getElem_set]
      by_cases hjk' : k = j
      · rw [if_pos hjk']; exact hy
      · rw [if_neg hjk']; exact HINY.out j (by simpa using hj) (by omega)
    obtain ⟨g0, g1, g2⟩ := hR.cells k hkl
    generalize Y[k] = y at *
    obtain ⟨⟨f, u, R⟩, ar, cr⟩ := y
    simp only at g0 g1 g2
    have hlti : (k : Int) < 3 := by omega
    have x3 := hA.at 3 rfl
    obtain ⟨W7, hW7, hN, hBn, -⟩ := laid1 wr [Value.int .i64 f, .int .i64 u, .slice ar R.length cr] 66
    have hbn : g < wr.heap.size := hR.blk.lt
    go_upto_region 7 with fail
    clear hW7 g0 g1 g2 x3
    have z3 := (hA.keep hBn).at 3 rfl
    have z2 := hN.at 2 rfl
    refine wp_region_held_drew (S := fun w' => w'.cell? ⟨w.heap.size, 3, none⟩ = some (.slice (some ⟨g, 0, none⟩) 3 cap) ∧ w'.cell? ⟨wr.heap.size, 2, none⟩ = some (.slice ar R.length cr)) (by kernel_rfl) ⟨z3, z2⟩ (fun hHeld => ?_)
    refine take_yes 0 31 (v := ?_) rfl rfl (by kernel_rfl) (by kernel_rfl) (by kernel_rfl) (fun _ _ _ h => h) (by rfl) ?_ hHeld ?_
    rotate_left 1
    · (intro w hSw; obtain ⟨q1, q2⟩ := hSw; go_simp; try with_reducible rfl)
    simp only [Act.put, List.setIfInBounds_toArray, List.set_cons_succ, List.set_cons_zero]
    refine take_yes 1 32 (v := ?_) rfl rfl (by kernel_rfl) (by kernel_rfl) (by kernel_rfl) (fun _ _ _ h => h) (by rfl) ?_ hHeld ?_
    rotate_left 1
    · (intro w hSw; obtain ⟨q1, q2⟩ := hSw; go_simp; try with_reducible rfl)
    simp only [Act.put, List.setIfInBounds_toArray, List.set_cons_succ, List.set_cons_zero]
    refine take_yes 2 33 (v := ?_) rfl rfl (by kernel_rfl) (by kernel_rfl) (by kernel_rfl) (fun _ _ _ h => h) (by rfl) ?_ hHeld ?_
    rotate_left 1
    · (intro w hSw; obtain ⟨q1, q2⟩ := hSw; go_simp; try with_reducible rfl)
    simp only [Act.put, List.setIfInBounds_toArray, List.set_cons_succ, List.set_cons_zero]
    refine take_yes 3 34 (v := ?_) rfl rfl (by kernel_rfl) (by kernel_rfl) (by kernel_rfl) (fun _ _ _ h => h) (by rfl) ?_ hHeld ?_
    rotate_left 1
    · (intro w hSw; obtain ⟨q1, q2⟩ := hSw; go_simp; try with_reducible rfl)
    simp only [Act.put, List.setIfInBounds_toArray, List.set_cons_succ, List.set_cons_zero]
    refine take_yes 4 35 (v := ?_) rfl rfl (by kernel_rfl) (by kernel_rfl) (by kernel_rfl) (fun _ _ _ h => h) (by rfl) ?_ hHeld ?_
    rotate_left 1
    · (intro w hSw; obtain ⟨q1, q2⟩ := hSw; go_simp; try with_reducible rfl)
    simp only [Act.put, List.setIfInBounds_toArray, List.set_cons_succ, List.set_cons_zero]
    refine wpAnyH_ready (rs := [5]) (by kernel_rfl) (by simp) ?_
    refine AllReadyH.cons rfl (fun KK hKK => ?_) AllReadyH.nil
    go_simp
    refine (cloneInts_any W7.drew ar cr R (by have := HF.out; simp only at this; omega) (HPI.out.keep hBn).1).mono ?_
    rintro e w8 ⟨vR, rfl, hOR, hb8⟩
    obtain ⟨aR, cR, rfl, hIR⟩ := hOR.val
    have hb9 : Below wr.heap.size wr w8 := hBn.drew.trans (hb8.mono hBn.size)
    have hR8 := hR.keep hb9
    have hA8 := hA.keep hb9
    have hN8 := hN.drew.keep hb8
    refine hKK.out _ _ (⟨hA8.at 3 rfl, hN8.at 2 rfl⟩) (fun hHeld => ?_)
    clear hKK KK
    refine take_yes 6 37 (v := ?_) rfl rfl (by kernel_rfl) (by kernel_rfl) (by kernel_rfl) (fun _ _ _ h => h) (by rfl) ?_ hHeld ?_
    rotate_left 1
    · (intro w hSw; obtain ⟨q1, q2⟩ := hSw; go_simp; try with_reducible rfl)
    simp only [Act.put, List.setIfInBounds_toArray, List.set_cons_succ, List.set_cons_zero]
    refine take_yes 7 38 (v := ?_) rfl rfl (by kernel_rfl) (by kernel_rfl) (by kernel_rfl) (fun _ _ _ h => h) (by rfl) ?_ hHeld ?_
    rotate_left 1
    · (intro w hSw; obtain ⟨q1, q2⟩ := hSw; go_simp; try with_reducible rfl)
    simp only [Act.put, List.setIfInBounds_toArray, List.set_cons_succ, List.set_cons_zero]
    have hgs : g < W7.drew.heap.size := by have := hBn.size; exact Nat.lt_of_lt_of_le hbn this
    have HOG : Hid (OffL g aR R) := row_off hOR hgs
    have HOG1 : Hid (OffL (w.heap.size + 1) aR R) := row_off hOR (by omega)
    have HIN3 := Lib.hid (HIN2.out ((f, u, R), aR, cR) ((row_in hOR).imp (fun b hb => by omega)))
    have fz8 := hR8.blk.frz (k * 3 + 2)
    obtain ⟨-, -, g8⟩ := hR8.cells k hkl
    have hRS := HSR.out w8 R aR cR hR8 hIR (by have := HF.out; simp only at this; unfold maxLen; omega) HOG.out
    have hAS := hA8.other (by omega : w.heap.size ≠ g) (k * 3 + 2) (.slice aR R.length cR)
    have hNS := hN8.other (by omega : wr.heap.size ≠ g) (k * 3 + 2) (.slice aR R.length cR)
    have hCS := (hC.keep hb9).other (by omega : w.heap.size + 1 ≠ g) (k * 3 + 2) (.slice aR R.length cR)
    have hLS : SlE stC (w8.setCell ⟨g, k * 3 + 2, none⟩ (.slice aR R.length cR)) aL L := (hLr.below hb9).sets HOLg.out [_] _
    have hTS : SlP (w8.setCell ⟨g, k * 3 + 2, none⟩ (.slice aR R.length cR)) aT T := (hTr.below hb9).sets HOTg.out [_] _
    have HBS : Hid (Below w.heap.size w (w8.setCell ⟨g, k * 3 + 2, none⟩ (.slice aR R.length cR))) := below_sets (HBr.out.trans (hb9.mono HBr.out.size)) g (by omega) [_] _
    have HOS : Hid (∀ x ∈ Y.set k ((f, u, R), aR, cR), OffL (w.heap.size + 1) x.2.1 x.1.2.2) := by
      intro x hx
      rcases List.mem_or_eq_of_mem_set hx with hx | rfl
      · exact HORY.out x hx
      · exact HOG1.out
    clear hA hC hLr hTr hR hOR hIR hb8 hb9 hA8 hN8 hR8 hN hBn
    refine wpAnyH_ready (rs := [8]) (by kernel_rfl) (by simp) ?_
    refine AllReadyH.cons rfl (fun KK hKK => ?_) AllReadyH.nil
    go_simp
    refine hKK.out _ _ (⟨hAS.at 3 rfl, hNS.at 2 rfl⟩) (fun hHeld => ?_)
    clear hKK KK
    refine wpAnyH_done (by kernel_rfl) ?_ _
    clear hHeld hNS fz8 g8 z3 z2
    generalize w8.setCell ⟨g, k * 3 + 2, none⟩ (.slice aR R.length cR) = W9 at *
    go_wp2
    go_roundw
    case rel => exact ⟨k + 1, _, by omega, by go_num, hRS, HMS.out R aR cR rfl, hAS, hCS, hLS, hTS, HOS.out, HIN3.out, HBS.out⟩
    case measure => simp [intOf]; omega
end Go.Proofs.YthlhnokgcnieeadGreatDoor

/- A hub that is worked into, and what accepts a life and roots. -/
namespace Go.Proofs.YthlhnokgcnieeadGreatDoor
open Go.ChangeShapes Go.WideShapes Go.ChangeAt Go.RowKit
open Orangery (Pl Mv Stp Rc Pr Hb peerE peersE rootsOk hubE histE newHb prOf stepE stepH)

/-- a hub in a box, its peers in a row beside it -/
structure BoxAt (B : Nat) (W : World) (nb g cap : Nat) (a : Option Addr) (c : Nat) (p : Option Addr) (d : Nat) (X : List Pm) (h : Hb) : Prop where
  blk : Blk W nb [.slice a h.1.1.length c, .slice p h.1.2.length d, .int .i64 h.2.1, .slice (some ⟨g, 0, none⟩) 3 cap]
  row : Row3 W g X
  are : X.map (·.1) = h.2.2
  steps : SlE stC W a h.1.1
  places : SlP W p h.1.2
  off1 : OffL g a h.1.1
  off2 : OffL nb a h.1.1
  off3 : OffL g p h.1.2
  off4 : OffL nb p h.1.2
  off5 : ∀ x ∈ X, OffL nb x.2.1 x.1.2.2
  ne : nb ≠ g
  new1 : InL (B ≤ ·) a h.1.1
  new2 : InL (B ≤ ·) p h.1.2
  new3 : ∀ x ∈ X, InL (B ≤ ·) x.2.1 x.1.2.2
def Box (B : Nat) (W : World) (nb g cap : Nat) (h : Hb) : Prop := ∃ a c p d X, BoxAt B W nb g cap a c p d X h
theorem BoxAt.keep {B : Nat} {W W' : World} {nb g cap : Nat} {a p : Option Addr} {c d : Nat} {X : List Pm} {h : Hb} (hx : BoxAt B W nb g cap a c p d X h) (hb : Below W.heap.size W W') : BoxAt B W' nb g cap a c p d X h :=
  ⟨hx.blk.keep hb, hx.row.keep hb, hx.are, hx.steps.below hb, hx.places.below hb, hx.off1, hx.off2, hx.off3, hx.off4, hx.off5, hx.ne, hx.new1, hx.new2, hx.new3⟩
/-- the row is written -/
theorem BoxAt.peers {B : Nat} {W : World} {nb g cap : Nat} {a p : Option Addr} {c d : Nat} {X Y : List Pm} {h : Hb} (hx : BoxAt B W nb g cap a c p d X h) (us : List Value) (o : Nat) (hR : Row3 (W.setCells g o us) g Y) (ho : ∀ x ∈ Y, OffL nb x.2.1 x.1.2.2) (hn : ∀ x ∈ Y, InL (B ≤ ·) x.2.1 x.1.2.2) (P : List Pr) (hP : Y.map (·.1) = P) :
    BoxAt B (W.setCells g o us) nb g cap a c p d Y (h.1, h.2.1, P) :=
  ⟨hx.blk.others hx.ne us o, hR, hP, hx.steps.sets hx.off1 us o, hx.places.sets hx.off3 us o, hx.off1, hx.off2, hx.off3, hx.off4, ho, hx.ne, hx.new1, hx.new2, hn⟩
theorem BoxAt.load {B : Nat} {W : World} {nb g cap : Nat} {a p : Option Addr} {c d : Nat} {X : List Pm} {h : Hb} (hx : BoxAt B W nb g cap a c p d X h) (few : h.1.1.length ≤ 1000) (few2 : h.1.2.length ≤ 1000) :
    HuIs W (huV (.slice a h.1.1.length c) (.slice p h.1.2.length d) h.2.1 (.slice (some ⟨g, 0, none⟩) 3 cap)) h := by
  refine ⟨a, c, p, d, some ⟨g, 0, none⟩, cap, X, by rw [hx.row.len], ⟨hx.steps, hx.places, hx.row.reads, hx.are, by omega, by unfold maxLen; omega, by rw [hx.row.len]; unfold maxLen; omega⟩⟩
theorem prOf_at {h : Hb} {X : List Pm} (e : X.map (·.1) = h.2.2) (k : Nat) (hk : k < X.length) : X[k].1 = prOf h (k : Int) := by
  unfold prOf
  rw [← e]
  simp [List.getD_eq_getElem?_getD, hk]
theorem map_set_peer {h : Hb} {X : List Pm} (e : X.map (·.1) = h.2.2) (k : Nat) (x : Pm) : (X.set k x).map (·.1) = h.2.2.set k x.1 := by rw [List.map_set, e]

/-- what the accept functions leave -/
def Took (W : World) (B nb g cap : Nat) (h : Hb) (E : Int) (e : Ending) (w' : World) : Prop := e = .returned (.int .i64 E) ∧ Below B W w' ∧ (E = 0 → Box B w' nb g cap h)

set_option maxHeartbeats 1000000 in
theorem ulife_any (W : World) (B nb g cap : Nat) (a p : Option Addr) (c d : Nat) (X : List Pm) (h : Hb) (k : Nat) (f : Int) (hx : BoxAt B W nb g cap a c p d X h) (hk : k < 3) (h1 : 0 ≤ (prOf h k).1) (h2 : (prOf h k).1 ≤ 50) (hB : B ≤ g) (E : Int) (hE : E = if (prOf h k).1 + 1 ≠ f then 7 else 0) :
    Calls Tryz.prog 46 #[.pointer (some ⟨g, k * 3, none⟩), .int .i64 f] W (fun e w' => Took W B nb g cap (h.1, h.2.1, h.2.2.set k (f, 0, [])) E e w' ∧ ∀ b, b < W.heap.size → b ≠ g → w'.heap[b]? = W.heap[b]?) := by
  have hkl : k < X.length := by rw [hx.row.len]; exact hk
  have HNEW : Hid (BoxAt B (W.setCells g (k * 3) (prC ((f, 0, []), none, 0))) nb g cap a c p d (X.set k ((f, 0, []), none, 0)) (h.1, h.2.1, h.2.2.set k (f, 0, []))) := by
    refine hx.peers _ _ (hx.row.set k hk ((f, 0, []), none, 0) (PIn.nil _ _ _ _) (Or.inl rfl)) ?_ ?_ _ (map_set_peer hx.are k _)
    · intro x hm
      rcases List.mem_or_eq_of_mem_set hm with hm | rfl
      · exact hx.off5 x hm
      · exact Or.inl rfl
    · intro x hm
      rcases List.mem_or_eq_of_mem_set hm with hm | rfl
      · exact hx.new3 x hm
      · exact Or.inl rfl
  obtain ⟨g0, g1, g2⟩ := hx.row.cells k hkl
  have fz := hx.row.blk.frz
  rw [prOf_at hx.are k hkl] at g0 g1
  have HB : Hid (Below B W (W.setCells g (k * 3) (prC ((f, 0, []), none, 0)))) := below_sets (Below.refl _ _) g hB _ _
  generalize X[k] = y at *
  clear hx hB
  generalize (prOf h k) = pr at *
  obtain ⟨p1, p2, p3⟩ := pr
  simp only at h1 h2 g0 g1 g2
  by_cases hf : p1 + 1 = f
  · have HE : Hid (E = 0) := by rw [hE]; exact if_neg (by simp [hf])
    have d1 : (f != p1 + 1) = false := by simp [hf]
    clear hf hE
    go_enter Tryz.func46, Tryz.ntmps46
    go_wp2
    go_ret
    exact ⟨⟨ret_int HE.out.symm, HB.out, fun _ => ⟨a, c, p, d, _, HNEW.out⟩⟩, fun b _ hne => sets_heap b g hne (prC ((f, 0, []), none, 0)) (k * 3) W⟩
  · have HE : Hid (E = 7) := by rw [hE]; exact if_pos hf
    have d1 : (f != p1 + 1) = true := by simp; omega
    clear hf hE
    go_enter Tryz.func46, Tryz.ntmps46
    go_wp2
    go_ret
    exact ⟨⟨ret_int HE.out.symm, Below.refl _ _, fun e => by rw [HE.out] at e; simp at e⟩, fun b _ _ => rfl⟩

set_option maxHeartbeats 1000000 in
theorem uroots_any (W : World) (B nb g cap : Nat) (a p : Option Addr) (c d : Nat) (X : List Pm) (h : Hb) (k : Nat) (ar : Option Addr) (cr : Nat) (R : List Int) (hx : BoxAt B W nb g cap a c p d X h) (hk : k < 3) (h1 : 0 ≤ (prOf h k).1) (hB : B ≤ g) (hl : R.length ≤ 1000) (hr : SlI W ar R) (E : Int) (hE : E = if (prOf h k).1 < 1 then 5 else 0) :
    Calls Tryz.prog 47 #[.pointer (some ⟨g, k * 3, none⟩), .slice ar R.length cr] W (fun e w' => Took W B nb g cap (h.1, h.2.1, h.2.2.set k ((prOf h k).1, (prOf h k).2.1, R)) E e w' ∧ ∀ b, b < W.heap.size → b ≠ g → w'.heap[b]? = W.heap[b]?) := by
  have hkl : k < X.length := by rw [hx.row.len]; exact hk
  have HX := Lib.hid hx
  obtain ⟨g0, g1, g2⟩ := hx.row.cells k hkl
  have fz := hx.row.blk.frz
  have HP := Lib.hid (prOf_at hx.are k hkl)
  rw [prOf_at hx.are k hkl] at g0 g1
  have hgl : g < W.heap.size := hx.row.blk.lt
  have hnl : nb < W.heap.size := hx.blk.lt
  clear hx
  by_cases hf : (prOf h k).1 = 0
  · have HE : Hid (E = 5) := by rw [hE]; exact if_pos (by omega)
    have d1 : ((prOf h k).1 == 0) = true := by simp [hf]
    clear hf hE
    go_enter Tryz.func47, Tryz.ntmps47
    go_wp2
    go_ret
    exact ⟨⟨ret_int HE.out.symm, Below.refl _ _, fun e => by rw [HE.out] at e; simp at e⟩, fun b _ _ => rfl⟩
  · have HE : Hid (E = 0) := by rw [hE]; exact if_neg (by omega)
    have d1 : ((prOf h k).1 == 0) = false := by simp [hf]
    clear hf hE
    go_enter Tryz.func47, Tryz.ntmps47
    go_wp2_with fail
    refine (cloneInts_any W ar cr R hl hr).mono ?_
    rintro e w1 ⟨vR, rfl, hO, hb⟩
    obtain ⟨aR, cR, rfl, hI⟩ := hO.val
    have hX1 := HX.out.keep hb
    have og : OffL g aR R := row_off hO hgl
    have on : OffL nb aR R := row_off hO hnl
    have hR := hX1.row.setRoots k hkl R aR cR hI (by unfold maxLen; omega) og
    have HNEW : Hid (BoxAt B (w1.setCells g (k * 3 + 2) [.slice aR R.length cR]) nb g cap a c p d (X.set k ((X[k].1.1, X[k].1.2.1, R), aR, cR)) (h.1, h.2.1, h.2.2.set k ((prOf h k).1, (prOf h k).2.1, R))) := by
      refine hX1.peers [.slice aR R.length cR] (k * 3 + 2) hR ?_ ?_ _ (by rw [map_set_peer hX1.are k, HP.out])
      · intro x hm
        rcases List.mem_or_eq_of_mem_set hm with hm | rfl
        · exact hX1.off5 x hm
        · exact on
      · intro x hm
        rcases List.mem_or_eq_of_mem_set hm with hm | rfl
        · exact hX1.new3 x hm
        · exact (row_in hO).imp (fun b hb => by omega)
    have HB : Hid (Below B W (w1.setCells g (k * 3 + 2) [.slice aR R.length cR])) := below_sets (hb.mono (by omega)) g hB _ _
    obtain ⟨y0, y1, y2⟩ := hX1.row.cells k hkl
    have fz1 := hX1.row.blk.frz
    have HON : Hid (∀ b, b < W.heap.size → b ≠ g → (w1.setCells g (k * 3 + 2) [.slice aR R.length cR]).heap[b]? = W.heap[b]?) := fun b hlt hne => by rw [sets_heap b g hne]; exact hb.block b hlt
    clear hR hX1 hO hI hb g0 g1 g2 fz
    go_wp2
    go_ret
    exact ⟨⟨ret_int HE.out.symm, HB.out, fun _ => ⟨a, c, p, d, _, HNEW.out⟩⟩, HON.out⟩
end Go.Proofs.YthlhnokgcnieeadGreatDoor

