/- 4 texts of the proof: Mail checked, by the reference. Plain facts on the reference's way to apply a delta: a table turned, step by step. orangeryref.Applied$1: a table turned. Slices that are elder, or newer, than a block that is written. -/
import Derived.Test.YtijjiccgpobjmaeGreatP10
import Derived.Test.YtijjiccgpobjmaeGreatP12
import Derived.Test.YtijjiccgpobjmaeGreatP03
import Derived.Test.YtijjiccgpobjmaeGreatP11
import Derived.Test.YtijjiccgpobjmaeGreatP16
/- Mail checked, by the reference. -/
namespace Go.Proofs.YtijjiccgpobjmaeGreat
open Go.ChangeShapes Go.WideShapes Go.ChangeAt Go.RowKit
open Orangery (Pl Mv Vw Dl Ml noVw noDl noMl noV noD viewME deltaME viewE deltaE opUse seeUse seeRange ml1E mlsE mlE sameV sameD noOp checkOp)

theorem wrap_small {z : Int} (h0 : 0 ≤ z) (h1 : z ≤ 9223372036854775807) : wrap64 z = z := by unfold wrap64; omega
theorem sums3 (a b c : Nat) (h1 : a ≤ 17592186043904) (h2 : b ≤ 17592186043904) (h3 : c ≤ 17592186043904) : wrap64 ((a : Int) + b) = (a : Int) + b ∧ wrap64 ((a : Int) + b + c) = (a : Int) + b + c :=
  ⟨wrap_small (by omega) (by omega), wrap_small (by omega) (by omega)⟩
theorem sums4 (a b c d : Nat) (h1 : a ≤ 17592186043904) (h2 : b ≤ 17592186043904) (h3 : c ≤ 17592186043904) (h4 : d ≤ 17592186043904) : wrap64 ((a : Int) + b) = (a : Int) + b ∧ wrap64 ((a : Int) + b + c) = (a : Int) + b + c ∧ wrap64 ((a : Int) + b + c + d) = (a : Int) + b + c + d :=
  ⟨wrap_small (by omega) (by omega), wrap_small (by omega) (by omega), wrap_small (by omega) (by omega)⟩
theorem ml1_kind {m : Ml} (h : ¬ (1 ≤ m.1.1 ∧ m.1.1 ≤ 3)) : ml1E m = 4 := by unfold ml1E; rw [if_pos h]
theorem ml1_who {m : Ml} (h1 : 1 ≤ m.1.1 ∧ m.1.1 ≤ 3) (h : ¬ (0 ≤ m.1.2.1 ∧ m.1.2.1 ≤ 2)) : ml1E m = 5 := by unfold ml1E; rw [if_neg (by simp [h1]), if_pos h]
theorem ml1_op {m : Ml} (h : 0 ≤ m.1.2.1 ∧ m.1.2.1 ≤ 2) (hk : m.1.1 = 1) : ml1E m = if opUse m = true then checkOp m.2.1 else 4 := by
  unfold ml1E
  rw [if_neg (by omega), if_neg (by omega), if_pos hk]
theorem ml1_see {m : Ml} (h1 : 1 ≤ m.1.1 ∧ m.1.1 ≤ 3) (h : 0 ≤ m.1.2.1 ∧ m.1.2.1 ≤ 2) (hk : m.1.1 ≠ 1) : ml1E m = if seeUse m = false then 4 else if seeRange m = false then 3 else if m.1.1 = 3 then deltaME m.2.2.2 else viewME m.2.2.1 := by
  unfold ml1E
  rw [if_neg (by omega), if_neg (by omega), if_neg hk]
theorem mlsE_first {l : List Ml} {k : Nat} (hk : k < l.length) (h1 : ∀ j, (hj : j < l.length) → j < k → ml1E l[j] = 0) (h2 : ml1E l[k] ≠ 0) : mlsE l = ml1E l[k] := by
  induction l generalizing k with
  | nil => simp at hk
  | cons x l ih =>
    cases k with
    | zero => show (if ml1E x ≠ 0 then ml1E x else mlsE l) = ml1E x; exact if_pos h2
    | succ k =>
      have h0 := h1 0 (by simp) (by omega)
      show (if ml1E x ≠ 0 then ml1E x else mlsE l) = _
      have h0' : ml1E x = 0 := h0
      rw [if_neg (by simp [h0'])]
      exact ih (by simpa using hk) (fun j hj hjk => h1 (j + 1) (by simpa using hj) (by omega)) h2
theorem mlsE_none {l : List Ml} (h1 : ∀ j, (hj : j < l.length) → ml1E l[j] = 0) : mlsE l = 0 := by
  induction l with
  | nil => rfl
  | cons x l ih =>
    show (if ml1E x ≠ 0 then ml1E x else mlsE l) = 0
    have h0 : ml1E x = 0 := h1 0 (by simp)
    rw [if_neg (by simp [h0])]
    exact ih (fun j hj => h1 (j + 1) (by simpa using hj))
theorem mail_at {X : List Mm} {l : List Ml} (e : X.map (·.1) = l) (k : Nat) (hk : k < X.length) : ∃ h : k < l.length, l[k] = X[k].1 := by
  subst e
  exact ⟨by simpa using hk, by simp⟩
theorem noV_len {R : List Int} {K V : List Pl} : decide (0 < (R.length : Int) + K.length + V.length) = !noV (R, K, V) := by
  unfold noV
  cases R <;> cases K <;> cases V <;> simp <;> omega
theorem noD_len {G : List Int} {H : List Pl} {X : List Int} {Y : List Pl} : decide (0 < (G.length : Int) + H.length + X.length + Y.length) = !noD (G, H, X, Y) := by
  unfold noD
  cases G <;> cases H <;> cases X <;> cases Y <;> simp <;> omega

set_option maxHeartbeats 16000000 in
set_option maxRecDepth 100000 in
theorem rcheckMail_any (w : World) (a : Option Addr) (c : Nat) (X : List Mm) (l : List Ml) (hl : X.map (·.1) = l) (hm : X.length ≤ maxLen) (hX : SlM w a X) :
    Calls Tryz.prog 50 #[.slice a X.length c] w fun e w' => e = .returned (.int .i64 (mlE l)) ∧ Below w.heap.size w w' := by
  have hm' : X.length ≤ 9223372036854775807 := hm
  have HX := Lib.hid hX
  have HAT : Hid (∀ k, (hk : k < X.length) → ∃ hp : k < l.length, l[k] = X[k].1) := fun k hk => mail_at hl k hk
  have HLL : Hid (X.length = l.length) := by show _ = _; rw [← hl]; simp
  clear hX hl hm
  by_cases hbig : 30 < X.length
  · have HE : Hid (mlE l = 2) := by show _ = _; unfold mlE; rw [if_pos (by have := HLL.out; omega)]
    have d1 : decide ((X.length : Int) > 30) = true := by simp; omega
    go_enter Tryz.func50, Tryz.ntmps50
    go_wp2
    go_ret
    exact ⟨ret_int HE.out.symm, Below.refl _ _⟩
  have HE0 : Hid (mlE l = mlsE l) := by show _ = _; unfold mlE; rw [if_neg (by have := HLL.out; omega)]
  have d1 : decide ((X.length : Int) > 30) = false := by simp; omega
  clear hbig
  go_enter Tryz.func50, Tryz.ntmps50
  go_wp2
  clear d1
  go_loopw [15] (fun i W => ∃ k : Nat, k ≤ X.length ∧ i = .int .i64 k ∧ (∀ j, (hj : j < l.length) → j < k → ml1E l[j] = 0) ∧ Below w.heap.size w W) (fun i _ => X.length - (intOf i).toNat)
  case atStart => exact ⟨0, Nat.zero_le _, rfl, fun j _ hj => absurd hj (Nat.not_lt_zero _), Below.refl _ _⟩
  case round =>
    obtain ⟨j, hj, rfl, hno, hb⟩ := hrel
    have HNO := Lib.hid hno
    have HBr := Lib.hid hb
    clear hno hb
    by_cases hlt : j < X.length
    case neg =>
      have HE : Hid (mlsE l = 0) := mlsE_none (fun i hi => HNO.out i hi (by have := HLL.out; omega))
      clear HNO
      go_wp2
      go_ret
      exact ⟨ret_int (by rw [HE0.out, HE.out]), HBr.out⟩
    have hXr := HX.out.keep HBr.out
    obtain ⟨hp, hpe⟩ := HAT.out j hlt
    obtain ⟨bx, ox, rfl, hbx, hrx⟩ := hXr.reads.at mlC_len j hlt
    have HRX := Lib.hid (hXr.each _ (List.getElem_mem hlt))
    have HFI : Hid (∀ E, ml1E X[j].1 = E → E ≠ 0 → mlE l = E) := by
      intro E e he
      rw [← hpe] at e
      rw [HE0.out, mlsE_first hp HNO.out (by rw [e]; exact he), e]
    have HNX : Hid (ml1E X[j].1 = 0 → ∀ i, (hi : i < l.length) → i < j + 1 → ml1E l[i] = 0) := by
      intro e i hi hij
      by_cases hij' : i < j
      · exact HNO.out i hi hij'
      · have : i = j := by omega
        subst this
        rw [← hpe] at e
        exact e
    have HRG : Hid (wr.rangeAt bx (ox + j * 21) (mlC X[j])) := hrx
    clear hrx hXr hpe HNO HE0
    have hlti : (j : Int) < (X.length : Int) := by omega
    generalize X[j] = x at *
    obtain ⟨⟨⟨k, u, f, s, t, n, pp⟩, o, ⟨R, K, V⟩, ⟨G, H, X, Y⟩⟩, ⟨⟨aR, cR⟩, ⟨aK, cK⟩, ⟨aV, cV⟩⟩, ⟨aG, cG⟩, ⟨aH, cH⟩, ⟨aX, cX⟩, ⟨aY, cY⟩⟩ := x
    simp only at HFI HNX
    obtain ⟨x9, hx9⟩ : ∃ z : Mm, z = (((k, u, f, s, t, n, pp), o, (R, K, V), (G, H, X, Y)), ((aR, cR), (aK, cK), (aV, cV)), (aG, cG), (aH, cH), (aX, cX), (aY, cY)) := ⟨_, rfl⟩
    rw [← hx9] at HRG
    have HI1 := Lib.hid (sizeMailC x9)
    have HS1 : Hid ((Tryz.prog.info? 52).map (·.size) = some (mlC x9).toArray.size) := sizeMail
    have HO1 : Hid ((mlC x9).toArray.all (·.oneCell') = true) := all_oneCell_toArray (mlC_one x9)
    have hl1 : zeroMail.length = 21 := rfl
    have hl2 := mlC_len x9
    have HKS : Hid (mlC x9 = [Value.int .i64 k, .int .i64 u, .int .i64 f, .int .i64 s, .int .i64 t, .int .i64 n, .int .i64 pp, .int .i64 o.1, .int .i64 o.2.1, .int .i64 o.2.2.1.1, .int .i64 o.2.2.1.2.1, .int .i64 o.2.2.1.2.2, .int .i64 o.2.2.2.1, .int .i64 o.2.2.2.2, .slice aR R.length cR, .slice aK K.length cK, .slice aV V.length cV, .slice aG G.length cG, .slice aH H.length cH, .slice aX X.length cX, .slice aY Y.length cY]) := by show _ = _; rw [hx9]; rfl
    have HZZ : Hid (zeroMail.toArray = #[Value.int .i64 0, .int .i64 0, .int .i64 0, .int .i64 0, .int .i64 0, .int .i64 0, .int .i64 0, .int .i64 0, .int .i64 0, .int .i64 0, .int .i64 0, .int .i64 0, .int .i64 0, .int .i64 0, .slice none 0 0, .slice none 0 0, .slice none 0 0, .slice none 0 0, .slice none 0 0, .slice none 0 0, .slice none 0 0]) := rfl
    clear hx9
    generalize mlC x9 = cx at *
    generalize zeroMail = zc at *
    have hN1 := Blk.new wr zc 52
    have hB1 := Go.Joins.below_alloc1 wr (Obj.cells zc.toArray 52)
    have HT1 : Hid ((wr.alloc (Obj.cells zc.toArray 52)).there wr.heap.size 0 cx.toArray.size) := by show World.there _ _ _ _; have := hN1.there; rw [hl1] at this; simpa [hl2] using this
    have hN2 := hN1.sets cx (by rw [hl1, hl2])
    have hB2 : Below wr.heap.size wr ((wr.alloc (Obj.cells zc.toArray 52)).setCells wr.heap.size 0 cx) := below_sets hB1 wr.heap.size (Nat.le_refl _) cx 0
    have hx0 : ((wr.alloc (Obj.cells zc.toArray 52)).setCells wr.heap.size 0 cx).cell? ⟨wr.heap.size, 0, none⟩ = some (.int .i64 k) := by rw [HKS.out] at hN2 ⊢; exact hN2.at 0 rfl
    rw [HZZ.out] at HT1 hN2 hB2 hx0
    clear hN1 hB1 HZZ hl1 hl2
    go_wp2_with (first | (refine wpList_load_mid rfl 52 _ rfl bx (ox + j * 21) rfl cx _ HRG.out Tryz.underlying52 rfl HI1.out ?_) | (with_reducible refine at_store 52 ?_; refine wpList_store_mid rfl 52 _ _ rfl wr.heap.size 0 cx.toArray rfl rfl HT1.out HS1.out HO1.out ?_) | fail)
    clear HT1 HS1 HO1 HI1 HRG hx0
    generalize ((wr.alloc (Obj.cells #[Value.int .i64 0, .int .i64 0, .int .i64 0, .int .i64 0, .int .i64 0, .int .i64 0, .int .i64 0, .int .i64 0, .int .i64 0, .int .i64 0, .int .i64 0, .int .i64 0, .int .i64 0, .int .i64 0, .slice none 0 0, .slice none 0 0, .slice none 0 0, .slice none 0 0, .slice none 0 0, .slice none 0 0, .slice none 0 0] 52)).setCells wr.heap.size 0 cx) = W1 at *
    rw [HKS.out] at hN2
    have hN := hN2
    have HB1 := Lib.hid (HBr.out.trans (hB2.mono HBr.out.size))
    have HXI := Lib.hid (HRX.out.keep hB2)
    clear hB2 HRX HBr hN2 HKS
    have x0 := hN.at 0 rfl
    have x1 := hN.at 1 rfl
    refine (rin_any _ k 1 3).mono ?_
    rintro e w2 ⟨rfl, rfl⟩
    by_cases hk : 1 ≤ k ∧ k ≤ 3
    case neg =>
      have d1 : inB k 1 3 = false := by simp [inB]; omega
      have HE := Lib.hid (HFI.out 4 (ml1_kind (m := ((k, u, f, s, t, n, pp), o, (R, K, V), (G, H, X, Y))) hk) (by omega))
      rw [d1]
      clear hk d1 HFI HNX x0 x1 hN
      go_wp2
      go_ret
      exact ⟨ret_int HE.out.symm, HB1.out⟩
    have d1 : inB k 1 3 = true := by simp [inB]; omega
    rw [d1]
    have HK := Lib.hid hk
    clear hk d1
    go_wp2_with fail
    refine (rin_any _ u 0 2).mono ?_
    rintro e w2 ⟨rfl, rfl⟩
    by_cases hu : 0 ≤ u ∧ u ≤ 2
    case neg =>
      have d1 : inB u 0 2 = false := by simp [inB]; omega
      have HE := Lib.hid (HFI.out 5 (ml1_who (m := ((k, u, f, s, t, n, pp), o, (R, K, V), (G, H, X, Y))) HK.out hu) (by omega))
      rw [d1]
      clear hu d1 HFI HNX x0 x1 hN
      go_wp2
      go_ret
      exact ⟨ret_int HE.out.symm, HB1.out⟩
    have d1 : inB u 0 2 = true := by simp [inB]; omega
    rw [d1]
    have HU := Lib.hid hu
    clear hu d1
    obtain ⟨bv, hbv⟩ : ∃ b, noV (R, K, V) = b := ⟨_, rfl⟩
    obtain ⟨bd, hbd⟩ : ∃ b, noD (G, H, X, Y) = b := ⟨_, rfl⟩
    have hV := @noV_len R K V
    have hD := @noD_len G H X Y
    rw [hbv] at hV
    rw [hbd] at hD
    have HBV := Lib.hid hbv
    have HBD := Lib.hid hbd
    have q1 : R.length ≤ 17592186043904 := HXI.out.few.1
    have q2 : K.length ≤ 17592186043904 := HXI.out.few.2.1
    have q3 : V.length ≤ 17592186043904 := HXI.out.few.2.2.1
    have q4 : G.length ≤ 17592186043904 := HXI.out.few.2.2.2.1
    have q5 : H.length ≤ 17592186043904 := HXI.out.few.2.2.2.2.1
    have q6 : X.length ≤ 17592186043904 := HXI.out.few.2.2.2.2.2.1
    have q7 : Y.length ≤ 17592186043904 := HXI.out.few.2.2.2.2.2.2
    obtain ⟨p1, p2⟩ := sums3 R.length K.length V.length q1 q2 q3
    obtain ⟨p3, p4, p5⟩ := sums4 G.length H.length X.length Y.length q4 q5 q6 q7
    clear hbv hbd q1 q2 q3 q4 q5 q6 q7
    have x14 := hN.at 14 rfl
    have x15 := hN.at 15 rfl
    have x16 := hN.at 16 rfl
    have x17 := hN.at 17 rfl
    have x18 := hN.at 18 rfl
    have x19 := hN.at 19 rfl
    have x20 := hN.at 20 rfl
    go_upto_region 12 with fail
    clear hV hD p1 p2 p3 p4 p5 x14 x15 x16 x17 x18 x19 x20
    obtain ⟨pb, hpb⟩ : ∃ b : Bool, (decide (f = 0) && decide (s = 0) && decide (t = 0) && decide (n = 0)) = b := ⟨_, rfl⟩
    have HPB := Lib.hid hpb
    clear hpb
    have x2 := hN.at 2 rfl
    have x3 := hN.at 3 rfl
    have x4 := hN.at 4 rfl
    have x5 := hN.at 5 rfl
    go_cut [7] from 62 to 79 (fun v wc => v = .bool (!pb) ∧ w2 = wc)
    case first =>
      by_cases e2 : f = 0
      case neg =>
        have d1 : (f != 0) = true := by simpa using e2
        go_wp2
        go_meet
        case rel => exact ⟨by rw [← HPB.out]; simp [e2], rfl⟩
      have d2 : (f != 0) = false := by simpa using e2
      by_cases e3 : s = 0
      case neg =>
        have d1 : (s != 0) = true := by simpa using e3
        have E3 := Lib.hid e3
        clear e2 e3
        go_wp2
        go_meet
        case rel => exact ⟨by rw [← HPB.out]; simp [E3.out], rfl⟩
      have d3 : (s != 0) = false := by simpa using e3
      by_cases e4 : t = 0
      case neg =>
        have d1 : (t != 0) = true := by simpa using e4
        have E4 := Lib.hid e4
        clear e2 e3 e4
        go_wp2
        go_meet
        case rel => exact ⟨by rw [← HPB.out]; simp [E4.out], rfl⟩
      have d4 : (t != 0) = false := by simpa using e4
      have E := Lib.hid (And.intro e2 (And.intro e3 e4))
      by_cases e5 : n = 0
      · have d1 : (n != 0) = false := by simpa using e5
        have E5 := Lib.hid e5
        clear e2 e3 e4 e5
        go_wp2
        go_meet
        case rel => exact ⟨by rw [← HPB.out]; simp [E.out.1, E.out.2.1, E.out.2.2, E5.out], rfl⟩
      · have d1 : (n != 0) = true := by simpa using e5
        have E5 := Lib.hid e5
        clear e2 e3 e4 e5
        go_wp2
        go_meet
        case rel => exact ⟨by rw [← HPB.out]; simp [E5.out], rfl⟩
    case rest =>
      obtain ⟨rfl, hwc⟩ := hcut
      subst hwc
      clear x2 x3 x4 x5
      obtain ⟨sb, hsb⟩ : ∃ b : Bool, (decide (k = 1) && !opUse ((k, u, f, s, t, n, pp), o, (R, K, V), (G, H, X, Y))) = b := ⟨_, rfl⟩
      have HSB := Lib.hid hsb
      have HOU : Hid (opUse ((k, u, f, s, t, n, pp), o, (R, K, V), (G, H, X, Y)) = (pb && decide (pp = 0) && bv && bd && decide (o.2.1 = u))) := by
        show _ = _
        rw [← HPB.out, ← HBV.out, ← HBD.out]
        rfl
      clear hsb
      rename World => W2
      have x6 := hN.at 6 rfl
      have x8 := hN.at 8 rfl
      go_upto_region 13 with fail
      go_cut [80] from 81 to 106 (fun v wc => v = .bool sb ∧ W2 = wc)
      case first =>
        by_cases e1 : k = 1
        case neg =>
          have d1 : (k == 1) = false := by simpa using e1
          have HS : Hid (sb = false) := by show _ = _; rw [← HSB.out]; simp [e1]
          clear e1
          go_wp2
          go_meet
          case rel => exact ⟨by rw [HS.out], rfl⟩
        have d1 : (k == 1) = true := by simpa using e1
        have HS : Hid (sb = !(pb && decide (pp = 0) && bv && bd && decide (o.2.1 = u))) := by show _ = _; rw [← HSB.out, HOU.out]; simp [e1]
        clear e1
        cases hp : pb
        case false =>
          rw [hp] at HS
          subst hp
          go_wp2
          go_meet
          case rel => exact ⟨by rw [HS.out]; rfl, rfl⟩
        rw [hp] at HS
        subst hp
        by_cases e2 : pp = 0
        case neg =>
          have d2 : (pp != 0) = true := by simpa using e2
          have HS2 : Hid (sb = true) := by show _ = _; rw [HS.out]; simp [e2]
          clear e2
          go_wp2
          go_meet
          case rel => exact ⟨by rw [HS2.out], rfl⟩
        have d2 : (pp != 0) = false := by simpa using e2
        have HS2 : Hid (sb = !(bv && bd && decide (o.2.1 = u))) := by show _ = _; rw [HS.out]; simp [e2]
        clear e2 HS
        cases hp : bv
        case false =>
          rw [hp] at HS2
          subst hp
          go_wp2
          go_meet
          case rel => exact ⟨by rw [HS2.out]; rfl, rfl⟩
        rw [hp] at HS2
        subst hp
        cases hp : bd
        case false =>
          rw [hp] at HS2
          subst hp
          go_wp2
          go_meet
          case rel => exact ⟨by rw [HS2.out]; rfl, rfl⟩
        rw [hp] at HS2
        subst hp
        by_cases e3 : o.2.1 = u
        · have d3 : (o.2.1 != u) = false := by simpa using e3
          have HS3 : Hid (sb = false) := by show _ = _; rw [HS2.out]; simp [e3]
          clear e3
          go_wp2
          go_meet
          case rel => exact ⟨by rw [HS3.out], rfl⟩
        · have d3 : (o.2.1 != u) = true := by simpa using e3
          have HS3 : Hid (sb = true) := by show _ = _; rw [HS2.out]; simp [e3]
          clear e3
          go_wp2
          go_meet
          case rel => exact ⟨by rw [HS3.out], rfl⟩
      case rest =>
      obtain ⟨rfl, hwc⟩ := hcut
      subst hwc
      clear x6 x8 HOU HPB
      cases hp : sb
      case true =>
        have HE : Hid (mlE l = 4) := by
          have h1 := HSB.out
          rw [hp] at h1
          simp only [Bool.and_eq_true, decide_eq_true_eq, Bool.not_eq_true'] at h1
          refine HFI.out 4 ?_ (by decide)
          rw [ml1_op HU.out h1.1, h1.2]
          rfl
        subst hp
        clear HFI HNX x0 x1 hN
        go_wp2
        go_ret
        exact ⟨ret_int HE.out.symm, HB1.out⟩
      have HSF : Hid (k = 1 → opUse ((k, u, f, s, t, n, pp), o, (R, K, V), (G, H, X, Y)) = true) := by
        intro hk
        have h1 := HSB.out
        rw [hp] at h1
        simpa [hk] using h1
      subst hp
      clear HSB
      by_cases e1 : k = 1
      case pos =>
        have d1 : (k == 1) = true := by simpa using e1
        have HM1 : Hid (ml1E ((k, u, f, s, t, n, pp), o, (R, K, V), (G, H, X, Y)) = checkOp o) := by
          show _ = _
          rw [ml1_op HU.out e1, if_pos (HSF.out e1)]
        clear e1
        have x7 := hN.at 7 rfl
        have x8 := hN.at 8 rfl
        have x9 := hN.at 9 rfl
        have x10 := hN.at 10 rfl
        have x11 := hN.at 11 rfl
        have x12 := hN.at 12 rfl
        have x13 := hN.at 13 rfl
        go_wp2_with fail
        refine (refCheckOp_any _ o).mono ?_
        rintro e w3 ⟨rfl, hb3⟩
        have HB3 := Lib.hid (HB1.out.trans (hb3.mono HB1.out.size))
        clear hb3 x0 x1 x7 x8 x9 x10 x11 x12 x13 hN
        by_cases hc : checkOp o = 0
        case neg =>
          have HE := Lib.hid (HFI.out _ HM1.out hc)
          have dc : (checkOp o != 0) = true := by simpa using hc
          clear hc HFI HNX
          generalize checkOp o = ec at *
          go_wp2
          go_ret
          exact ⟨ret_int HE.out.symm, HB3.out⟩
        have HN9 := Lib.hid (HNX.out (HM1.out.trans hc))
        rw [hc]
        clear hc HFI HNX
        go_wp2
        go_roundw
        case rel => exact ⟨j + 1, hlt, by go_num, HN9.out, HB3.out⟩
        case measure => simp [intOf]; omega
      have d1 : (k == 1) = false := by simpa using e1
      have HM1 := Lib.hid (ml1_see (m := ((k, u, f, s, t, n, pp), o, (R, K, V), (G, H, X, Y))) HK.out HU.out e1)
      clear e1 HSF
      obtain ⟨su, hsu⟩ : ∃ b : Bool, seeUse ((k, u, f, s, t, n, pp), o, (R, K, V), (G, H, X, Y)) = b := ⟨_, rfl⟩
      have HSU : Hid (su = (decide (o = noOp) && (!decide (k = 2) || (decide (pp = 0) && bd)) && (!decide (k = 3) || bv))) := by
        show _ = _
        rw [← hsu, ← HBV.out, ← HBD.out]
        rfl
      rw [hsu] at HM1
      have HF4 : Hid (su = false → mlE l = 4) := fun h => HFI.out 4 (by rw [HM1.out, h]; rfl) (by decide)
      clear hsu
      obtain ⟨bo, hbo⟩ : ∃ b : Bool, b = decide (o = noOp) := ⟨_, rfl⟩
      have hq : ∀ w, (binOp .neq 32 (opV o) (.agg #[.int .i64 0, .int .i64 0, .int .i64 0, .int .i64 0, .int .i64 0, .int .i64 0, .int .i64 0])).run Tryz.prog w = .ok (.bool (!bo)) w := by
        intro w
        rw [hbo]
        exact run_neq_opg o noOp w
      rw [← hbo] at HSU
      clear hbo
      have hgd := guard_op
      have x7 := hN.at 7 rfl
      have x8 := hN.at 8 rfl
      have x9 := hN.at 9 rfl
      have x10 := hN.at 10 rfl
      have x11 := hN.at 11 rfl
      have x12 := hN.at 12 rfl
      have x13 := hN.at 13 rfl
      cases hp : bo
      case false =>
        have HE := Lib.hid (HF4.out (by rw [HSU.out, hp]; rfl))
        subst hp
        clear HFI HNX HF4 HSU HM1 hN x1
        go_wp2

        go_ret
        exact ⟨ret_int HE.out.symm, HB1.out⟩
      have HSU2 : Hid (su = ((!decide (k = 2) || (decide (pp = 0) && bd)) && (!decide (k = 3) || bv))) := by show _ = _; rw [HSU.out, hp, Bool.true_and]
      subst hp
      clear HSU
      go_upto_region 20 with fail
      clear hq hgd x7 x8 x9 x10 x11 x12 x13
      have x6 := hN.at 6 rfl
      have hk23 : k = 2 ∨ k = 3 := by
        have h3 := HK.out
        have h2 : ¬ k = 1 := by
          intro h
          rw [h] at d1
          simp at d1
        omega
      cases hp : su
      case false =>
        have HE := Lib.hid (HF4.out hp)
        subst hp
        clear HFI HNX HF4 HM1 hN x1
        rcases hk23 with hk | hk
        · have d2 : (k == 2) = true := by simpa using hk
          by_cases hpp : pp = 0
          · have d3 : (pp != 0) = false := by simpa using hpp
            have hbd : bd = false := by
              have h1 := HSU2.out
              rw [hk, hpp] at h1
              simpa using h1.symm
            clear hk hpp HSU2
            subst hbd
            go_wp2
            go_ret
            exact ⟨ret_int HE.out.symm, HB1.out⟩
          · have d3 : (pp != 0) = true := by simpa using hpp
            clear hk hpp HSU2
            go_wp2
            go_ret
            exact ⟨ret_int HE.out.symm, HB1.out⟩
        · have d2 : (k == 2) = false := by simp; omega
          have d3 : (k == 3) = true := by simpa using hk
          have hbv : bv = false := by
            have h1 := HSU2.out
            rw [hk] at h1
            simpa using h1.symm
          clear hk HSU2
          subst hbv
          go_wp2
          go_ret
          exact ⟨ret_int HE.out.symm, HB1.out⟩
      rw [hp] at HM1 HSU2
      subst hp
      clear HF4
      go_cut [117] from 118 to 132 (fun v wc => v = .bool false ∧ W2 = wc)
      case first =>
        rcases hk23 with hk | hk
        · have d2 : (k == 2) = true := by simpa using hk
          have h1 := HSU2.out
          rw [hk] at h1
          simp at h1
          have d3 : (pp != 0) = false := by simpa using h1.1
          have hbd : bd = true := h1.2
          clear hk h1 HSU2
          subst hbd
          go_wp2
          go_meet
          case rel => exact ⟨rfl, rfl⟩
        · have d2 : (k == 2) = false := by simp; omega
          clear hk HSU2
          go_wp2
          go_meet
          case rel => exact ⟨rfl, rfl⟩
      case rest =>
      obtain ⟨rfl, hwc⟩ := hcut
      subst hwc
      clear x6
      rename World => W2
      go_upto_region 21 with fail
      go_cut [117] from 133 to 138 (fun v wc => v = .bool false ∧ W2 = wc)
      case first =>
        rcases hk23 with hk | hk
        · have d2 : (k == 3) = false := by simp; omega
          clear hk HSU2
          go_wp2
          go_meet
          case rel => exact ⟨rfl, rfl⟩
        · have d2 : (k == 3) = true := by simpa using hk
          have h1 := HSU2.out
          rw [hk] at h1
          simp at h1
          have hbv : bv = true := h1
          clear hk h1 HSU2
          subst hbv
          go_wp2
          go_meet
          case rel => exact ⟨rfl, rfl⟩
      case rest =>
      obtain ⟨rfl, hwc⟩ := hcut
      subst hwc
      clear HSU2
      rename World => W2
      obtain ⟨sr, hsr⟩ : ∃ b : Bool, seeRange ((k, u, f, s, t, n, pp), o, (R, K, V), (G, H, X, Y)) = b := ⟨_, rfl⟩
      have HSR : Hid (sr = (inB f 1 50 && inB s 0 30 && inB t 0 10000 && inB n 1 60 && inB pp 0 (n - 1))) := by
        show _ = _
        rw [← hsr]
        have h1 : decide (0 ≤ pp ∧ pp < n) = decide (0 ≤ pp ∧ pp ≤ n - 1) := by
          by_cases h : 0 ≤ pp ∧ pp < n
          · rw [decide_eq_true h, decide_eq_true (by omega)]
          · rw [decide_eq_false h, decide_eq_false (by omega)]
        show (_ && decide (0 ≤ pp ∧ pp < n)) = _
        rw [h1]
        rfl
      rw [hsr] at HM1
      clear hsr
      have x2 := hN.at 2 rfl
      have x3 := hN.at 3 rfl
      have x4 := hN.at 4 rfl
      have x5 := hN.at 5 rfl
      have x6 := hN.at 6 rfl
      go_upto_region 23 with fail
      go_cut [139] from 140 to 170 (fun v wc => v = .bool (!sr) ∧ W2 = wc)
      case first =>
        go_wp2_with fail
        refine (rin_any _ f 1 50).mono ?_
        rintro e w9 ⟨rfl, rfl⟩
        obtain ⟨b1, hb1⟩ : ∃ b : Bool, b = inB f 1 50 := ⟨_, rfl⟩
        rw [← hb1] at HSR ⊢
        clear hb1
        cases b1
        case false =>
          go_wp2
          go_meet
          case rel => exact ⟨by rw [HSR.out]; rfl, rfl⟩
        go_wp2_with fail
        refine (rin_any _ s 0 30).mono ?_
        rintro e w9 ⟨rfl, rfl⟩
        obtain ⟨b1, hb1⟩ : ∃ b : Bool, b = inB s 0 30 := ⟨_, rfl⟩
        rw [← hb1] at HSR ⊢
        clear hb1
        cases b1
        case false =>
          go_wp2
          go_meet
          case rel => exact ⟨by rw [HSR.out]; rfl, rfl⟩
        go_wp2_with fail
        refine (rin_any _ t 0 10000).mono ?_
        rintro e w9 ⟨rfl, rfl⟩
        obtain ⟨b1, hb1⟩ : ∃ b : Bool, b = inB t 0 10000 := ⟨_, rfl⟩
        rw [← hb1] at HSR ⊢
        clear hb1
        cases b1
        case false =>
          go_wp2
          go_meet
          case rel => exact ⟨by rw [HSR.out]; rfl, rfl⟩
        go_wp2_with fail
        refine (rin_any _ n 1 60).mono ?_
        rintro e w9 ⟨rfl, rfl⟩
        obtain ⟨b1, hb1⟩ : ∃ b : Bool, b = inB n 1 60 := ⟨_, rfl⟩
        have HB60 : Hid (b1 = true → 1 ≤ n ∧ n ≤ 60) := by intro h; rw [hb1] at h; simpa [inB] using h
        rw [← hb1] at HSR ⊢
        clear hb1
        cases b1
        case false =>
          go_wp2
          go_meet
          case rel => exact ⟨by rw [HSR.out]; rfl, rfl⟩
        have hn60 := HB60.out rfl
        have hnw : IntKind.i64.wrap (n - 1) = n - 1 := by rw [IntKind.wrap_i64]; omega
        have hnw2 : wrap64 (n - 1) = n - 1 := by unfold wrap64; omega
        clear HB60
        go_wp2_with fail
        refine (rin_any _ pp 0 (n - 1)).mono ?_
        rintro e w9 ⟨rfl, rfl⟩
        obtain ⟨b1, hb1⟩ : ∃ b : Bool, b = inB pp 0 (n - 1) := ⟨_, rfl⟩
        rw [← hb1] at HSR ⊢
        clear hb1 hn60 hnw hnw2
        go_wp2
        go_meet
        case rel => exact ⟨by rw [HSR.out]; cases b1 <;> rfl, rfl⟩
      case rest =>
      obtain ⟨rfl, hwc⟩ := hcut
      subst hwc
      rename World => W2
      clear x2 x3 x4 x5 x6 HSR x1
      cases hp : sr
      case false =>
        have HE := Lib.hid (HFI.out 3 (by rw [HM1.out, hp]; rfl) (by decide))
        subst hp
        clear HFI HNX HM1 hN x0
        go_wp2
        go_ret
        exact ⟨ret_int HE.out.symm, HB1.out⟩
      rw [hp] at HM1
      subst hp
      have HM2 : Hid (ml1E ((k, u, f, s, t, n, pp), o, (R, K, V), (G, H, X, Y)) = if k = 3 then deltaE G H X Y else viewE R K V) := HM1.out
      clear HM1
      have x14 := hN.at 14 rfl
      have x15 := hN.at 15 rfl
      have x16 := hN.at 16 rfl
      go_wp2_with fail
      clear x14 x15 x16
      refine (rcheckV_any W2 aR aK aV cR cK cV R K V HXI.out.max.1.1 HXI.out.max.1.2.1 HXI.out.max.1.2.2 HXI.out.nils.1 HXI.out.nils.2 HXI.out.lr HXI.out.lk HXI.out.lv).mono ?_
      rintro e w3 ⟨rfl, hb3⟩
      have HB3 := Lib.hid (HB1.out.trans (hb3.mono HB1.out.size))
      have hN3 := hN.keep hb3
      have HX3 := Lib.hid (HXI.out.keep hb3)
      clear hN hb3 HXI HB1 x0
      have x0 := hN3.at 0 rfl
      rcases hk23 with hk | hk
      · have d3 : (k == 3) = false := by simp; omega
        have HM3 : Hid (ml1E ((k, u, f, s, t, n, pp), o, (R, K, V), (G, H, X, Y)) = viewE R K V) := by show _ = _; rw [HM2.out, if_neg (by omega)]
        clear hk HM2 hN3
        by_cases hv : viewE R K V = 0
        · have HN9 := Lib.hid (HNX.out (HM3.out.trans hv))
          rw [hv]
          clear hv HFI HNX HM3
          go_wp2
          go_roundw
          case rel => exact ⟨j + 1, hlt, by go_num, HN9.out, HB3.out⟩
          case measure => simp [intOf]; omega
        · have HE := Lib.hid (HFI.out _ HM3.out hv)
          have dv : (viewE R K V != 0) = true := by simpa using hv
          clear hv HFI HNX HM3
          generalize viewE R K V = ev at *
          go_wp2
          go_ret
          exact ⟨ret_int HE.out.symm, HB3.out⟩
      · have d3 : (k == 3) = true := by simpa using hk
        have HM3 : Hid (ml1E ((k, u, f, s, t, n, pp), o, (R, K, V), (G, H, X, Y)) = deltaE G H X Y) := by show _ = _; rw [HM2.out, if_pos hk]
        have x17 := hN3.at 17 rfl
        have x18 := hN3.at 18 rfl
        have x19 := hN3.at 19 rfl
        have x20 := hN3.at 20 rfl
        clear hk HM2 hN3
        generalize viewE R K V = ev at *
        go_wp2_with fail
        clear x0 x17 x18 x19 x20
        refine (rcheckD_any w3 aG aH aX aY cG cH cX cY G H X Y HX3.out.max.2 HX3.out.lg HX3.out.lh HX3.out.lx HX3.out.ly).mono ?_
        rintro e w4 ⟨rfl, hb4⟩
        have HB4 := Lib.hid (HB3.out.trans (hb4.mono HB3.out.size))
        clear hb4 HB3 HX3
        by_cases hv : deltaE G H X Y = 0
        · have HN9 := Lib.hid (HNX.out (HM3.out.trans hv))
          rw [hv]
          clear hv HFI HNX HM3
          go_wp2
          go_roundw
          case rel => exact ⟨j + 1, hlt, by go_num, HN9.out, HB4.out⟩
          case measure => simp [intOf]; omega
        · have HE := Lib.hid (HFI.out _ HM3.out hv)
          have dv : (deltaE G H X Y != 0) = true := by simpa using hv
          clear hv HFI HNX HM3
          generalize deltaE G H X Y = ed at *
          go_wp2
          go_ret
          exact ⟨ret_int HE.out.symm, HB4.out⟩
end Go.Proofs.YtijjiccgpobjmaeGreat

/- Plain facts on the reference's way to apply a delta: a table turned, step by step. -/
namespace Orangery

theorem turnG_take (l : List Pl) (G : List Int) (k : Nat) (h : k < G.length) (n : Int) :
    turnG l (G.take (k + 1)) n = if n = G[k] then ((turnG l (G.take k) n).1, -1, (turnG l (G.take k) n).2.2) else turnG l (G.take k) n := by
  have e : hasB n (G.take (k + 1)) = (hasB n (G.take k) || decide (n = G[k])) := by
    rw [List.take_succ_eq_append_getElem h]
    unfold hasB
    rw [Bool.eq_iff_iff]
    simp only [decide_eq_true_eq, Bool.or_eq_true, List.mem_append, List.mem_singleton]
  unfold turnG
  rw [e]
  by_cases h1 : n = G[k]
  · rw [if_pos h1]
    cases h2 : hasB n (G.take k) <;> simp [h1]
  · rw [if_neg h1]
    cases h2 : hasB n (G.take k) <;> simp [h1]
theorem turnG_zero (l : List Pl) (G : List Int) (n : Int) : turnG l (G.take 0) n = tabAt l n := by
  unfold turnG
  simp [hasB]
theorem turnT_take (l : List Pl) (G : List Int) (H : List Pl) (k : Nat) (h : k < H.length) (n : Int) :
    turnT l G (H.take (k + 1)) n = if n = H[k].1 then H[k] else turnT l G (H.take k) n := by
  unfold turnT
  rw [List.take_succ_eq_append_getElem h, List.foldl_append, List.foldl_cons, List.foldl_nil]
  by_cases h1 : n = H[k].1
  · rw [if_pos h1, if_pos h1.symm]
  · rw [if_neg h1, if_neg (fun e => h1 e.symm)]
theorem turnT_zero (l : List Pl) (G : List Int) (H : List Pl) (n : Int) : turnT l G (H.take 0) n = turnG l G n := rfl
end Orangery

/- orangeryref.Applied$1: a table turned. -/
namespace Go.Proofs.YtijjiccgpobjmaeGreat
open Go.ChangeShapes Go.WideShapes Go.ChangeAt Go.RowKit
open Orangery (Pl scan tabAt turnG turnT appL rows)

theorem HoldsP.lower {w w' : World} {g B : Nat} {m : List Pl} (h : HoldsP w g m) (hb : Below B w w') (hg : g < B) : HoldsP w' g m :=
  ⟨fun i hi => by rw [hb.cell (by exact hg), hb.cell (by exact hg), hb.cell (by exact hg)]; exact h.1 i hi, fun i hi => by rw [hb.frozen (by exact hg)]; exact h.2 i hi⟩

set_option maxHeartbeats 4000000 in
set_option maxRecDepth 100000 in
theorem rturn_any (w : World) (a aG aH : Option Addr) (c cG cH : Nat) (l : List Pl) (G : List Int) (H : List Pl) (hl : scan 0 l = 0) (hgl : G.length ≤ 1000) (hG : ∀ n ∈ G, 1 ≤ n ∧ n ≤ 15) (hH : scan 0 H = 0) (h0 : SlP w a l) (h1 : SlI w aG G) (h2 : SlP w aH H) :
    Calls Tryz.prog 84 #[.slice a l.length c, .slice aG G.length cG, .slice aH H.length cH] w
      fun e w' => ∃ v, e = .returned v ∧ OwnS w' w.heap.size v (appL l G H) ∧ Below w.heap.size w w' := by
  have hla := Orangery.scan_small hl
  have hlh := Orangery.scan_small hH
  have HRW : Hid (rows (fun n => turnT l G H n) 16 = appL l G H) := Orangery.turn_rows l G H hl hH
  have HGR : Hid (∀ n ∈ G, 1 ≤ n ∧ n ≤ 15) := hG
  have HHR : Hid (∀ p ∈ H, 1 ≤ p.1 ∧ p.1 ≤ 15) := fun p hp => by have := (Orangery.inRangeB_iff p).1 (Orangery.scan_range H 0 hH p hp).1; omega
  have HPG : Hid (SlI w aG G) := h1
  have HPH : Hid (SlP w aH H) := h2
  clear h1 h2 hG
  go_enter Tryz.func84, Tryz.ntmps84
  go_wp2_with fail
  refine (table_any w a c l (by omega) h0 hl).mono ?_
  rintro e w1 ⟨rfl, hb1⟩
  have hcs : ((tabL fun n => tabAt l n).flatMap encPl).length = 48 := by rw [flat_len, tabL_len]
  have hone := all_oneCell_toArray (flat_one (tabL fun n => tabAt l n))
  unfold tabV
  generalize hcd : (tabL fun n => tabAt l n).flatMap encPl = cs at *
  have HCD : Hid ((tabL fun n => tabAt l n).flatMap encPl = cs) := hcd
  clear hcd
  have hst : (storeCells ⟨w1.heap.size, 0, none⟩ cs 0).run Tryz.prog (w1.alloc (.cells #[Value.int IntKind.i64 0, Value.int IntKind.i64 0, Value.int IntKind.i64 0, Value.int IntKind.i64 0, Value.int IntKind.i64 0, Value.int IntKind.i64 0, Value.int IntKind.i64 0, Value.int IntKind.i64 0, Value.int IntKind.i64 0, Value.int IntKind.i64 0, Value.int IntKind.i64 0, Value.int IntKind.i64 0, Value.int IntKind.i64 0, Value.int IntKind.i64 0, Value.int IntKind.i64 0, Value.int IntKind.i64 0, Value.int IntKind.i64 0, Value.int IntKind.i64 0, Value.int IntKind.i64 0, Value.int IntKind.i64 0, Value.int IntKind.i64 0, Value.int IntKind.i64 0, Value.int IntKind.i64 0, Value.int IntKind.i64 0, Value.int IntKind.i64 0, Value.int IntKind.i64 0, Value.int IntKind.i64 0, Value.int IntKind.i64 0, Value.int IntKind.i64 0, Value.int IntKind.i64 0, Value.int IntKind.i64 0, Value.int IntKind.i64 0, Value.int IntKind.i64 0, Value.int IntKind.i64 0, Value.int IntKind.i64 0, Value.int IntKind.i64 0, Value.int IntKind.i64 0, Value.int IntKind.i64 0, Value.int IntKind.i64 0, Value.int IntKind.i64 0, Value.int IntKind.i64 0, Value.int IntKind.i64 0, Value.int IntKind.i64 0, Value.int IntKind.i64 0, Value.int IntKind.i64 0, Value.int IntKind.i64 0, Value.int IntKind.i64 0, Value.int IntKind.i64 0] 100)) = .ok () (w1.alloc (.cells cs.toArray 100)) := by
    have := run_storeCells_new (P := Tryz.prog) w1 100 #[Value.int IntKind.i64 0, Value.int IntKind.i64 0, Value.int IntKind.i64 0, Value.int IntKind.i64 0, Value.int IntKind.i64 0, Value.int IntKind.i64 0, Value.int IntKind.i64 0, Value.int IntKind.i64 0, Value.int IntKind.i64 0, Value.int IntKind.i64 0, Value.int IntKind.i64 0, Value.int IntKind.i64 0, Value.int IntKind.i64 0, Value.int IntKind.i64 0, Value.int IntKind.i64 0, Value.int IntKind.i64 0, Value.int IntKind.i64 0, Value.int IntKind.i64 0, Value.int IntKind.i64 0, Value.int IntKind.i64 0, Value.int IntKind.i64 0, Value.int IntKind.i64 0, Value.int IntKind.i64 0, Value.int IntKind.i64 0, Value.int IntKind.i64 0, Value.int IntKind.i64 0, Value.int IntKind.i64 0, Value.int IntKind.i64 0, Value.int IntKind.i64 0, Value.int IntKind.i64 0, Value.int IntKind.i64 0, Value.int IntKind.i64 0, Value.int IntKind.i64 0, Value.int IntKind.i64 0, Value.int IntKind.i64 0, Value.int IntKind.i64 0, Value.int IntKind.i64 0, Value.int IntKind.i64 0, Value.int IntKind.i64 0, Value.int IntKind.i64 0, Value.int IntKind.i64 0, Value.int IntKind.i64 0, Value.int IntKind.i64 0, Value.int IntKind.i64 0, Value.int IntKind.i64 0, Value.int IntKind.i64 0, Value.int IntKind.i64 0, Value.int IntKind.i64 0] cs.toArray (by rw [infoTable]; simp [hcs]) (by simp [hcs]) hone
    exact this
  have hT := Blk.new w1 cs 100
  have HFL : Hid (HoldsP (w1.alloc (.cells cs.toArray 100)) w1.heap.size (tabL fun n => tabAt l n)) := by
    show HoldsP _ _ _
    rw [← HCD.out] at hT ⊢
    exact hT.holds
  have HB1 : Hid (Below w.heap.size w (w1.alloc (.cells cs.toArray 100))) := hb1.alloc hb1.size _
  have hsz1 : w.heap.size ≤ w1.heap.size := hb1.size
  have HS2 : Hid ((w1.alloc (.cells cs.toArray 100)).heap.size = w1.heap.size + 1) := by show _ = _; simp
  clear h0 hb1 hone hT
  go_wp2
  clear hst
  generalize w1.alloc (.cells cs.toArray 100) = W2 at *
  clear HCD hcs
  have hs2 : w1.heap.size < W2.heap.size := by have := HS2.out; omega
  go_loopw [16] (fun x W => ∃ k : Nat, k ≤ G.length ∧ x = .int .i64 k ∧ HoldsP W w1.heap.size (tabL fun n => turnG l (G.take k) n) ∧ Below w1.heap.size W2 W) (fun x _ => G.length - (intOf x).toNat)
  case atStart => exact ⟨0, by omega, rfl, by have e : (tabL fun n => turnG l (G.take 0) n) = tabL fun n => tabAt l n := congrArg tabL (funext fun n => Orangery.turnG_zero l G n); rw [e]; exact HFL.out, Below.refl _ _⟩
  case round =>
    obtain ⟨k, hk, rfl, hH, hb⟩ := hrel
    have HH : Hid (HoldsP wr w1.heap.size (tabL fun n => turnG l (G.take k) n)) := hH
    by_cases hlt : k < G.length
    · have hbw : Below w.heap.size w wr := HB1.out.trans (hb.mono hsz1)
      obtain ⟨b, off, rfl, hbl, g0⟩ := (HPG.out.below hbw).at k hlt
      have hr := HGR.out G[k] (List.getElem_mem hlt)
      have HST : Hid (∀ n : Nat, turnG l (G.take (k + 1)) n = if (n : Int) = G[k] then ((turnG l (G.take k) n).1, -1, (turnG l (G.take k) n).2.2) else turnG l (G.take k) n) := fun n => Orangery.turnG_take l G k hlt n
      obtain ⟨m, hm⟩ : ∃ m : Nat, G[k] = m := ⟨G[k].toNat, by omega⟩
      have hm16 : m < 16 := by omega
      have hc := (hH.1 m (by rw [tabL_len]; exact hm16)).2.1
      have hf := hH.2 (m * 3 + 1) (by rw [tabL_len]; omega)
      simp only [Nat.zero_add] at hc
      rw [hm] at g0
      have HM : Hid (G[k] = m) := hm
      clear hH hm hr hbl
      go_wp2
      go_roundw
      case rel =>
        refine ⟨k + 1, by omega, by go_num, ?_, hb.setCell (by show _ ≤ w1.heap.size; omega) _⟩
        have h1 := HH.out.set1 m (by rw [tabL_len]; exact hm16) (-1)
        rw [tabL_get] at h1
        rw [tabL_set _ (fun n => turnG l (G.take (k + 1)) n) m] at h1
        · exact h1
        · show turnG l (G.take (k + 1)) (m : Int) = _
          rw [HST.out, if_pos HM.out.symm]
        · intro n hn
          show turnG l (G.take (k + 1)) (n : Int) = _
          rw [HST.out, if_neg (by rw [HM.out]; omega)]
      case measure => simp [intOf]; omega
    · have hkl : k = G.length := by omega
      subst hkl
      rw [List.take_length] at hH
      have HT2 : Hid (HoldsP wr w1.heap.size (tabL fun n => turnT l G (H.take 0) n)) := hH
      clear hH HH
      go_wp2
      rename World => W5
      go_loopw [26] (fun x W => ∃ k : Nat, k ≤ H.length ∧ x = .int .i64 k ∧ HoldsP W w1.heap.size (tabL fun n => turnT l G (H.take k) n) ∧ Below w1.heap.size W2 W) (fun x _ => H.length - (intOf x).toNat)
      case atStart => exact ⟨0, by omega, rfl, HT2.out, hb⟩
      case round =>
        obtain ⟨k, hk', rfl, hH, hb2⟩ := hrel
        clear hb HT2
        have HH : Hid (HoldsP wr w1.heap.size (tabL fun n => turnT l G (H.take k) n)) := hH
        have hlt2 : w1.heap.size < wr.heap.size := by have := hb2.size; omega
        by_cases hlt : k < H.length
        · have hbw : Below w.heap.size w wr := HB1.out.trans (hb2.mono hsz1)
          have hPW : SlP wr aH H := HPH.out.below hbw
          rcases hPW with h' | ⟨b, off, rfl, hbl, hp⟩
          · exact absurd hlt (by simp [h'])
          have hr := HHR.out H[k] (List.getElem_mem hlt)
          have HST : Hid (∀ n : Nat, turnT l G (H.take (k + 1)) n = if (n : Int) = H[k].1 then H[k] else turnT l G (H.take k) n) := fun n => Orangery.turnT_take l G H k hlt n
          obtain ⟨g0, g1, g2⟩ := hp k hlt
          obtain ⟨m, hm⟩ : ∃ m : Nat, H[k].1 = m := ⟨H[k].1.toNat, by omega⟩
          have hm16 : m < 16 := by omega
          have hc := hH.1 m (by rw [tabL_len]; exact hm16)
          simp only [Nat.zero_add] at hc
          obtain ⟨x0, x1, x2⟩ := hc
          have f0 := hH.2 (m * 3) (by rw [tabL_len]; omega)
          have f1 := hH.2 (m * 3 + 1) (by rw [tabL_len]; omega)
          have f2 := hH.2 (m * 3 + 2) (by rw [tabL_len]; omega)
          rw [hm] at g0
          have HM : Hid (H[k].1 = m) := hm
          clear hH hm hr hp
          go_wp2
          go_roundw
          case rel =>
            have h1 := HH.out.set m (by rw [tabL_len]; exact hm16) ((m : Int), H[k].2.1, H[k].2.2)
            rw [tabL_set _ (fun n => turnT l G (H.take (k + 1)) n) m] at h1
            · exact ⟨k + 1, by omega, by go_num, h1.below (by simpa using hlt2) (Go.Joins.below_alloc1 _ _), (((hb2.setCell (by show _ ≤ w1.heap.size; omega) _).setCell (by show _ ≤ w1.heap.size; omega) _).setCell (by show _ ≤ w1.heap.size; omega) _).alloc (by simp; omega) _⟩
            · show turnT l G (H.take (k + 1)) (m : Int) = _
              rw [HST.out, if_pos HM.out.symm, ← HM.out]
            · intro n hn
              show turnT l G (H.take (k + 1)) (n : Int) = _
              rw [HST.out, if_neg (by rw [HM.out]; omega)]
          case measure => simp [intOf]; omega
        · have hkl : k = H.length := by omega
          subst hkl
          rw [List.take_length] at hH
          have HRG : Hid (wr.rangeAt w1.heap.size 0 ((tabL fun n => turnT l G H n).flatMap encPl)) := hH.range
          have HI : Hid ((Tryz.prog.info? 100).map (·.size) = some ((tabL fun n => turnT l G H n).flatMap encPl).length) := by show _ = _; rw [infoTable, flat_len, tabL_len]
          have HPL : Hid (Calls Tryz.prog 68 #[.agg ((tabL fun n => turnT l G H n).flatMap encPl).toArray] wr fun e w' => ∃ v, e = .returned v ∧ OwnS w' wr.heap.size v (rows (fun n => turnT l G H n) 16) ∧ Below wr.heap.size wr w') := places_any wr _
          have HBR : Hid (Below w.heap.size w wr) := HB1.out.trans (hb2.mono hsz1)
          clear hH HH
          generalize (tabL fun n => turnT l G H n).flatMap encPl = cs2 at *
          go_wp2_with (first | (refine wpList_load_mid rfl 100 _ rfl w1.heap.size 0 rfl cs2 _ HRG.out Tryz.underlying100 rfl HI.out ?_))
          refine HPL.out.mono ?_
          rintro e w7 ⟨v7, rfl, hO7, hb7⟩
          rw [HRW.out] at hO7
          have HO : Hid (OwnS w7 w.heap.size v7 (appL l G H)) := hO7.mono HBR.out.size
          have HBF : Hid (Below w.heap.size w w7) := HBR.out.trans (hb7.mono HBR.out.size)
          clear hO7 hb7 hb2
          go_wp2
          go_ret
          exact ⟨_, rfl, HO.out, HBF.out⟩
end Go.Proofs.YtijjiccgpobjmaeGreat

/- Slices that are elder, or newer, than a block that is written. -/
namespace Go.Proofs.YtijjiccgpobjmaeGreat
open Go.ChangeShapes Go.WideShapes Go.ChangeAt Go.RowKit
open Orangery (Pl)

theorem SlP.elder {W w : World} {a : Option Addr} {l : List Pl} {g : Nat} (h0 : SlP W a l) (h : SlP w a l) (hg : W.heap.size ≤ g) : ∀ (us : List Value) (o : Nat), SlP (w.setCells g o us) a l := by
  rcases h0 with rfl | ⟨b, off, rfl, hlt, _⟩
  · exact fun _ _ => Or.inl rfl
  · intro us
    induction us generalizing w with
    | nil => intro o; exact h
    | cons u us ih => intro o; exact ih (h.other g (fun b' off' e => by simp at e; omega) o u) (o + 1)
theorem SlI.elder {W w : World} {a : Option Addr} {l : List Int} {g : Nat} (h0 : SlI W a l) (h : SlI w a l) (hg : W.heap.size ≤ g) (us : List Value) (o : Nat) : SlI (w.setCells g o us) a l := by
  refine h.others g (fun hn b off e => ?_) us o
  rcases h0 with h0 | ⟨b', off', e', hlt, _⟩
  · exact absurd h0 hn
  · rw [e] at e'
    simp at e'
    omega
theorem SlI.fresh {w : World} {a : Option Addr} {l : List Int} {B g : Nat} (h : SlI w a l) (hf : Fresh B a) (hg : g < B) (us : List Value) (o : Nat) : SlI (w.setCells g o us) a l :=
  h.others g (fun _ b off e => by have := hf b off e; omega) us o
end Go.Proofs.YtijjiccgpobjmaeGreat

