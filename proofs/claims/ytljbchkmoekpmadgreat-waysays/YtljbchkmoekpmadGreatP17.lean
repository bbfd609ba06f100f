/- 2 texts of the proof: Mail checked, by the reference. An append in a region that draws its order. -/
import Derived.Laws.AppendOwn
import Derived.Test.YtljbchkmoekpmadGreatP10
import Derived.Test.YtljbchkmoekpmadGreatP09
import Derived.Test.YtljbchkmoekpmadGreatP16
import Derived.Test.YtljbchkmoekpmadGreatP08
/- Mail checked, by the reference. -/
namespace Go.Proofs.YtljbchkmoekpmadGreat
open Go.ChangeShapes Go.WideShapes Go.ChangeAt Go.RowKit
open Orangery (Pl Mv Vw Dl Ml noVw noDl noMl noV noD viewME deltaME viewE deltaE opUse seeUse seeRange ml1E mlsE mlE sameV sameD noOp checkOp)

theorem wrap_small {z : Int} (h0 : 0 ≤ z) (h1 : z ≤ 9223372036854775807) : wrap64 z = z := by unfold wrap64; omega
theorem sums3 (a b c : Nat) (h1 : a ≤ 17592186043904) (h2 : b ≤ 17592186043904) (h3 : c ≤ 17592186043904) : wrap64 ((a : Int) + b) = (a : Int) + b ∧ wrap64 ((a : Int) + b + c) = (a : Int) + b + c :=
  ⟨wrap_small (by omega) (by omega), wrap_small (by omega) (by omega)⟩
theorem sums4 (a b c d : Nat) (h1 : a ≤ 17592186043904) (h2 : b ≤ 17592186043904) (h3 : c ≤ 17592186043904) (h4 : d ≤ 17592186043904) : wrap64 ((a : Int) + b) = (a : Int) + b ∧ wrap64 ((a : Int) + b + c) = (a : Int) + b + c ∧ wrap64 ((a : Int) + b + c + d) = (a : Int) + b + c + d :=
  ⟨wrap_small (by omega) (by omega), wrap_small (by omega) (by omega), wrap_small (by omega) (by omega)⟩
theorem ml1_kind {m : Ml} (h : ¬ (1 ≤ m.1.1 ∧ m.1.1 ≤ 3)) : ml1E m = 4 := by unfold ml1E; rw [if_pos h]
theorem ml1_who {m : Ml} (h1 : 1 ≤ m.1.1 ∧ m.1.1 ≤ 3) (h : ¬ (0 ≤ m.1.2.1 ∧ m.1.2.1 ≤ 2)) : ml1E m = 5 := by unfold ml1E; rw [if_neg (by simp [h1]), if_pos h]
theorem ml1_op {m : Ml} (h : 0 ≤ m.1.2.1 ∧ m.1.2.1 ≤ 2) (hk : m.1.1 = 1) : ml1E m = if opUse m = true then checkOp m.2.1 else 4 := by
  unfold ml1E
  rw [if_neg (by omega), if_neg (by omega), if_pos hk]
theorem ml1_see {m : Ml} (h1 : 1 ≤ m.1.1 ∧ m.1.1 ≤ 3) (h : 0 ≤ m.1.2.1 ∧ m.1.2.1 ≤ 2) (hk : m.1.1 ≠ 1) : ml1E m = if seeUse m = false then 4 else if seeRange m = false then 3 else if m.1.1 = 3 then deltaME m.2.2.2 else viewME m.2.2.1 := by
  unfold ml1E
  rw [if_neg (by omega), if_neg (by omega), if_neg hk]
theorem mlsE_first {l : List Ml} {k : Nat} (hk : k < l.length) (h1 : ∀ j, (hj : j < l.length) → j < k → ml1E l[j] = 0) (h2 : ml1E l[k] ≠ 0) : mlsE l = ml1E l[k] := by
  induction l generalizing k with
  | nil => simp at hk
  | cons x l ih =>
    cases k with
    | zero => show (if ml1E x ≠ 0 then ml1E x else mlsE l) = ml1E x; exact if_pos h2
    | succ k =>
      have h0 := h1 0 (by simp) (by omega)
      show (if ml1E x ≠ 0 then ml1E x else mlsE l) = _
      have h0' : ml1E x = 0 := h0
      rw [if_neg (by simp [h0'])]
      exact ih (by simpa using hk) (fun j hj hjk => h1 (j + 1) (by simpa using hj) (by omega)) h2
theorem mlsE_none {l : List Ml} (h1 : ∀ j, (hj : j < l.length) → ml1E l[j] = 0) : mlsE l = 0 := by
  induction l with
  | nil => rfl
  | cons x l ih =>
    show (if ml1E x ≠ 0 then ml1E x else mlsE l) = 0
    have h0 : ml1E x = 0 := h1 0 (by simp)
    rw [if_neg (by simp [h0])]
    exact ih (fun j hj => h1 (j + 1) (by simpa using hj))
theorem mail_at {X : List Mm} {l : List Ml} (e : X.map (·.1) = l) (k : Nat) (hk : k < X.length) : ∃ h : k < l.length, l[k] = X[k].1 := by
  subst e
  exact ⟨by simpa using hk, by simp⟩
theorem noV_len {R : List Int} {K V : List Pl} : decide (0 < (R.length : Int) + K.length + V.length) = !noV (R, K, V) := by
  unfold noV
  cases R <;> cases K <;> cases V <;> simp <;> omega
theorem noD_len {G : List Int} {H : List Pl} {X : List Int} {Y : List Pl} : decide (0 < (G.length : Int) + H.length + X.length + Y.length) = !noD (G, H, X, Y) := by
  unfold noD
  cases G <;> cases H <;> cases X <;> cases Y <;> simp <;> omega

set_option maxHeartbeats 16000000 in
set_option maxRecDepth 100000 in
theorem rcheckMail_any (w : World) (a : Option Addr) (c : Nat) (X : List Mm) (l : List Ml) (hl : X.map (·.1) = l) (hm : X.length ≤ maxLen) (hX : SlM w a X) :
    Calls Tryz.prog 31 #[.slice a X.length c] w fun e w' => e = .returned (.int .i64 (mlE l)) ∧ Below w.heap.size w w' := by
  have hm' : X.length ≤ 9223372036854775807 := hm
  have HX := Lib.hid hX
  have HAT : Hid (∀ k, (hk : k < X.length) → ∃ hp : k < l.length, l[k] = X[k].1) := fun k hk => mail_at hl k hk
  have HLL : Hid (X.length = l.length) := by show _ = _; rw [← hl]; simp
  clear hX hl hm
  by_cases hbig : 30 < X.length
  · have HE : Hid (mlE l = 2) := by show _ = _; unfold mlE; rw [if_pos (by have := HLL.out; omega)]
    have d1 : decide ((X.length : Int) > 30) = true := by simp; omega
    go_enter Tryz.func31, Tryz.ntmps31
    go_wp2
    go_ret
    exact ⟨ret_int HE.out.symm, Below.refl _ _⟩
  have HE0 : Hid (mlE l = mlsE l) := by show _ = _; unfold mlE; rw [if_neg (by have := HLL.out; omega)]
  have d1 : decide ((X.length : Int) > 30) = false := by simp; omega
  clear hbig
  go_enter Tryz.func31, Tryz.ntmps31
  go_wp2
  clear d1
  go_loopw [15] (fun i W => ∃ k : Nat, k ≤ X.length ∧ i = .int .i64 k ∧ (∀ j, (hj : j < l.length) → j < k → ml1E l[j] = 0) ∧ Below w.heap.size w W) (fun i _ => X.length - (intOf i).toNat)
  case atStart => exact ⟨0, Nat.zero_le _, rfl, fun j _ hj => absurd hj (Nat.not_lt_zero _), Below.refl _ _⟩
  case round =>
    obtain ⟨j, hj, rfl, hno, hb⟩ := hrel
    have HNO := Lib.hid hno
    have HBr := Lib.hid hb
    clear hno hb
    by_cases hlt : j < X.length
    case neg =>
      have HE : Hid (mlsE l = 0) := mlsE_none (fun i hi => HNO.out i hi (by have := HLL.out; omega))
      clear HNO
      go_wp2
      go_ret
      exact ⟨ret_int (by rw [HE0.out, HE.out]), HBr.out⟩
    have hXr := HX.out.keep HBr.out
    obtain ⟨hp, hpe⟩ := HAT.out j hlt
    obtain ⟨bx, ox, rfl, hbx, hrx⟩ := hXr.reads.at mlC_len j hlt
    have HRX := Lib.hid (hXr.each _ (List.getElem_mem hlt))
    have HFI : Hid (∀ E, ml1E X[j].1 = E → E ≠ 0 → mlE l = E) := by
      intro E e he
      rw [← hpe] at e
      rw [HE0.out, mlsE_first hp HNO.out (by rw [e]; exact he), e]
    have HNX : Hid (ml1E X[j].1 = 0 → ∀ i, (hi : i < l.length) → i < j + 1 → ml1E l[i] = 0) := by
      intro e i hi hij
      by_cases hij' : i < j
      · exact HNO.out i hi hij'
      · have : i = j := by omega
        subst this
        rw [← hpe] at e
        exact e
    have HRG : Hid (wr.rangeAt bx (ox + j * 21) (mlC X[j])) := hrx
    clear hrx hXr hpe HNO HE0
    have hlti : (j : Int) < (X.length : Int) := by omega
    generalize X[j] = x at *
    obtain ⟨⟨⟨k, u, f, s, t, n, pp⟩, o, ⟨R, K, V⟩, ⟨G, H, X, Y⟩⟩, ⟨⟨aR, cR⟩, ⟨aK, cK⟩, ⟨aV, cV⟩⟩, ⟨aG, cG⟩, ⟨aH, cH⟩, ⟨aX, cX⟩, ⟨aY, cY⟩⟩ := x
    simp only at HFI HNX
    obtain ⟨x9, hx9⟩ : ∃ z : Mm, z = (((k, u, f, s, t, n, pp), o, (R, K, V), (G, H, X, Y)), ((aR, cR), (aK, cK), (aV, cV)), (aG, cG), (aH, cH), (aX, cX), (aY, cY)) := ⟨_, rfl⟩
    rw [← hx9] at HRG
    have HI1 := Lib.hid (sizeMailC x9)
    have HS1 : Hid ((Tryz.prog.info? 74).map (·.size) = some (mlC x9).toArray.size) := sizeMail
    have HO1 : Hid ((mlC x9).toArray.all (·.oneCell') = true) := all_oneCell_toArray (mlC_one x9)
    have hl1 : zeroMail.length = 21 := rfl
    have hl2 := mlC_len x9
    have HKS : Hid (mlC x9 = [Value.int .i64 k, .int .i64 u, .int .i64 f, .int .i64 s, .int .i64 t, .int .i64 n, .int .i64 pp, .int .i64 o.1, .int .i64 o.2.1, .int .i64 o.2.2.1.1, .int .i64 o.2.2.1.2.1, .int .i64 o.2.2.1.2.2, .int .i64 o.2.2.2.1, .int .i64 o.2.2.2.2, .slice aR R.length cR, .slice aK K.length cK, .slice aV V.length cV, .slice aG G.length cG, .slice aH H.length cH, .slice aX X.length cX, .slice aY Y.length cY]) := by show _ = _; rw [hx9]; rfl
    have HZZ : Hid (zeroMail.toArray = #[Value.int .i64 0, .int .i64 0, .int .i64 0, .int .i64 0, .int .i64 0, .int .i64 0, .int .i64 0, .int .i64 0, .int .i64 0, .int .i64 0, .int .i64 0, .int .i64 0, .int .i64 0, .int .i64 0, .slice none 0 0, .slice none 0 0, .slice none 0 0, .slice none 0 0, .slice none 0 0, .slice none 0 0, .slice none 0 0]) := rfl
    clear hx9
    generalize mlC x9 = cx at *
    generalize zeroMail = zc at *
    have hN1 := Blk.new wr zc 74
    have hB1 := Go.Joins.below_alloc1 wr (Obj.cells zc.toArray 74)
    have HT1 : Hid ((wr.alloc (Obj.cells zc.toArray 74)).there wr.heap.size 0 cx.toArray.size) := by show World.there _ _ _ _; have := hN1.there; rw [hl1] at this; simpa [hl2] using this
    have hN2 := hN1.sets cx (by rw [hl1, hl2])
    have hB2 : Below wr.heap.size wr ((wr.alloc (Obj.cells zc.toArray 74)).setCells wr.heap.size 0 cx) := below_sets hB1 wr.heap.size (Nat.le_refl _) cx 0
    have hx0 : ((wr.alloc (Obj.cells zc.toArray 74)).setCells wr.heap.size 0 cx).cell? ⟨wr.heap.size, 0, none⟩ = some (.int .i64 k) := by rw [HKS.out] at hN2 ⊢; exact hN2.at 0 rfl
    rw [HZZ.out] at HT1 hN2 hB2 hx0
    clear hN1 hB1 HZZ hl1 hl2
    go_wp2_with (first | (refine wpList_load_mid rfl 74 _ rfl bx (ox + j * 21) rfl cx _ HRG.out Tryz.underlying74 rfl HI1.out ?_) | (with_reducible refine at_store 74 ?_; refine wpList_store_mid rfl 74 _ _ rfl wr.heap.size 0 cx.toArray rfl rfl HT1.out HS1.out HO1.out ?_) | fail)
    clear HT1 HS1 HO1 HI1 HRG hx0
    generalize ((wr.alloc (Obj.cells #[Value.int .i64 0, .int .i64 0, .int .i64 0, .int .i64 0, .int .i64 0, .int .i64 0, .int .i64 0, .int .i64 0, .int .i64 0, .int .i64 0, .int .i64 0, .int .i64 0, .int .i64 0, .int .i64 0, .slice none 0 0, .slice none 0 0, .slice none 0 0, .slice none 0 0, .slice none 0 0, .slice none 0 0, .slice none 0 0] 74)).setCells wr.heap.size 0 cx) = W1 at *
    rw [HKS.out] at hN2
    have hN := hN2
    have HB1 := Lib.hid (HBr.out.trans (hB2.mono HBr.out.size))
    have HXI := Lib.hid (HRX.out.keep hB2)
    clear hB2 HRX HBr hN2 HKS
    have x0 := hN.at 0 rfl
    have x1 := hN.at 1 rfl
    refine (rin_any _ k 1 3).mono ?_
    rintro e w2 ⟨rfl, rfl⟩
    by_cases hk : 1 ≤ k ∧ k ≤ 3
    case neg =>
      have d1 : inB k 1 3 = false := by simp [inB]; omega
      have HE := Lib.hid (HFI.out 4 (ml1_kind (m := ((k, u, f, s, t, n, pp), o, (R, K, V), (G, H, X, Y))) hk) (by omega))
      rw [d1]
      clear hk d1 HFI HNX x0 x1 hN
      go_wp2
      go_ret
      exact ⟨ret_int HE.out.symm, HB1.out⟩
    have d1 : inB k 1 3 = true := by simp [inB]; omega
    rw [d1]
    have HK := Lib.hid hk
    clear hk d1
    go_wp2_with fail
    refine (rin_any _ u 0 2).mono ?_
    rintro e w2 ⟨rfl, rfl⟩
    by_cases hu : 0 ≤ u ∧ u ≤ 2
    case neg =>
      have d1 : inB u 0 2 = false := by simp [inB]; omega
      have HE := Lib.hid (HFI.out 5 (ml1_who (m := ((k, u, f, s, t, n, pp), o, (R, K, V), (G, H, X, Y))) HK.out hu) (by omega))
      rw [d1]
      clear hu d1 HFI HNX x0 x1 hN
      go_wp2
      go_ret
      exact ⟨ret_int HE.out.symm, HB1.out⟩
    have d1 : inB u 0 2 = true := by simp [inB]; omega
    rw [d1]
    have HU := Lib.hid hu
    clear hu d1
    obtain ⟨bv, hbv⟩ : ∃ b, noV (R, K, V) = b := ⟨_, rfl⟩
    obtain ⟨bd, hbd⟩ : ∃ b, noD (G, H, X, Y) = b := ⟨_, rfl⟩
    have hV := @noV_len R K V
    have hD := @noD_len G H X Y
    rw [hbv] at hV
    rw [hbd] at hD
    have HBV := Lib.hid hbv
    have HBD := Lib.hid hbd
    have q1 : R.length ≤ 17592186043904 := HXI.out.few.1
    have q2 : K.length ≤ 17592186043904 := HXI.out.few.2.1
    have q3 : V.length ≤ 17592186043904 := HXI.out.few.2.2.1
    have q4 : G.length ≤ 17592186043904 := HXI.out.few.2.2.2.1
    have q5 : H.length ≤ 17592186043904 := HXI.out.few.2.2.2.2.1
    have q6 : X.length ≤ 17592186043904 := HXI.out.few.2.2.2.2.2.1
    have q7 : Y.length ≤ 17592186043904 := HXI.out.few.2.2.2.2.2.2
    obtain ⟨p1, p2⟩ := sums3 R.length K.length V.length q1 q2 q3
    obtain ⟨p3, p4, p5⟩ := sums4 G.length H.length X.length Y.length q4 q5 q6 q7
    clear hbv hbd q1 q2 q3 q4 q5 q6 q7
    have x14 := hN.at 14 rfl
    have x15 := hN.at 15 rfl
    have x16 := hN.at 16 rfl
    have x17 := hN.at 17 rfl
    have x18 := hN.at 18 rfl
    have x19 := hN.at 19 rfl
    have x20 := hN.at 20 rfl
    go_upto_region 12 with fail
    clear hV hD p1 p2 p3 p4 p5 x14 x15 x16 x17 x18 x19 x20
    obtain ⟨pb, hpb⟩ : ∃ b : Bool, (decide (f = 0) && decide (s = 0) && decide (t = 0) && decide (n = 0)) = b := ⟨_, rfl⟩
    have HPB := Lib.hid hpb
    clear hpb
    have x2 := hN.at 2 rfl
    have x3 := hN.at 3 rfl
    have x4 := hN.at 4 rfl
    have x5 := hN.at 5 rfl
    go_cut [7] from 62 to 79 (fun v wc => v = .bool (!pb) ∧ w2 = wc)
    case first =>
      by_cases e2 : f = 0
      case neg =>
        have d1 : (f != 0) = true := by simpa using e2
        go_wp2
        go_meet
        case rel => exact ⟨by rw [← HPB.out]; simp [e2], rfl⟩
      have d2 : (f != 0) = false := by simpa using e2
      by_cases e3 : s = 0
      case neg =>
        have d1 : (s != 0) = true := by simpa using e3
        have E3 := Lib.hid e3
        clear e2 e3
        go_wp2
        go_meet
        case rel => exact ⟨by rw [← HPB.out]; simp [E3.out], rfl⟩
      have d3 : (s != 0) = false := by simpa using e3
      by_cases e4 : t = 0
      case neg =>
        have d1 : (t != 0) = true := by simpa using e4
        have E4 := Lib.hid e4
        clear e2 e3 e4
        go_wp2
        go_meet
        case rel => exact ⟨by rw [← HPB.out]; simp [E4.out], rfl⟩
      have d4 : (t != 0) = false := by simpa using e4
      have E := Lib.hid (And.intro e2 (And.intro e3 e4))
      by_cases e5 : n = 0
      · have d1 : (n != 0) = false := by simpa using e5
        have E5 := Lib.hid e5
        clear e2 e3 e4 e5
        go_wp2
        go_meet
        case rel => exact ⟨by rw [← HPB.out]; simp [E.out.1, E.out.2.1, E.out.2.2, E5.out], rfl⟩
      · have d1 : (n != 0) = true := by simpa using e5
        have E5 := Lib.hid e5
        clear e2 e3 e4 e5
        go_wp2
        go_meet
        case rel => exact ⟨by rw [← HPB.out]; simp [E5.out], rfl⟩
    case rest =>
      obtain ⟨rfl, hwc⟩ := hcut
      subst hwc
      clear x2 x3 x4 x5
      obtain ⟨sb, hsb⟩ : ∃ b : Bool, (decide (k = 1) && !opUse ((k, u, f, s, t, n, pp), o, (R, K, V), (G, H, X, Y))) = b := ⟨_, rfl⟩
      have HSB := Lib.hid hsb
      have HOU : Hid (opUse ((k, u, f, s, t, n, pp), o, (R, K, V), (G, H, X, Y)) = (pb && decide (pp = 0) && bv && bd && decide (o.2.1 = u))) := by
        show _ = _
        rw [← HPB.out, ← HBV.out, ← HBD.out]
        rfl
      clear hsb
      rename World => W2
      have x6 := hN.at 6 rfl
      have x8 := hN.at 8 rfl
      go_upto_region 13 with fail
      go_cut [80] from 81 to 106 (fun v wc => v = .bool sb ∧ W2 = wc)
      case first =>
        by_cases e1 : k = 1
        case neg =>
          have d1 : (k == 1) = false := by simpa using e1
          have HS : Hid (sb = false) := by show _ = _; rw [← HSB.out]; simp [e1]
          clear e1
          go_wp2
          go_meet
          case rel => exact ⟨by rw [HS.out], rfl⟩
        have d1 : (k == 1) = true := by simpa using e1
        have HS : Hid (sb = !(pb && decide (pp = 0) && bv && bd && decide (o.2.1 = u))) := by show _ = _; rw [← HSB.out, HOU.out]; simp [e1]
        clear e1
        cases hp : pb
        case false =>
          rw [hp] at HS
          subst hp
          go_wp2
          go_meet
          case rel => exact ⟨by rw [HS.out]; rfl, rfl⟩
        rw [hp] at HS
        subst hp
        by_cases e2 : pp = 0
        case neg =>
          have d2 : (pp != 0) = true := by simpa using e2
          have HS2 : Hid (sb = true) := by show _ = _; rw [HS.out]; simp [e2]
          clear e2
          go_wp2
          go_meet
          case rel => exact ⟨by rw [HS2.out], rfl⟩
        have d2 : (pp != 0) = false := by simpa using e2
        have HS2 : Hid (sb = !(bv && bd && decide (o.2.1 = u))) := by show _ = _; rw [HS.out]; simp [e2]
        clear e2 HS
        cases hp : bv
        case false =>
          rw [hp] at HS2
          subst hp
          go_wp2
          go_meet
          case rel => exact ⟨by rw [HS2.out]; rfl, rfl⟩
        rw [hp] at HS2
        subst hp
        cases hp : bd
        case false =>
          rw [hp] at HS2
          subst hp
          go_wp2
          go_meet
          case rel => exact ⟨by rw [HS2.out]; rfl, rfl⟩
        rw [hp] at HS2
        subst hp
        by_cases e3 : o.2.1 = u
        · have d3 : (o.2.1 != u) = false := by simpa using e3
          have HS3 : Hid (sb = false) := by show _ = _; rw [HS2.out]; simp [e3]
          clear e3
          go_wp2
          go_meet
          case rel => exact ⟨by rw [HS3.out], rfl⟩
        · have d3 : (o.2.1 != u) = true := by simpa using e3
          have HS3 : Hid (sb = true) := by show _ = _; rw [HS2.out]; simp [e3]
          clear e3
          go_wp2
          go_meet
          case rel => exact ⟨by rw [HS3.out], rfl⟩
      case rest =>
      obtain ⟨rfl, hwc⟩ := hcut
      subst hwc
      clear x6 x8 HOU HPB
      cases hp : sb
      case true =>
        have HE : Hid (mlE l = 4) := by
          have h1 := HSB.out
          rw [hp] at h1
          simp only [Bool.and_eq_true, decide_eq_true_eq, Bool.not_eq_true'] at h1
          refine HFI.out 4 ?_ (by decide)
          rw [ml1_op HU.out h1.1, h1.2]
          rfl
        subst hp
        clear HFI HNX x0 x1 hN
        go_wp2
        go_ret
        exact ⟨ret_int HE.out.symm, HB1.out⟩
      have HSF : Hid (k = 1 → opUse ((k, u, f, s, t, n, pp), o, (R, K, V), (G, H, X, Y)) = true) := by
        intro hk
        have h1 := HSB.out
        rw [hp] at h1
        simpa [hk] using h1
      subst hp
      clear HSB
      by_cases e1 : k = 1
      case pos =>
        have d1 : (k == 1) = true := by simpa using e1
        have HM1 : Hid (ml1E ((k, u, f, s, t, n, pp), o, (R, K, V), (G, H, X, Y)) = checkOp o) := by
          show _ = _
          rw [ml1_op HU.out e1, if_pos (HSF.out e1)]
        clear e1
        have x7 := hN.at 7 rfl
        have x8 := hN.at 8 rfl
        have x9 := hN.at 9 rfl
        have x10 := hN.at 10 rfl
        have x11 := hN.at 11 rfl
        have x12 := hN.at 12 rfl
        have x13 := hN.at 13 rfl
        go_wp2_with fail
        refine (refCheckOp_any _ o).mono ?_
        rintro e w3 ⟨rfl, hb3⟩
        have HB3 := Lib.hid (HB1.out.trans (hb3.mono HB1.out.size))
        clear hb3 x0 x1 x7 x8 x9 x10 x11 x12 x13 hN
        by_cases hc : checkOp o = 0
        case neg =>
          have HE := Lib.hid (HFI.out _ HM1.out hc)
          have dc : (checkOp o != 0) = true := by simpa using hc
          clear hc HFI HNX
          generalize checkOp o = ec at *
          go_wp2
          go_ret
          exact ⟨ret_int HE.out.symm, HB3.out⟩
        have HN9 := Lib.hid (HNX.out (HM1.out.trans hc))
        rw [hc]
        clear hc HFI HNX
        go_wp2
        go_roundw
        case rel => exact ⟨j + 1, hlt, by go_num, HN9.out, HB3.out⟩
        case measure => simp [intOf]; omega
      have d1 : (k == 1) = false := by simpa using e1
      have HM1 := Lib.hid (ml1_see (m := ((k, u, f, s, t, n, pp), o, (R, K, V), (G, H, X, Y))) HK.out HU.out e1)
      clear e1 HSF
      obtain ⟨su, hsu⟩ : ∃ b : Bool, seeUse ((k, u, f, s, t, n, pp), o, (R, K, V), (G, H, X, Y)) = b := ⟨_, rfl⟩
      have HSU : Hid (su = (decide (o = noOp) && (!decide (k = 2) || (decide (pp = 0) && bd)) && (!decide (k = 3) || bv))) := by
        show _ = _
        rw [← hsu, ← HBV.out, ← HBD.out]
        rfl
      rw [hsu] at HM1
      have HF4 : Hid (su = false → mlE l = 4) := fun h => HFI.out 4 (by rw [HM1.out, h]; rfl) (by decide)
      clear hsu
      obtain ⟨bo, hbo⟩ : ∃ b : Bool, b = decide (o = noOp) := ⟨_, rfl⟩
      have hq : ∀ w, (binOp .neq 35 (opV o) (.agg #[.int .i64 0, .int .i64 0, .int .i64 0, .int .i64 0, .int .i64 0, .int .i64 0, .int .i64 0])).run Tryz.prog w = .ok (.bool (!bo)) w := by
        intro w
        rw [hbo]
        exact run_neq_opg o noOp w
      rw [← hbo] at HSU
      clear hbo
      have hgd := guard_op
      have x7 := hN.at 7 rfl
      have x8 := hN.at 8 rfl
      have x9 := hN.at 9 rfl
      have x10 := hN.at 10 rfl
      have x11 := hN.at 11 rfl
      have x12 := hN.at 12 rfl
      have x13 := hN.at 13 rfl
      cases hp : bo
      case false =>
        have HE := Lib.hid (HF4.out (by rw [HSU.out, hp]; rfl))
        subst hp
        clear HFI HNX HF4 HSU HM1 hN x1
        go_wp2

        go_ret
        exact ⟨ret_int HE.out.symm, HB1.out⟩
      have HSU2 : Hid (su = ((!decide (k = 2) || (decide (pp = 0) && bd)) && (!decide (k = 3) || bv))) := by show _ = _; rw [HSU.out, hp, Bool.true_and]
      subst hp
      clear HSU
      go_upto_region 20 with fail
      clear hq hgd x7 x8 x9 x10 x11 x12 x13
      have x6 := hN.at 6 rfl
      have hk23 : k = 2 ∨ k = 3 := by
        have h3 := HK.out
        have h2 : ¬ k = 1 := by
          intro h
          rw [h] at d1
          simp at d1
        omega
      cases hp : su
      case false =>
        have HE := Lib.hid (HF4.out hp)
        subst hp
        clear HFI HNX HF4 HM1 hN x1
        rcases hk23 with hk | hk
        · have d2 : (k == 2) = true := by simpa using hk
          by_cases hpp : pp = 0
          · have d3 : (pp != 0) = false := by simpa using hpp
            have hbd : bd = false := by
              have h1 := HSU2.out
              rw [hk, hpp] at h1
              simpa using h1.symm
            clear hk hpp HSU2
            subst hbd
            go_wp2
            go_ret
            exact ⟨ret_int HE.out.symm, HB1.out⟩
          · have d3 : (pp != 0) = true := by simpa using hpp
            clear hk hpp HSU2
            go_wp2
            go_ret
            exact ⟨ret_int HE.out.symm, HB1.out⟩
        · have d2 : (k == 2) = false := by simp; omega
          have d3 : (k == 3) = true := by simpa using hk
          have hbv : bv = false := by
            have h1 := HSU2.out
            rw [hk] at h1
            simpa using h1.symm
          clear hk HSU2
          subst hbv
          go_wp2
          go_ret
          exact ⟨ret_int HE.out.symm, HB1.out⟩
      rw [hp] at HM1 HSU2
      subst hp
      clear HF4
      go_cut [117] from 118 to 132 (fun v wc => v = .bool false ∧ W2 = wc)
      case first =>
        rcases hk23 with hk | hk
        · have d2 : (k == 2) = true := by simpa using hk
          have h1 := HSU2.out
          rw [hk] at h1
          simp at h1
          have d3 : (pp != 0) = false := by simpa using h1.1
          have hbd : bd = true := h1.2
          clear hk h1 HSU2
          subst hbd
          go_wp2
          go_meet
          case rel => exact ⟨rfl, rfl⟩
        · have d2 : (k == 2) = false := by simp; omega
          clear hk HSU2
          go_wp2
          go_meet
          case rel => exact ⟨rfl, rfl⟩
      case rest =>
      obtain ⟨rfl, hwc⟩ := hcut
      subst hwc
      clear x6
      rename World => W2
      go_upto_region 21 with fail
      go_cut [117] from 133 to 138 (fun v wc => v = .bool false ∧ W2 = wc)
      case first =>
        rcases hk23 with hk | hk
        · have d2 : (k == 3) = false := by simp; omega
          clear hk HSU2
          go_wp2
          go_meet
          case rel => exact ⟨rfl, rfl⟩
        · have d2 : (k == 3) = true := by simpa using hk
          have h1 := HSU2.out
          rw [hk] at h1
          simp at h1
          have hbv : bv = true := h1
          clear hk h1 HSU2
          subst hbv
          go_wp2
          go_meet
          case rel => exact ⟨rfl, rfl⟩
      case rest =>
      obtain ⟨rfl, hwc⟩ := hcut
      subst hwc
      clear HSU2
      rename World => W2
      obtain ⟨sr, hsr⟩ : ∃ b : Bool, seeRange ((k, u, f, s, t, n, pp), o, (R, K, V), (G, H, X, Y)) = b := ⟨_, rfl⟩
      have HSR : Hid (sr = (inB f 1 50 && inB s 0 30 && inB t 0 10000 && inB n 1 60 && inB pp 0 (n - 1))) := by
        show _ = _
        rw [← hsr]
        have h1 : decide (0 ≤ pp ∧ pp < n) = decide (0 ≤ pp ∧ pp ≤ n - 1) := by
          by_cases h : 0 ≤ pp ∧ pp < n
          · rw [decide_eq_true h, decide_eq_true (by omega)]
          · rw [decide_eq_false h, decide_eq_false (by omega)]
        show (_ && decide (0 ≤ pp ∧ pp < n)) = _
        rw [h1]
        rfl
      rw [hsr] at HM1
      clear hsr
      have x2 := hN.at 2 rfl
      have x3 := hN.at 3 rfl
      have x4 := hN.at 4 rfl
      have x5 := hN.at 5 rfl
      have x6 := hN.at 6 rfl
      go_upto_region 23 with fail
      go_cut [139] from 140 to 170 (fun v wc => v = .bool (!sr) ∧ W2 = wc)
      case first =>
        go_wp2_with fail
        refine (rin_any _ f 1 50).mono ?_
        rintro e w9 ⟨rfl, rfl⟩
        obtain ⟨b1, hb1⟩ : ∃ b : Bool, b = inB f 1 50 := ⟨_, rfl⟩
        rw [← hb1] at HSR ⊢
        clear hb1
        cases b1
        case false =>
          go_wp2
          go_meet
          case rel => exact ⟨by rw [HSR.out]; rfl, rfl⟩
        go_wp2_with fail
        refine (rin_any _ s 0 30).mono ?_
        rintro e w9 ⟨rfl, rfl⟩
        obtain ⟨b1, hb1⟩ : ∃ b : Bool, b = inB s 0 30 := ⟨_, rfl⟩
        rw [← hb1] at HSR ⊢
        clear hb1
        cases b1
        case false =>
          go_wp2
          go_meet
          case rel => exact ⟨by rw [HSR.out]; rfl, rfl⟩
        go_wp2_with fail
        refine (rin_any _ t 0 10000).mono ?_
        rintro e w9 ⟨rfl, rfl⟩
        obtain ⟨b1, hb1⟩ : ∃ b : Bool, b = inB t 0 10000 := ⟨_, rfl⟩
        rw [← hb1] at HSR ⊢
        clear hb1
        cases b1
        case false =>
          go_wp2
          go_meet
          case rel => exact ⟨by rw [HSR.out]; rfl, rfl⟩
        go_wp2_with fail
        refine (rin_any _ n 1 60).mono ?_
        rintro e w9 ⟨rfl, rfl⟩
        obtain ⟨b1, hb1⟩ : ∃ b : Bool, b = inB n 1 60 := ⟨_, rfl⟩
        have HB60 : Hid (b1 = true → 1 ≤ n ∧ n ≤ 60) := by intro h; rw [hb1] at h; simpa [inB] using h
        rw [← hb1] at HSR ⊢
        clear hb1
        cases b1
        case false =>
          go_wp2
          go_meet
          case rel => exact ⟨by rw [HSR.out]; rfl, rfl⟩
        have hn60 := HB60.out rfl
        have hnw : IntKind.i64.wrap (n - 1) = n - 1 := by rw [IntKind.wrap_i64]; omega
        have hnw2 : wrap64 (n - 1) = n - 1 := by unfold wrap64; omega
        clear HB60
        go_wp2_with fail
        refine (rin_any _ pp 0 (n - 1)).mono ?_
        rintro e w9 ⟨rfl, rfl⟩
        obtain ⟨b1, hb1⟩ : ∃ b : Bool, b = inB pp 0 (n - 1) := ⟨_, rfl⟩
        rw [← hb1] at HSR ⊢
        clear hb1 hn60 hnw hnw2
        go_wp2
        go_meet
        case rel => exact ⟨by rw [HSR.out]; cases b1 <;> rfl, rfl⟩
      case rest =>
      obtain ⟨rfl, hwc⟩ := hcut
      subst hwc
      rename World => W2
      clear x2 x3 x4 x5 x6 HSR x1
      cases hp : sr
      case false =>
        have HE := Lib.hid (HFI.out 3 (by rw [HM1.out, hp]; rfl) (by decide))
        subst hp
        clear HFI HNX HM1 hN x0
        go_wp2
        go_ret
        exact ⟨ret_int HE.out.symm, HB1.out⟩
      rw [hp] at HM1
      subst hp
      have HM2 : Hid (ml1E ((k, u, f, s, t, n, pp), o, (R, K, V), (G, H, X, Y)) = if k = 3 then deltaE G H X Y else viewE R K V) := HM1.out
      clear HM1
      have x14 := hN.at 14 rfl
      have x15 := hN.at 15 rfl
      have x16 := hN.at 16 rfl
      go_wp2_with fail
      clear x14 x15 x16
      refine (rcheckV_any W2 aR aK aV cR cK cV R K V HXI.out.max.1.1 HXI.out.max.1.2.1 HXI.out.max.1.2.2 HXI.out.nils.1 HXI.out.nils.2 HXI.out.lr HXI.out.lk HXI.out.lv).mono ?_
      rintro e w3 ⟨rfl, hb3⟩
      have HB3 := Lib.hid (HB1.out.trans (hb3.mono HB1.out.size))
      have hN3 := hN.keep hb3
      have HX3 := Lib.hid (HXI.out.keep hb3)
      clear hN hb3 HXI HB1 x0
      have x0 := hN3.at 0 rfl
      rcases hk23 with hk | hk
      · have d3 : (k == 3) = false := by simp; omega
        have HM3 : Hid (ml1E ((k, u, f, s, t, n, pp), o, (R, K, V), (G, H, X, Y)) = viewE R K V) := by show _ = _; rw [HM2.out, if_neg (by omega)]
        clear hk HM2 hN3
        by_cases hv : viewE R K V = 0
        · have HN9 := Lib.hid (HNX.out (HM3.out.trans hv))
          rw [hv]
          clear hv HFI HNX HM3
          go_wp2
          go_roundw
          case rel => exact ⟨j + 1, hlt, by go_num, HN9.out, HB3.out⟩
          case measure => simp [intOf]; omega
        · have HE := Lib.hid (HFI.out _ HM3.out hv)
          have dv : (viewE R K V != 0) = true := by simpa using hv
          clear hv HFI HNX HM3
          generalize viewE R K V = ev at *
          go_wp2
          go_ret
          exact ⟨ret_int HE.out.symm, HB3.out⟩
      · have d3 : (k == 3) = true := by simpa using hk
        have HM3 : Hid (ml1E ((k, u, f, s, t, n, pp), o, (R, K, V), (G, H, X, Y)) = deltaE G H X Y) := by show _ = _; rw [HM2.out, if_pos hk]
        have x17 := hN3.at 17 rfl
        have x18 := hN3.at 18 rfl
        have x19 := hN3.at 19 rfl
        have x20 := hN3.at 20 rfl
        clear hk HM2 hN3
        generalize viewE R K V = ev at *
        go_wp2_with fail
        clear x0 x17 x18 x19 x20
        refine (rcheckD_any w3 aG aH aX aY cG cH cX cY G H X Y HX3.out.max.2 HX3.out.lg HX3.out.lh HX3.out.lx HX3.out.ly).mono ?_
        rintro e w4 ⟨rfl, hb4⟩
        have HB4 := Lib.hid (HB3.out.trans (hb4.mono HB3.out.size))
        clear hb4 HB3 HX3
        by_cases hv : deltaE G H X Y = 0
        · have HN9 := Lib.hid (HNX.out (HM3.out.trans hv))
          rw [hv]
          clear hv HFI HNX HM3
          go_wp2
          go_roundw
          case rel => exact ⟨j + 1, hlt, by go_num, HN9.out, HB4.out⟩
          case measure => simp [intOf]; omega
        · have HE := Lib.hid (HFI.out _ HM3.out hv)
          have dv : (deltaE G H X Y != 0) = true := by simpa using hv
          clear hv HFI HNX HM3
          generalize deltaE G H X Y = ed at *
          go_wp2
          go_ret
          exact ⟨ret_int HE.out.symm, HB4.out⟩
end Go.Proofs.YtljbchkmoekpmadGreat

/- An append in a region that draws its order. -/
namespace Go.Proofs.YtljbchkmoekpmadGreat
open Go.ChangeShapes Go.WideShapes Go.ChangeAt Go.RowKit

/-- an append to a slice of the call's own, the only operation that may come up -/
theorem step_append {P : Program} {md : Region.Mode} {ops : Array Oper} {Q : Exit → Act → World → Prop} {S : World → Prop} (i d : Nat) {oi : Oper} {s x : Operand} (t : TypeId) {fuel : Nat} {listed : Array Bool} {a : Act} {w : World} (hr : Region.ready md ops listed = [i]) (hi : ops[i]? = some oi) (hd : oi.dst = some d)
    (hw : Region.wanted oi (yielded ops a.tmps) = true) (ho : oi.op = .call { callee := .builtin .append, args := #[s, x], argTypes := #[t, t] })
    (base : Nat) (e : TypeId) (inf : TypeInfo) (z : Value) (size bytes : Nat) (ht : P.underlying t = some (.slice e)) (hinf : P.info? e = some inf) (hz : inf.zero = some z)
    (hsize : inf.size = size) (hby : inf.bytes = bytes) (hzs : z.cells.size = size) (hsz : 0 < size)
    (v : Value) (n : Nat) (xs : List Value) (hs : a.eval s = v) (hown : w.ownsRow base e size v n xs)
    (ad : Addr) (m c : Nat) (news : List Value) (hx : a.eval x = .slice (some ad) m c) (hl : news.length = m * size) (hnews : ∀ j u, news[j]? = some u → w.cell? (ad.add j) = some u) (h1 : ∀ u ∈ news, u.oneCell' = true)
    (h63 : n + m ≤ maxLen) (hbytes : (n + m) * bytes ≤ 140737488355328) (hbase : base ≤ w.heap.size)
    (h : ∀ v' w', w'.ownsRow base e size v' (n + m) (xs ++ news) → w.grownBy w' v.ownBlock → S w' ∧ wpAnyH P md ops Q S fuel (listed.setIfInBounds i true) (a.put (some d) v') w') : wpAnyH P md ops Q S (fuel + 1) listed a w := by
  refine wpAnyH_ready hr (by simp) (AllReadyH.cons hi (fun K hK => ?_) AllReadyH.nil)
  rw [if_pos hw]
  refine wp_append_own w s x t ho base e inf z size bytes ht hinf hz hsize hby hzs hsz v n xs hs hown ad m c news hx hl hnews h1 h63 hbytes hbase (fun v' w' h2 h3 _ => ?_)
  rw [hd]
  exact hK.out _ _ (h v' w' h2 h3).1 (fun _ => (h v' w' h2 h3).2)
end Go.Proofs.YtljbchkmoekpmadGreat

