/- 4 texts of the proof: orangeryref.RecRead. orangerylaw.NoteSays: the walk. A tree that came in as an argument: which places it holds. Operations and steps that came in as arguments. -/
import Derived.Deep.DeepCutAuto
import Derived.Deep.Slices
import Derived.Deep.Strs
import Derived.ChangeOld
import Derived.Test.YtjonkadcijnneacDoorP06
import Derived.Test.YtjonkadcijnneacDoorP08
import Derived.Test.YtjonkadcijnneacDoorP07
import Derived.Test.YtjonkadcijnneacDoorP03
import Derived.Test.YtjonkadcijnneacDoorP04
/- orangeryref.RecRead. -/
namespace Go.Proofs.YtjonkadcijnneacDoor
open Go.ChangeShapes Go.WideShapes Go.ChangeAt Go.RowKit
open Orangery (Mv Rc noRec noOp recOf numOf numsOf wordsB remW soFar readO readE readR checkRec wOp wLife wRoots)

theorem read_words {t : List UInt8} {x : List UInt8} {ws : List (List UInt8)} (hw : wordsB t = x :: ws) :
    (numsOf ws = none → readE t = 1 ∧ readR t = noRec) ∧
    (∀ N, numsOf ws = some N → recOf x N = none → readE t = 1 ∧ readR t = noRec) ∧
    (∀ N r, numsOf ws = some N → recOf x N = some r → readE t = checkRec r ∧ (checkRec r ≠ 0 → readR t = noRec) ∧ (checkRec r = 0 → readR t = r)) := by
  have e : readO t = (numsOf ws).bind (recOf x) := by unfold readO; rw [hw]; rfl
  have bad : readO t = none → readE t = 1 ∧ readR t = noRec := by
    intro hn
    have e3 : readE t = 1 := by unfold readE; rw [hn]
    refine ⟨e3, ?_⟩
    unfold readR
    rw [if_pos (by rw [e3]; decide)]
  refine ⟨fun hn => bad (by rw [e, hn]; rfl), fun N hN hr => bad (by rw [e, hN]; exact hr), fun N r hN hr => ?_⟩
  have e3 : readO t = some r := by rw [e, hN]; exact hr
  have e4 : readE t = checkRec r := by unfold readE; rw [e3]
  refine ⟨e4, fun hc => ?_, fun hc => ?_⟩
  · unfold readR; rw [if_pos (by rw [e4]; exact hc)]
  · unfold readR; rw [if_neg (by rw [e4]; simpa using hc), e3]; rfl

def sizeTx : Value → Nat
  | .string s => s.size
  | _ => 0
def isYes : Value → Bool
  | .bool b => b
  | _ => false
/-- how much is left -/
def leftTx (r m : Value) : Nat := if isYes m = true then sizeTx r + 1 else 0

theorem OwnI.app {w' : World} {base : Nat} {v' : Value} {L : List Int} {n : Int} (h : w'.ownsRow base 3 1 v' (L.length + 1) (L.map (Value.int .i64) ++ [Value.int .i64 n])) : OwnI w' base v' (L ++ [n]) := by
  show w'.ownsRow _ _ _ _ _ _
  simpa using h

set_option maxHeartbeats 8000000 in
set_option maxRecDepth 100000 in
theorem rrecRead_any (w : World) (t : List UInt8) (hl : t.length ≤ 60000) (hv : Vars w) :
    Calls Tryd.prog 12 #[txV t] w
      fun e w' => (∃ v, e = .returned (.tuple #[v, .int .i64 (readE t)]) ∧ RecIs w.heap.size w' v (readR t)) ∧ Below w.heap.size w w' := by
  obtain ⟨i0, hi, hz0, hz1, hz2⟩ := info_parts infoInt
  obtain ⟨hw, _, hrl⟩ := Orangery.cut_words t
  have HP := Lib.hid (read_words hw)
  have HLO : Hid (8 ≤ w.heap.size + 1) := by have := hv.lo; show _ ≤ _; omega
  have HSF := Lib.hid (Orangery.soFar_start (Lib.cut t [32]).2.1 (Lib.cut t [32]).2.2)
  have HRL := Lib.hid hrl
  clear hw hrl
  go_enter Tryd.func12, Tryd.ntmps12
  go_wp2_with fail
  obtain ⟨W0, hW, hR, hB, -⟩ := laid1 w zeroRec 28
  rw [hW]
  clear hW
  have HV0 := Lib.hid (hv.on hB)
  clear hv
  refine (cut_any W0 t hl HV0.out).mono ?_
  rintro e w1 ⟨rfl, hb1⟩
  have hR1 := hR.keep hb1
  have hB1 : Below w.heap.size w w1 := hB.trans (hb1.mono hB.size)
  have HV1 := Lib.hid (HV0.out.on hb1)
  clear hR hB hb1 HV0
  generalize (Lib.cut t [32]).1 = x at *
  generalize hws : remW (Lib.cut t [32]).2.1 (Lib.cut t [32]).2.2 = ws at *
  clear hws
  have HR1 := Lib.hid hR1
  have HB1 := Lib.hid hB1
  clear hR1 hB1
  generalize (Lib.cut t [32]).2.1 = r0 at *
  generalize (Lib.cut t [32]).2.2 = m0 at *
  go_wp2
  go_loopw [5, 6, 7] (fun r m v W => ∃ (rest : List UInt8) (more : Bool) (N : List Int), r = txV rest ∧ m = .bool more ∧ soFar ws N rest more ∧ OwnI W (w.heap.size + 1) v N ∧ N.length + (if more = true then rest.length + 1 else 0) ≤ 60001 ∧ Blk W w.heap.size zeroRec ∧ Vars W ∧ Below w.heap.size w W) (fun r m _ _ => leftTx r m)
  case atStart =>
    refine ⟨r0, m0, [], rfl, rfl, HSF.out, World.ownsRow_nil _ _ _ _, ?_, HR1.out, HV1.out, HB1.out⟩
    cases m0 with
    | false => simp
    | true => have := HRL.out rfl; simp; omega
  case round =>
    clear HSF HRL HR1 HV1 HB1
    obtain ⟨rest, more, N, rfl, rfl, hsf, hO, hln, hR, hvr, hb⟩ := hrel
    have HR := Lib.hid hR
    have HV := Lib.hid hvr
    have HB := Lib.hid hb
    clear hvr hb
    cases more with
    | true =>
      have hrl : rest.length ≤ 60000 ∧ N.length ≤ 60000 := by simp at hln; omega
      obtain ⟨hrl, hnl⟩ := hrl
      have HLN : Hid (N.length + (rest.length + 1) ≤ 60001) := by show _ ≤ _; simpa using hln
      obtain ⟨_, hxl, hml⟩ := Orangery.cut_words rest
      have HSB : Hid (numOf (Lib.cut rest [32]).1 = none → numsOf ws = none) := Orangery.soFar_bad hsf
      have HSN : Hid (∀ v, numOf (Lib.cut rest [32]).1 = some v → soFar ws (N ++ [v]) (Lib.cut rest [32]).2.1 (Lib.cut rest [32]).2.2) := fun v => Orangery.soFar_next hsf
      have HML : Hid ((Lib.cut rest [32]).2.2 = true → (Lib.cut rest [32]).2.1.length < rest.length) := hml
      clear hml hsf hln hR
      have hyl : (Lib.cut rest [32]).1.length ≤ 60000 := by omega
      clear hxl
      go_wp2_with fail
      refine (cut_any wr rest hrl HV.out).mono ?_
      rintro e w2 ⟨rfl, hb2⟩
      have HR2 := Lib.hid (HR.out.keep hb2)
      have hO2 := hO.keep hb2
      have HV2 := Lib.hid (HV.out.on hb2)
      have HB2 : Hid (Below w.heap.size w w2) := HB.out.trans (hb2.mono HB.out.size)
      clear hb2 HR HV HB hO
      generalize (Lib.cut rest [32]).1 = y at *
      generalize (Lib.cut rest [32]).2.1 = r' at *
      generalize (Lib.cut rest [32]).2.2 = m' at *
      rcases numEnds_two (Lib.atoiAll y) with ⟨v, hq⟩ | hq
      · skip
        obtain ⟨v0, v1⟩ := Orangery.atoi_bounds hq
        have HN : Hid (numOf y = if Lib.itoa v = y then some v else none) := Orangery.numOf_ok hq
        have HQ : Hid (Lib.atoiAll y = .ok v) := hq
        clear hq
        go_wp2_with fail
        refine (parseInt_ok w2 y v hyl HQ.out).mono ?_
        rintro e w3 ⟨rfl, hb3⟩
        have HR3 := Lib.hid (HR2.out.keep hb3)
        have hO3 := hO2.keep hb3
        have HV3 := Lib.hid (HV2.out.on hb3)
        have HB3 : Hid (Below w.heap.size w w3) := HB2.out.trans (hb3.mono HB2.out.size)
        clear hb3 HR2 HV2 HB2 hO2
        go_wp2_with fail
        refine (formatInt_any w3 v v0 v1 HV3.out).mono ?_
        rintro e w4 ⟨rfl, hb4⟩
        have HR4 := Lib.hid (HR3.out.keep hb4)
        have hO4 := hO3.keep hb4
        have HV4 := Lib.hid (HV3.out.on hb4)
        have HB4 : Hid (Below w.heap.size w w4) := HB3.out.trans (hb4.mono HB3.out.size)
        clear hb4 HR3 HV3 HB3 hO3
        by_cases he : Lib.itoa v = y
        · have d1 : (Lib.itoa v == y) = true := by simpa using he
          have HS5 : Hid (soFar ws (N ++ [v]) r' m') := HSN.out v (by rw [HN.out, if_pos he])
          clear he HN HSB HSN
          have hbn := Go.Joins.below_alloc1 w4 (Obj.cells #[Value.int IntKind.i64 v] 3)
          have hO5 := hO4.keep hbn
          have hown : (w4.alloc (Obj.cells #[Value.int IntKind.i64 v] 3)).ownsRow (w.heap.size + 1) 3 1 _ N.length (N.map (Value.int .i64)) := hO5
          have hN5 := Blk.new w4 [Value.int IntKind.i64 v] 3
          have hsz : w.heap.size + 1 ≤ (w4.alloc (Obj.cells #[Value.int IntKind.i64 v] 3)).heap.size := by have := HR4.out.lt; simp; omega
          go_wp2_with (at_builtin; refine wpList_append_own _ rfl _ _ 22 rfl (w.heap.size + 1) 3 i0 _ 1 8 Tryd.underlying22 hi hz0 hz1 hz2 rfl (by decide) _ _ _ rfl hown ⟨w4.heap.size, 0, none⟩ 1 1 [Value.int IntKind.i64 v] rfl (by simp) ?c1 ?c2 ?c3 ?c4 ?c5 ?_)
          case c1 => intro j u hj; rw [Addr.add_mid, Nat.zero_add]; exact hN5.at j hj
          case c2 => intro u hu; simp at hu; subst hu; rfl
          case c3 => unfold maxLen; omega
          case c4 => omega
          case c5 => exact hsz
          intro v' w6 hown' hgrow _
          have hO6 := OwnI.app hown'
          have HR6 := Lib.hid ((HR4.out.keep hbn).grown hgrow (fun e => by have := hown.lt _ e.symm; omega))
          have hb6 : Below (w.heap.size + 1) w4 w6 := (hbn.mono (by have := HR4.out.lt; omega)).grown hgrow hsz (fun g hg => (hown.lt g hg).1)
          have HV6 := Lib.hid (HV4.out.keep hb6 HLO.out)
          have HB6 : Hid (Below w.heap.size w w6) := HB4.out.trans (hb6.mono (by omega))
          clear hown hown' hgrow hN5 hO5 hbn hsz hb6 HR4 HV4 HB4 hO4
          go_wp2
          go_roundw
          case rel =>
            refine ⟨r', m', N ++ [v], rfl, rfl, HS5.out, hO6, ?_, HR6.out, HV6.out, HB6.out⟩
            have h1 := HLN.out
            cases m' with
            | false => simp; omega
            | true => have := HML.out rfl; simp; omega
          case measure =>
            have h1 := HML.out
            cases m' with
            | false => simp [leftTx, isYes]
            | true =>
              have := h1 rfl
              simp [leftTx, isYes, sizeTx, Orangery.bytes_size]
              exact this
        · have d1 : (Lib.itoa v == y) = false := by simpa using he
          have HE : Hid (readE t = 1 ∧ readR t = noRec) := HP.out.1 (HSB.out (by rw [HN.out, if_neg he]))
          clear he HN HSB HSN
          have r0 := HR4.out.at 0 rfl
          have r1 := HR4.out.at 1 rfl
          have r2 := HR4.out.at 2 rfl
          have r3 := HR4.out.at 3 rfl
          have r4 := HR4.out.at 4 rfl
          have r5 := HR4.out.at 5 rfl
          have r6 := HR4.out.at 6 rfl
          have r7 := HR4.out.at 7 rfl
          have r8 := HR4.out.at 8 rfl
          have r9 := HR4.out.at 9 rfl
          have r10 := HR4.out.at 10 rfl
          have rf := HR4.out.frz
          go_wp2
          have hRf := HR4.out.sets zeroRec rfl
          refine ret_cell_tmp Tryd.results12 rfl rfl (hRf.load Tryd.underlying28 rfl sizeRec) ?_
          rw [HE.out.1, HE.out.2]
          exact ⟨⟨_, rfl, recIs_none _ _⟩, below_sets HB4.out w.heap.size (Nat.le_refl _) zeroRec 0⟩
      · skip
        have HE : Hid (readE t = 1 ∧ readR t = noRec) := HP.out.1 (HSB.out (Orangery.numOf_bad hq))
        have HQ : Hid (∀ v, Lib.atoiAll y ≠ .ok v) := hq
        clear hq HSB HSN
        go_wp2_with fail
        refine (parseInt_bad w2 y hyl HQ.out HV2.out).mono ?_
        rintro e w3 ⟨⟨v, te, pe, rfl⟩, hb3⟩
        have HR3 := Lib.hid (HR2.out.keep hb3)
        have HB3 : Hid (Below w.heap.size w w3) := HB2.out.trans (hb3.mono HB2.out.size)
        clear hb3 HR2 HB2 HV2 hO2
        have r0 := HR3.out.at 0 rfl
        have r1 := HR3.out.at 1 rfl
        have r2 := HR3.out.at 2 rfl
        have r3 := HR3.out.at 3 rfl
        have r4 := HR3.out.at 4 rfl
        have r5 := HR3.out.at 5 rfl
        have r6 := HR3.out.at 6 rfl
        have r7 := HR3.out.at 7 rfl
        have r8 := HR3.out.at 8 rfl
        have r9 := HR3.out.at 9 rfl
        have r10 := HR3.out.at 10 rfl
        have rf := HR3.out.frz
        go_wp2
        have hRf := HR3.out.sets zeroRec rfl
        refine ret_cell_tmp Tryd.results12 rfl rfl (hRf.load Tryd.underlying28 rfl sizeRec) ?_
        rw [HE.out.1, HE.out.2]
        exact ⟨⟨_, rfl, recIs_none _ _⟩, below_sets HB3.out w.heap.size (Nat.le_refl _) zeroRec 0⟩
    | false =>
      have HN : Hid (numsOf ws = some N) := Orangery.soFar_end hsf
      have hnl : N.length ≤ 60001 := by simp at hln; omega
      obtain ⟨aN, cN, rfl, hI, hcN, hmN⟩ := hO.caps
      have hf := from_own hO
      have hls : w.heap.size < wr.heap.size := hR.lt
      have hne0 : ¬ wr.heap.size = w.heap.size := by omega
      clear hO hsf hln hR
      by_cases h1 : x = wOp ∧ N.length = 7
      · have hre := recOf_op h1.1 h1.2
        obtain ⟨rfl, h2⟩ := h1
        obtain ⟨n0, n1, n2, n3, n4, n5, n6, rfl⟩ : ∃ n0 n1 n2 n3 n4 n5 n6, N = [n0, n1, n2, n3, n4, n5, n6] := by
          match N, h2 with
          | [n0, n1, n2, n3, n4, n5, n6], _ => exact ⟨_, _, _, _, _, _, _, rfl⟩
        rcases hI with hI | ⟨b, off, rfl, hlt, hp⟩
        · simp at hI
        have x0 : wr.cell? ⟨b, off, none⟩ = some (.int .i64 n0) := hp 0 (by simp)
        have x1 : wr.cell? ⟨b, off + 1, none⟩ = some (.int .i64 n1) := hp 1 (by simp)
        have x2 : wr.cell? ⟨b, off + 2, none⟩ = some (.int .i64 n2) := hp 2 (by simp)
        have x3 : wr.cell? ⟨b, off + 3, none⟩ = some (.int .i64 n3) := hp 3 (by simp)
        have x4 : wr.cell? ⟨b, off + 4, none⟩ = some (.int .i64 n4) := hp 4 (by simp)
        have x5 : wr.cell? ⟨b, off + 5, none⟩ = some (.int .i64 n5) := hp 5 (by simp)
        have x6 : wr.cell? ⟨b, off + 6, none⟩ = some (.int .i64 n6) := hp 6 (by simp)
        have hne : ¬ wr.heap.size = b := by omega
        clear hp h2
        go_wp2_with fail
        go_region_held3 (fun w' => w'.cell? ⟨b, off, none⟩ = some (.int .i64 n0) ∧ w'.cell? ⟨b, off + 1, none⟩ = some (.int .i64 n1) ∧ w'.cell? ⟨b, off + 2, none⟩ = some (.int .i64 n2) ∧ w'.cell? ⟨b, off + 3, none⟩ = some (.int .i64 n3) ∧ w'.cell? ⟨b, off + 4, none⟩ = some (.int .i64 n4) ∧ w'.cell? ⟨b, off + 5, none⟩ = some (.int .i64 n5) ∧ w'.cell? ⟨b, off + 6, none⟩ = some (.int .i64 n6)) (go_keep) (fail)
        have hX0 := (Blk.new wr [Value.int IntKind.i64 1, .int .i64 0, .int .i64 0, .slice none 0 0, .int .i64 n0, .int .i64 n1, .int .i64 n2, .int .i64 n3, .int .i64 n4, .int .i64 n5, .int .i64 n6] 28).drew
        have hbx : Below wr.heap.size wr (wr.alloc (Obj.cells [Value.int IntKind.i64 1, .int .i64 0, .int .i64 0, .slice none 0 0, .int .i64 n0, .int .i64 n1, .int .i64 n2, .int .i64 n3, .int .i64 n4, .int .i64 n5, .int .i64 n6].toArray 28)).drew := (Go.Joins.below_alloc1 wr _).drew
        go_wp2_with fail
        refine (rcheckRec_any _ 1 0 0 none 0 [] (n0, n1, (n2, n3, n4), n5, n6) (by unfold maxLen; simp; try omega) (SlI.nil)).mono ?_
        rintro e w5 ⟨rfl, hb5⟩
        have hb5' : Below wr.heap.size wr w5 := hbx.trans (hb5.mono hbx.size)
        have hX5 := hX0.keep hb5
        have hR5 := HR.out.keep hb5'
        have HB5 : Hid (Below w.heap.size w w5) := HB.out.trans (hb5'.mono HB.out.size)
        have HI5 := Lib.hid (show SlI w5 none [] from ((SlI.nil : SlI wr none [])).below hb5')
        clear hb5 hb5' hX0 hbx
        have HE := Lib.hid (HP.out.2.2 _ _ HN.out hre)
        have r0 := hR5.at 0 rfl
        have r1 := hR5.at 1 rfl
        have r2 := hR5.at 2 rfl
        have r3 := hR5.at 3 rfl
        have r4 := hR5.at 4 rfl
        have r5 := hR5.at 5 rfl
        have r6 := hR5.at 6 rfl
        have r7 := hR5.at 7 rfl
        have r8 := hR5.at 8 rfl
        have r9 := hR5.at 9 rfl
        have r10 := hR5.at 10 rfl
        have rf := hR5.frz
        by_cases hc : checkRec (1, 0, 0, [], (n0, n1, (n2, n3, n4), n5, n6)) = 0
        · have HE2 : Hid (readE t = 0 ∧ readR t = (1, 0, 0, [], (n0, n1, (n2, n3, n4), n5, n6))) := ⟨HE.out.1.trans hc, HE.out.2.2 hc⟩
          rw [hc]
          clear HE hc
          have y0 := hX5.at 0 rfl
          have y1 := hX5.at 1 rfl
          have y2 := hX5.at 2 rfl
          have y3 := hX5.at 3 rfl
          have y4 := hX5.at 4 rfl
          have y5 := hX5.at 5 rfl
          have y6 := hX5.at 6 rfl
          have y7 := hX5.at 7 rfl
          have y8 := hX5.at 8 rfl
          have y9 := hX5.at 9 rfl
          have y10 := hX5.at 10 rfl
          clear hX5
          go_wp2
          have hRf := hR5.sets [Value.int IntKind.i64 1, .int .i64 0, .int .i64 0, .slice none 0 0, .int .i64 n0, .int .i64 n1, .int .i64 n2, .int .i64 n3, .int .i64 n4, .int .i64 n5, .int .i64 n6] rfl
          refine ret_cell_tmp Tryd.results12 rfl rfl (hRf.load Tryd.underlying28 rfl sizeRec) ?_
          rw [HE2.out.1, HE2.out.2]
          have hIf := HI5.out.sets (g := w.heap.size) (from_none) (Nat.lt_succ_self _) [Value.int IntKind.i64 1, .int .i64 0, .int .i64 0, .slice none 0 0, .int .i64 n0, .int .i64 n1, .int .i64 n2, .int .i64 n3, .int .i64 n4, .int .i64 n5, .int .i64 n6] 0
          have hBf := below_sets HB5.out w.heap.size (Nat.le_refl _) [Value.int IntKind.i64 1, .int .i64 0, .int .i64 0, .slice none 0 0, .int .i64 n0, .int .i64 n1, .int .i64 n2, .int .i64 n3, .int .i64 n4, .int .i64 n5, .int .i64 n6] 0
          exact ⟨⟨_, rfl, none, 0, rfl, hIf, from_mono (from_none) (Nat.le_succ _), fun _ => rfl⟩, hBf⟩
        · have HE2 : Hid (readE t = checkRec (1, 0, 0, [], (n0, n1, (n2, n3, n4), n5, n6)) ∧ readR t = noRec) := ⟨HE.out.1, HE.out.2.1 hc⟩
          have d9 : (checkRec (1, 0, 0, [], (n0, n1, (n2, n3, n4), n5, n6)) != 0) = true := by simpa using hc
          generalize checkRec (1, 0, 0, [], (n0, n1, (n2, n3, n4), n5, n6)) = E at *
          clear HE hX5
          go_wp2
          have hRf := hR5.sets zeroRec rfl
          refine ret_cell_tmp Tryd.results12 rfl rfl (hRf.load Tryd.underlying28 rfl sizeRec) ?_
          rw [HE2.out.1, HE2.out.2]
          exact ⟨⟨_, rfl, recIs_none _ _⟩, below_sets HB5.out w.heap.size (Nat.le_refl _) zeroRec 0⟩
      by_cases h2 : x = wLife ∧ N.length = 2
      · have hre := recOf_life h2.1 h2.2
        obtain ⟨rfl, h3⟩ := h2
        obtain ⟨n0, n1, rfl⟩ : ∃ n0 n1, N = [n0, n1] := by
          match N, h3 with
          | [n0, n1], _ => exact ⟨_, _, rfl⟩
        rcases hI with hI | ⟨b, off, rfl, hlt, hp⟩
        · simp at hI
        have x0 : wr.cell? ⟨b, off, none⟩ = some (.int .i64 n0) := hp 0 (by simp)
        have x1 : wr.cell? ⟨b, off + 1, none⟩ = some (.int .i64 n1) := hp 1 (by simp)
        have hne : ¬ wr.heap.size = b := by omega
        clear hp h3 h1
        go_wp2_with fail
        go_region_held3 (fun w' => w'.cell? ⟨b, off, none⟩ = some (.int .i64 n0) ∧ w'.cell? ⟨b, off + 1, none⟩ = some (.int .i64 n1)) (go_keep) (fail)
        have hX0 := (Blk.new wr [Value.int IntKind.i64 2, .int .i64 n0, .int .i64 n1, .slice none 0 0, .int .i64 0, .int .i64 0, .int .i64 0, .int .i64 0, .int .i64 0, .int .i64 0, .int .i64 0] 28).drew
        have hbx : Below wr.heap.size wr (wr.alloc (Obj.cells [Value.int IntKind.i64 2, .int .i64 n0, .int .i64 n1, .slice none 0 0, .int .i64 0, .int .i64 0, .int .i64 0, .int .i64 0, .int .i64 0, .int .i64 0, .int .i64 0].toArray 28)).drew := (Go.Joins.below_alloc1 wr _).drew
        go_wp2_with fail
        refine (rcheckRec_any _ 2 n0 n1 none 0 [] noOp (by unfold maxLen; simp; try omega) (SlI.nil)).mono ?_
        rintro e w5 ⟨rfl, hb5⟩
        have hb5' : Below wr.heap.size wr w5 := hbx.trans (hb5.mono hbx.size)
        have hX5 := hX0.keep hb5
        have hR5 := HR.out.keep hb5'
        have HB5 : Hid (Below w.heap.size w w5) := HB.out.trans (hb5'.mono HB.out.size)
        have HI5 := Lib.hid (show SlI w5 none [] from ((SlI.nil : SlI wr none [])).below hb5')
        clear hb5 hb5' hX0 hbx
        have HE := Lib.hid (HP.out.2.2 _ _ HN.out hre)
        have r0 := hR5.at 0 rfl
        have r1 := hR5.at 1 rfl
        have r2 := hR5.at 2 rfl
        have r3 := hR5.at 3 rfl
        have r4 := hR5.at 4 rfl
        have r5 := hR5.at 5 rfl
        have r6 := hR5.at 6 rfl
        have r7 := hR5.at 7 rfl
        have r8 := hR5.at 8 rfl
        have r9 := hR5.at 9 rfl
        have r10 := hR5.at 10 rfl
        have rf := hR5.frz
        by_cases hc : checkRec (2, n0, n1, [], noOp) = 0
        · have HE2 : Hid (readE t = 0 ∧ readR t = (2, n0, n1, [], noOp)) := ⟨HE.out.1.trans hc, HE.out.2.2 hc⟩
          rw [hc]
          clear HE hc
          have y0 := hX5.at 0 rfl
          have y1 := hX5.at 1 rfl
          have y2 := hX5.at 2 rfl
          have y3 := hX5.at 3 rfl
          have y4 := hX5.at 4 rfl
          have y5 := hX5.at 5 rfl
          have y6 := hX5.at 6 rfl
          have y7 := hX5.at 7 rfl
          have y8 := hX5.at 8 rfl
          have y9 := hX5.at 9 rfl
          have y10 := hX5.at 10 rfl
          clear hX5
          go_wp2
          have hRf := hR5.sets [Value.int IntKind.i64 2, .int .i64 n0, .int .i64 n1, .slice none 0 0, .int .i64 0, .int .i64 0, .int .i64 0, .int .i64 0, .int .i64 0, .int .i64 0, .int .i64 0] rfl
          refine ret_cell_tmp Tryd.results12 rfl rfl (hRf.load Tryd.underlying28 rfl sizeRec) ?_
          rw [HE2.out.1, HE2.out.2]
          have hIf := HI5.out.sets (g := w.heap.size) (from_none) (Nat.lt_succ_self _) [Value.int IntKind.i64 2, .int .i64 n0, .int .i64 n1, .slice none 0 0, .int .i64 0, .int .i64 0, .int .i64 0, .int .i64 0, .int .i64 0, .int .i64 0, .int .i64 0] 0
          have hBf := below_sets HB5.out w.heap.size (Nat.le_refl _) [Value.int IntKind.i64 2, .int .i64 n0, .int .i64 n1, .slice none 0 0, .int .i64 0, .int .i64 0, .int .i64 0, .int .i64 0, .int .i64 0, .int .i64 0, .int .i64 0] 0
          exact ⟨⟨_, rfl, none, 0, rfl, hIf, from_mono (from_none) (Nat.le_succ _), fun _ => rfl⟩, hBf⟩
        · have HE2 : Hid (readE t = checkRec (2, n0, n1, [], noOp) ∧ readR t = noRec) := ⟨HE.out.1, HE.out.2.1 hc⟩
          have d9 : (checkRec (2, n0, n1, [], noOp) != 0) = true := by simpa using hc
          generalize checkRec (2, n0, n1, [], noOp) = E at *
          clear HE hX5
          go_wp2
          have hRf := hR5.sets zeroRec rfl
          refine ret_cell_tmp Tryd.results12 rfl rfl (hRf.load Tryd.underlying28 rfl sizeRec) ?_
          rw [HE2.out.1, HE2.out.2]
          exact ⟨⟨_, rfl, recIs_none _ _⟩, below_sets HB5.out w.heap.size (Nat.le_refl _) zeroRec 0⟩
      by_cases h3 : x = wRoots ∧ 1 ≤ N.length
      · have hre := recOf_roots h3.1 h3.2
        obtain ⟨rfl, h4⟩ := h3
        obtain ⟨n0, R, rfl⟩ : ∃ n0 R, N = n0 :: R := by
          match N, h4 with
          | n0 :: R, _ => exact ⟨_, _, rfl⟩
        rcases hI with hI | ⟨b, off, rfl, hlt, hp⟩
        · simp at hI
        have x0 : wr.cell? ⟨b, off, none⟩ = some (.int .i64 n0) := hp 0 (by simp)
        have hne : ¬ wr.heap.size = b := by omega
        have HPI : Hid (IntsAt wr b off (n0 :: R)) := hp
        have hcN3 : cN ≤ 9223372036854775807 := hmN
        simp only [List.length_cons] at hcN hnl
        have e1 : (1 : Int) ≤ (R.length : Int) + 1 := by omega
        have e2 : decide ((R.length : Int) + 1 ≥ 1) = true := by simp; omega
        have hfb : w.heap.size + 1 ≤ b := hf b off rfl
        have hre : recOf wRoots (n0 :: R) = some (3, n0, 0, R, noOp) := hre
        clear hp h4 h1 h2 hmN hf
        simp only [List.length_cons]
        by_cases hz : cN = 1
        · obtain rfl : R = [] := by cases R with
            | nil => rfl
            | cons y l => simp at hcN; omega
          subst hz
          go_wp2_with fail
          go_region_held3 (fun w' => w'.cell? ⟨b, off, none⟩ = some (.int .i64 n0)) (go_keep) (fail)
          have hX0 := (Blk.new wr [Value.int IntKind.i64 3, .int .i64 n0, .int .i64 0, .slice (some ⟨b, off, none⟩) 0 0, .int .i64 0, .int .i64 0, .int .i64 0, .int .i64 0, .int .i64 0, .int .i64 0, .int .i64 0] 28).drew
          have hbx : Below wr.heap.size wr (wr.alloc (Obj.cells [Value.int IntKind.i64 3, .int .i64 n0, .int .i64 0, .slice (some ⟨b, off, none⟩) 0 0, .int .i64 0, .int .i64 0, .int .i64 0, .int .i64 0, .int .i64 0, .int .i64 0, .int .i64 0].toArray 28)).drew := (Go.Joins.below_alloc1 wr _).drew
          go_wp2_with fail
          refine (rcheckRec_any _ 3 n0 0 (some ⟨b, off, none⟩) 0 [] noOp (by unfold maxLen; simp; try omega) (SlI.nil)).mono ?_
          rintro e w5 ⟨rfl, hb5⟩
          have hb5' : Below wr.heap.size wr w5 := hbx.trans (hb5.mono hbx.size)
          have hX5 := hX0.keep hb5
          have hR5 := HR.out.keep hb5'
          have HB5 : Hid (Below w.heap.size w w5) := HB.out.trans (hb5'.mono HB.out.size)
          have HI5 := Lib.hid (show SlI w5 (some ⟨b, off, none⟩) [] from ((SlI.nil : SlI wr (some ⟨b, off, none⟩) [])).below hb5')
          clear hb5 hb5' hX0 hbx
          have HE := Lib.hid (HP.out.2.2 _ _ HN.out hre)
          have r0 := hR5.at 0 rfl
          have r1 := hR5.at 1 rfl
          have r2 := hR5.at 2 rfl
          have r3 := hR5.at 3 rfl
          have r4 := hR5.at 4 rfl
          have r5 := hR5.at 5 rfl
          have r6 := hR5.at 6 rfl
          have r7 := hR5.at 7 rfl
          have r8 := hR5.at 8 rfl
          have r9 := hR5.at 9 rfl
          have r10 := hR5.at 10 rfl
          have rf := hR5.frz
          by_cases hc : checkRec (3, n0, 0, [], noOp) = 0
          · have HE2 : Hid (readE t = 0 ∧ readR t = (3, n0, 0, [], noOp)) := ⟨HE.out.1.trans hc, HE.out.2.2 hc⟩
            rw [hc]
            clear HE hc
            have y0 := hX5.at 0 rfl
            have y1 := hX5.at 1 rfl
            have y2 := hX5.at 2 rfl
            have y3 := hX5.at 3 rfl
            have y4 := hX5.at 4 rfl
            have y5 := hX5.at 5 rfl
            have y6 := hX5.at 6 rfl
            have y7 := hX5.at 7 rfl
            have y8 := hX5.at 8 rfl
            have y9 := hX5.at 9 rfl
            have y10 := hX5.at 10 rfl
            clear hX5
            go_wp2
            have hRf := hR5.sets [Value.int IntKind.i64 3, .int .i64 n0, .int .i64 0, .slice (some ⟨b, off, none⟩) 0 0, .int .i64 0, .int .i64 0, .int .i64 0, .int .i64 0, .int .i64 0, .int .i64 0, .int .i64 0] rfl
            refine ret_cell_tmp Tryd.results12 rfl rfl (hRf.load Tryd.underlying28 rfl sizeRec) ?_
            rw [HE2.out.1, HE2.out.2]
            have hIf := HI5.out.sets (g := w.heap.size) (fun b' off' e => by simp at e; omega) (Nat.lt_succ_self _) [Value.int IntKind.i64 3, .int .i64 n0, .int .i64 0, .slice (some ⟨b, off, none⟩) 0 0, .int .i64 0, .int .i64 0, .int .i64 0, .int .i64 0, .int .i64 0, .int .i64 0, .int .i64 0] 0
            have hBf := below_sets HB5.out w.heap.size (Nat.le_refl _) [Value.int IntKind.i64 3, .int .i64 n0, .int .i64 0, .slice (some ⟨b, off, none⟩) 0 0, .int .i64 0, .int .i64 0, .int .i64 0, .int .i64 0, .int .i64 0, .int .i64 0, .int .i64 0] 0
            exact ⟨⟨_, rfl, (some ⟨b, off, none⟩), 0, rfl, hIf, from_mono (fun b' off' e => by simp at e; omega) (Nat.le_succ _), fun e => by simp at e⟩, hBf⟩
          · have HE2 : Hid (readE t = checkRec (3, n0, 0, [], noOp) ∧ readR t = noRec) := ⟨HE.out.1, HE.out.2.1 hc⟩
            have d9 : (checkRec (3, n0, 0, [], noOp) != 0) = true := by simpa using hc
            generalize checkRec (3, n0, 0, [], noOp) = E at *
            clear HE hX5
            go_wp2
            have hRf := hR5.sets zeroRec rfl
            refine ret_cell_tmp Tryd.results12 rfl rfl (hRf.load Tryd.underlying28 rfl sizeRec) ?_
            rw [HE2.out.1, HE2.out.2]
            exact ⟨⟨_, rfl, recIs_none _ _⟩, below_sets HB5.out w.heap.size (Nat.le_refl _) zeroRec 0⟩
        · have d3 : 2 ≤ cN := by omega
          have d4 : ¬ cN - 1 = 0 := by omega
          have hSR : SlI wr (some ⟨b, off + 1, none⟩) R := by
            refine Or.inr ⟨b, off + 1, rfl, hlt, fun i hi => ?_⟩
            have := HPI.out (i + 1) (by simp; omega)
            rw [show off + 1 + i = off + (i + 1) by omega]
            simpa using this
          have HSR := Lib.hid hSR
          clear hSR
          go_wp2_with fail
          go_region_held3 (fun w' => w'.cell? ⟨b, off, none⟩ = some (.int .i64 n0)) (go_keep) (fail)
          have hX0 := (Blk.new wr [Value.int IntKind.i64 3, .int .i64 n0, .int .i64 0, .slice (some ⟨b, off + 1, none⟩) R.length (cN - 1), .int .i64 0, .int .i64 0, .int .i64 0, .int .i64 0, .int .i64 0, .int .i64 0, .int .i64 0] 28).drew
          have hbx : Below wr.heap.size wr (wr.alloc (Obj.cells [Value.int IntKind.i64 3, .int .i64 n0, .int .i64 0, .slice (some ⟨b, off + 1, none⟩) R.length (cN - 1), .int .i64 0, .int .i64 0, .int .i64 0, .int .i64 0, .int .i64 0, .int .i64 0, .int .i64 0].toArray 28)).drew := (Go.Joins.below_alloc1 wr _).drew
          go_wp2_with fail
          refine (rcheckRec_any _ 3 n0 0 (some ⟨b, off + 1, none⟩) (cN - 1) R noOp (by unfold maxLen; simp; try omega) (HSR.out.below hbx)).mono ?_
          rintro e w5 ⟨rfl, hb5⟩
          have hb5' : Below wr.heap.size wr w5 := hbx.trans (hb5.mono hbx.size)
          have hX5 := hX0.keep hb5
          have hR5 := HR.out.keep hb5'
          have HB5 : Hid (Below w.heap.size w w5) := HB.out.trans (hb5'.mono HB.out.size)
          have HI5 := Lib.hid (show SlI w5 (some ⟨b, off + 1, none⟩) R from (HSR.out).below hb5')
          clear hb5 hb5' hX0 hbx
          have HE := Lib.hid (HP.out.2.2 _ _ HN.out hre)
          have r0 := hR5.at 0 rfl
          have r1 := hR5.at 1 rfl
          have r2 := hR5.at 2 rfl
          have r3 := hR5.at 3 rfl
          have r4 := hR5.at 4 rfl
          have r5 := hR5.at 5 rfl
          have r6 := hR5.at 6 rfl
          have r7 := hR5.at 7 rfl
          have r8 := hR5.at 8 rfl
          have r9 := hR5.at 9 rfl
          have r10 := hR5.at 10 rfl
          have rf := hR5.frz
          by_cases hc : checkRec (3, n0, 0, R, noOp) = 0
          · have HE2 : Hid (readE t = 0 ∧ readR t = (3, n0, 0, R, noOp)) := ⟨HE.out.1.trans hc, HE.out.2.2 hc⟩
            rw [hc]
            clear HE hc
            have y0 := hX5.at 0 rfl
            have y1 := hX5.at 1 rfl
            have y2 := hX5.at 2 rfl
            have y3 := hX5.at 3 rfl
            have y4 := hX5.at 4 rfl
            have y5 := hX5.at 5 rfl
            have y6 := hX5.at 6 rfl
            have y7 := hX5.at 7 rfl
            have y8 := hX5.at 8 rfl
            have y9 := hX5.at 9 rfl
            have y10 := hX5.at 10 rfl
            clear hX5
            go_wp2
            have hRf := hR5.sets [Value.int IntKind.i64 3, .int .i64 n0, .int .i64 0, .slice (some ⟨b, off + 1, none⟩) R.length (cN - 1), .int .i64 0, .int .i64 0, .int .i64 0, .int .i64 0, .int .i64 0, .int .i64 0, .int .i64 0] rfl
            refine ret_cell_tmp Tryd.results12 rfl rfl (hRf.load Tryd.underlying28 rfl sizeRec) ?_
            rw [HE2.out.1, HE2.out.2]
            have hIf := HI5.out.sets (g := w.heap.size) (fun b' off' e => by simp at e; omega) (Nat.lt_succ_self _) [Value.int IntKind.i64 3, .int .i64 n0, .int .i64 0, .slice (some ⟨b, off + 1, none⟩) R.length (cN - 1), .int .i64 0, .int .i64 0, .int .i64 0, .int .i64 0, .int .i64 0, .int .i64 0, .int .i64 0] 0
            have hBf := below_sets HB5.out w.heap.size (Nat.le_refl _) [Value.int IntKind.i64 3, .int .i64 n0, .int .i64 0, .slice (some ⟨b, off + 1, none⟩) R.length (cN - 1), .int .i64 0, .int .i64 0, .int .i64 0, .int .i64 0, .int .i64 0, .int .i64 0, .int .i64 0] 0
            exact ⟨⟨_, rfl, (some ⟨b, off + 1, none⟩), (cN - 1), rfl, hIf, from_mono (fun b' off' e => by simp at e; omega) (Nat.le_succ _), fun e => by simp at e⟩, hBf⟩
          · have HE2 : Hid (readE t = checkRec (3, n0, 0, R, noOp) ∧ readR t = noRec) := ⟨HE.out.1, HE.out.2.1 hc⟩
            have d9 : (checkRec (3, n0, 0, R, noOp) != 0) = true := by simpa using hc
            generalize checkRec (3, n0, 0, R, noOp) = E at *
            clear HE hX5
            go_wp2
            have hRf := hR5.sets zeroRec rfl
            refine ret_cell_tmp Tryd.results12 rfl rfl (hRf.load Tryd.underlying28 rfl sizeRec) ?_
            rw [HE2.out.1, HE2.out.2]
            exact ⟨⟨_, rfl, recIs_none _ _⟩, below_sets HB5.out w.heap.size (Nat.le_refl _) zeroRec 0⟩
      have HE : Hid (readE t = 1 ∧ readR t = noRec) := HP.out.2.1 N HN.out (recOf_none h1 h2 h3)
      clear hI hf hcN hmN
      by_cases e1 : x = wOp
      · have d1 : ((N.length : Int) == 7) = false := by
          have : N.length ≠ 7 := fun e => h1 ⟨e1, e⟩
          simp; omega
        subst e1
        clear h1 h2 h3
        have r0 := HR.out.at 0 rfl
        have r1 := HR.out.at 1 rfl
        have r2 := HR.out.at 2 rfl
        have r3 := HR.out.at 3 rfl
        have r4 := HR.out.at 4 rfl
        have r5 := HR.out.at 5 rfl
        have r6 := HR.out.at 6 rfl
        have r7 := HR.out.at 7 rfl
        have r8 := HR.out.at 8 rfl
        have r9 := HR.out.at 9 rfl
        have r10 := HR.out.at 10 rfl
        have rf := HR.out.frz
        go_wp2
        have hRf := (HR.out.sets zeroRec rfl).alloc (Obj.cells zeroRec.toArray 28)
        refine ret_cell_tmp Tryd.results12 rfl rfl (hRf.load Tryd.underlying28 rfl sizeRec) ?_
        rw [HE.out.1, HE.out.2]
        exact ⟨⟨_, rfl, recIs_none _ _⟩, (below_sets HB.out w.heap.size (Nat.le_refl _) zeroRec 0).alloc (by rw [Go.Sort.size_setCells]; omega) _⟩
      by_cases e2 : x = wLife
      · have d1 : ((N.length : Int) == 2) = false := by
          have : N.length ≠ 2 := fun e => h2 ⟨e2, e⟩
          simp; omega
        subst e2
        clear h1 h2 h3
        have r0 := HR.out.at 0 rfl
        have r1 := HR.out.at 1 rfl
        have r2 := HR.out.at 2 rfl
        have r3 := HR.out.at 3 rfl
        have r4 := HR.out.at 4 rfl
        have r5 := HR.out.at 5 rfl
        have r6 := HR.out.at 6 rfl
        have r7 := HR.out.at 7 rfl
        have r8 := HR.out.at 8 rfl
        have r9 := HR.out.at 9 rfl
        have r10 := HR.out.at 10 rfl
        have rf := HR.out.frz
        go_wp2
        have hRf := (HR.out.sets zeroRec rfl).alloc (Obj.cells zeroRec.toArray 28)
        refine ret_cell_tmp Tryd.results12 rfl rfl (hRf.load Tryd.underlying28 rfl sizeRec) ?_
        rw [HE.out.1, HE.out.2]
        exact ⟨⟨_, rfl, recIs_none _ _⟩, (below_sets HB.out w.heap.size (Nat.le_refl _) zeroRec 0).alloc (by rw [Go.Sort.size_setCells]; omega) _⟩
      by_cases e3 : x = wRoots
      · have d0 : N.length = 0 := by
          have : ¬ 1 ≤ N.length := fun e => h3 ⟨e3, e⟩
          omega
        obtain rfl := List.length_eq_zero_iff.1 d0
        subst e3
        clear h1 h2 h3 d0
        have r0 := HR.out.at 0 rfl
        have r1 := HR.out.at 1 rfl
        have r2 := HR.out.at 2 rfl
        have r3 := HR.out.at 3 rfl
        have r4 := HR.out.at 4 rfl
        have r5 := HR.out.at 5 rfl
        have r6 := HR.out.at 6 rfl
        have r7 := HR.out.at 7 rfl
        have r8 := HR.out.at 8 rfl
        have r9 := HR.out.at 9 rfl
        have r10 := HR.out.at 10 rfl
        have rf := HR.out.frz
        go_wp2
        have hRf := (HR.out.sets zeroRec rfl).alloc (Obj.cells zeroRec.toArray 28)
        refine ret_cell_tmp Tryd.results12 rfl rfl (hRf.load Tryd.underlying28 rfl sizeRec) ?_
        rw [HE.out.1, HE.out.2]
        exact ⟨⟨_, rfl, recIs_none _ _⟩, (below_sets HB.out w.heap.size (Nat.le_refl _) zeroRec 0).alloc (by rw [Go.Sort.size_setCells]; omega) _⟩
      have d1 : (x == [111, 112]) = false := by simpa [wOp] using e1
      have d2 : (x == [108, 105, 102, 101]) = false := by simpa [wLife] using e2
      have d3 : (x == [114, 111, 111, 116, 115]) = false := by simpa [wRoots] using e3
      clear h1 h2 h3 e1 e2 e3
      have r0 := HR.out.at 0 rfl
      have r1 := HR.out.at 1 rfl
      have r2 := HR.out.at 2 rfl
      have r3 := HR.out.at 3 rfl
      have r4 := HR.out.at 4 rfl
      have r5 := HR.out.at 5 rfl
      have r6 := HR.out.at 6 rfl
      have r7 := HR.out.at 7 rfl
      have r8 := HR.out.at 8 rfl
      have r9 := HR.out.at 9 rfl
      have r10 := HR.out.at 10 rfl
      have rf := HR.out.frz
      go_wp2
      have hRf := (HR.out.sets zeroRec rfl).alloc (Obj.cells zeroRec.toArray 28)
      refine ret_cell_tmp Tryd.results12 rfl rfl (hRf.load Tryd.underlying28 rfl sizeRec) ?_
      rw [HE.out.1, HE.out.2]
      exact ⟨⟨_, rfl, recIs_none _ _⟩, (below_sets HB.out w.heap.size (Nat.le_refl _) zeroRec 0).alloc (by rw [Go.Sort.size_setCells]; omega) _⟩
end Go.Proofs.YtjonkadcijnneacDoor

/- orangerylaw.NoteSays: the walk. -/
namespace Go.Proofs.YtjonkadcijnneacDoor
open Go.ChangeShapes Go.WideShapes Go.ChangeAt Go.RowKit
open Orangery (Mv Rc noRec noOp recText recT checkRec parseE parseR readE readR)

theorem parse_read {t : List UInt8} (h : ¬ 60000 < t.length) : parseE t = readE t ∧ parseR t = readR t := by
  unfold parseE parseR
  rw [if_neg h, if_neg h]
  exact ⟨rfl, rfl⟩
theorem parseR_few (t : List UInt8) : (parseR t).2.2.2.1.length ≤ 4 := by
  by_cases h : parseE t = 0
  · exact roots_few (Orangery.text_parse h).1
  · have : parseR t = noRec := by
      unfold parseE at h
      unfold parseR
      split at h
      · rename_i h1; rw [if_pos h1]
      · rename_i h1; rw [if_neg h1]; unfold readR; rw [if_pos h]
    rw [this]
    simp [noRec]

set_option maxHeartbeats 8000000 in
set_option maxRecDepth 100000 in
theorem noteSays_any (w : World) (k u f : Int) (a : Option Addr) (c : Nat) (R : List Int) (o : Mv) (k' u' f' : Int) (a' : Option Addr) (c' : Nat) (R' : List Int) (p : Mv) (t : List UInt8)
    (m1 : R.length ≤ maxLen) (n1 : a = none → c = 0) (h1 : SlI w a R) (_m2 : R'.length ≤ maxLen) (_n2 : a' = none → c' = 0) (h2 : SlI w a' R') (hl : t.length ≤ maxLen) (hv : Vars w) :
    Calls Tryd.prog 3 #[rcV k u f (.slice a R.length c) o, rcV k' u' f' (.slice a' R'.length c') p, txV t] w
      fun e w' => e = .returned (.bool true) ∧ Below w.heap.size w w' := by
  go_enter Tryd.func3, Tryd.ntmps3
  go_wp2_with fail
  obtain ⟨W0, hW, hA0, hC0, hB, -⟩ := laid2 w [Value.int IntKind.i64 k, .int .i64 u, .int .i64 f, .slice a R.length c, .int .i64 o.1, .int .i64 o.2.1, .int .i64 o.2.2.1.1, .int .i64 o.2.2.1.2.1, .int .i64 o.2.2.1.2.2, .int .i64 o.2.2.2.1, .int .i64 o.2.2.2.2] 28 [Value.int IntKind.i64 k', .int .i64 u', .int .i64 f', .slice a' R'.length c', .int .i64 p.1, .int .i64 p.2.1, .int .i64 p.2.2.1.1, .int .i64 p.2.2.1.2.1, .int .i64 p.2.2.1.2.2, .int .i64 p.2.2.2.1, .int .i64 p.2.2.2.2] 28
  rw [hW]
  clear hW
  have hI0 := h1.below hB
  have hJ0 := h2.below hB
  have HV0 := Lib.hid (hv.on hB)
  have HB0 := Lib.hid hB
  clear h1 h2 hv hB
  refine (nprint_any W0 k u f a c R o m1 n1 hI0 HV0.out).mono ?_
  rintro e w1 ⟨rfl, hb⟩
  have hA1 := hA0.keep hb
  have hC1 := hC0.keep hb
  have hI1 := hI0.below hb
  have hJ1 := hJ0.below hb
  have HV1 := Lib.hid (HV0.out.on hb)
  have HB1 : Hid (Below w.heap.size w w1) := HB0.out.trans (hb.mono HB0.out.size)
  clear hA0 hC0 hI0 hJ0 HV0 HB0 hb
  go_wp2_with fail
  have hz4 := parseR_few t
  refine (nparse_any w1 t hl HV1.out).mono ?_
  rintro e w2 ⟨⟨vP, rfl, za, zc, eP, hzI, hzF, hzN⟩, hb⟩
  have hA2 := hA1.keep hb
  have hC2 := hC1.keep hb
  have hI2 := hI1.below hb
  have hJ2 := hJ1.below hb
  have HV2 := Lib.hid (HV1.out.on hb)
  have HB2 : Hid (Below w.heap.size w w2) := HB1.out.trans (hb.mono HB1.out.size)
  clear hA1 hC1 hI1 hJ1 HV1 HB1 hb
  obtain ⟨z, hz⟩ : ∃ z, parseR t = z := ⟨_, rfl⟩
  rw [hz] at eP hzI hz4
  have HZ := Lib.hid hz
  clear hz hzF hzN
  obtain ⟨zk, zu, zf, zR, zo⟩ := z
  replace eP : vP = rcV zk zu zf (.slice za zR.length zc) zo := eP
  have hX2 : SlI w2 za zR := hzI
  have hz4 : zR.length ≤ 4 := hz4
  clear hzI
  subst eP
  have hY3 := Blk.new w2 [Value.int IntKind.i64 zk, .int .i64 zu, .int .i64 zf, .slice za zR.length zc, .int .i64 zo.1, .int .i64 zo.2.1, .int .i64 zo.2.2.1.1, .int .i64 zo.2.2.1.2.1, .int .i64 zo.2.2.1.2.2, .int .i64 zo.2.2.2.1, .int .i64 zo.2.2.2.2] 28
  have hb := Go.Joins.below_alloc1 w2 (Obj.cells [Value.int IntKind.i64 zk, .int .i64 zu, .int .i64 zf, .slice za zR.length zc, .int .i64 zo.1, .int .i64 zo.2.1, .int .i64 zo.2.2.1.1, .int .i64 zo.2.2.1.2.1, .int .i64 zo.2.2.1.2.2, .int .i64 zo.2.2.2.1, .int .i64 zo.2.2.2.2].toArray 28)
  have hA3 := hA2.keep hb
  have hC3 := hC2.keep hb
  have hI3 := hI2.below hb
  have hJ3 := hJ2.below hb
  have hX3 := hX2.below hb
  have HV3 := Lib.hid (HV2.out.on hb)
  have HB3 : Hid (Below w.heap.size w (w2.alloc (Obj.cells [Value.int IntKind.i64 zk, .int .i64 zu, .int .i64 zf, .slice za zR.length zc, .int .i64 zo.1, .int .i64 zo.2.1, .int .i64 zo.2.2.1.1, .int .i64 zo.2.2.1.2.1, .int .i64 zo.2.2.1.2.2, .int .i64 zo.2.2.2.1, .int .i64 zo.2.2.2.2].toArray 28))) := HB2.out.trans (hb.mono HB2.out.size)
  clear hA2 hC2 hI2 hJ2 hX2 HV2 HB2 hb
  have x0 := hA3.at 0 rfl
  have x1 := hA3.at 1 rfl
  have x2 := hA3.at 2 rfl
  have x3 := hA3.at 3 rfl
  have x4 := hA3.at 4 rfl
  have x5 := hA3.at 5 rfl
  have x6 := hA3.at 6 rfl
  have x7 := hA3.at 7 rfl
  have x8 := hA3.at 8 rfl
  have x9 := hA3.at 9 rfl
  have x10 := hA3.at 10 rfl
  go_wp2_with fail
  clear x0 x1 x2 x3 x4 x5 x6 x7 x8 x9 x10
  generalize w2.alloc (Obj.cells [Value.int IntKind.i64 zk, .int .i64 zu, .int .i64 zf, .slice za zR.length zc, .int .i64 zo.1, .int .i64 zo.2.1, .int .i64 zo.2.2.1.1, .int .i64 zo.2.2.1.2.1, .int .i64 zo.2.2.1.2.2, .int .i64 zo.2.2.2.1, .int .i64 zo.2.2.2.2].toArray 28) = W3 at *
  refine (rrecText_any W3 k u f a c R o m1 hI3 HV3.out).mono ?_
  rintro e w4 ⟨rfl, hb⟩
  have hA4 := hA3.keep hb
  have hC4 := hC3.keep hb
  have hI4 := hI3.below hb
  have hJ4 := hJ3.below hb
  have hX4 := hX3.below hb
  have hY4 := hY3.keep hb
  have HV4 := Lib.hid (HV3.out.on hb)
  have HB4 : Hid (Below w.heap.size w w4) := HB3.out.trans (hb.mono HB3.out.size)
  clear hA3 hC3 hI3 hJ3 hX3 hY3 HV3 HB3 hb
  go_upto_region 4 with fail
  have HA : Hid (Blk w4 w.heap.size [Value.int IntKind.i64 k, .int .i64 u, .int .i64 f, .slice a R.length c, .int .i64 o.1, .int .i64 o.2.1, .int .i64 o.2.2.1.1, .int .i64 o.2.2.1.2.1, .int .i64 o.2.2.1.2.2, .int .i64 o.2.2.2.1, .int .i64 o.2.2.2.2]) := hA4
  have HC : Hid (Blk w4 (w.heap.size + 1) [Value.int IntKind.i64 k', .int .i64 u', .int .i64 f', .slice a' R'.length c', .int .i64 p.1, .int .i64 p.2.1, .int .i64 p.2.2.1.1, .int .i64 p.2.2.1.2.1, .int .i64 p.2.2.1.2.2, .int .i64 p.2.2.2.1, .int .i64 p.2.2.2.2]) := hC4
  have HI : Hid (SlI w4 a R) := hI4
  have HJ : Hid (SlI w4 a' R') := hJ4
  have HX : Hid (SlI w4 za zR) := hX4
  have HY : Hid (Blk w4 w2.heap.size [Value.int IntKind.i64 zk, .int .i64 zu, .int .i64 zf, .slice za zR.length zc, .int .i64 zo.1, .int .i64 zo.2.1, .int .i64 zo.2.2.1.1, .int .i64 zo.2.2.1.2.1, .int .i64 zo.2.2.1.2.2, .int .i64 zo.2.2.2.1, .int .i64 zo.2.2.2.2]) := hY4
  clear hA4 hC4 hI4 hJ4 hX4 hY4
  have hS' : Below w4.heap.size w4 w4.drew := (Below.refl _ w4).drew
  refine wp_region_held_drew (S := fun w' => Below w4.heap.size w4 w') (by kernel_rfl) hS' (fun hHeld => ?_)
  refine wpAnyH_ready (rs := [0]) (by kernel_rfl) (by simp) ?_
  refine AllReadyH.cons rfl (fun K hK => ?_) AllReadyH.nil
  go_simp
  refine (lined_any _ (HV4.out.on hS')).mono ?_
  rintro e wn ⟨rfl, hb⟩
  have hS' : Below w4.heap.size w4 wn := Below.trans hS' (hb.mono (Below.size hS'))
  clear hb
  go_wp2_with fail
  refine hK.out _ _ hS' (fun hHeld => ?_)
  clear hK K
  refine take_yes 1 31 (v := ?_) rfl rfl (by kernel_rfl) (by kernel_rfl) (by kernel_rfl) (fun _ _ _ h => h) (by rfl) ?_ hHeld ?_
  rotate_left 1
  · (intro w hSw; go_simp; try with_reducible rfl)
  simp only [Act.put, List.setIfInBounds_toArray, List.set_cons_succ, List.set_cons_zero]
  refine take_yes 2 32 (v := ?_) rfl rfl (by kernel_rfl) (by kernel_rfl) (by kernel_rfl) (fun _ _ _ h => h) (by rfl) ?_ hHeld ?_
  rotate_left 1
  · (intro w hSw; go_simp; try with_reducible rfl)
  simp only [Act.put, List.setIfInBounds_toArray, List.set_cons_succ, List.set_cons_zero]
  refine take_load 3 33 28 w.heap.size [Value.int IntKind.i64 k, .int .i64 u, .int .i64 f, .slice a R.length c, .int .i64 o.1, .int .i64 o.2.1, .int .i64 o.2.2.1.1, .int .i64 o.2.2.1.2.1, .int .i64 o.2.2.1.2.2, .int .i64 o.2.2.2.1, .int .i64 o.2.2.2.2] rfl rfl (by kernel_rfl) (by kernel_rfl) (by kernel_rfl) (fun _ _ _ h => h) (by rfl) (by rfl) (by rfl) (fun w hw => (HA.out.keep hw).range) Tryd.underlying28 rfl sizeRec hHeld ?_
  simp only [Act.put, List.setIfInBounds_toArray, List.set_cons_succ, List.set_cons_zero]
  refine take_yes 5 35 (v := ?_) rfl rfl (by kernel_rfl) (by kernel_rfl) (by kernel_rfl) (fun _ _ _ h => h) (by rfl) ?_ hHeld ?_
  rotate_left 1
  · (intro w hSw; go_simp; try with_reducible rfl)
  simp only [Act.put, List.setIfInBounds_toArray, List.set_cons_succ, List.set_cons_zero]
  refine wpAnyH_ready (rs := [4]) (by kernel_rfl) (by simp) ?_
  refine AllReadyH.cons rfl (fun K hK => ?_) AllReadyH.nil
  go_simp
  refine (ncheck_any _ k u f a c R o m1 (HI.out.below hS')).mono ?_
  rintro e wn ⟨rfl, hb⟩
  have hS' : Below w4.heap.size w4 wn := Below.trans hS' (hb.mono (Below.size hS'))
  clear hb
  go_wp2_with fail
  refine hK.out _ _ hS' (fun hHeld => ?_)
  clear hK K
  refine take_yes 6 36 (v := ?_) rfl rfl (by kernel_rfl) (by kernel_rfl) (by kernel_rfl) (fun _ _ _ h => h) (by rfl) ?_ hHeld ?_
  rotate_left 1
  · (intro w hSw; go_simp; try with_reducible rfl)
  simp only [Act.put, List.setIfInBounds_toArray, List.set_cons_succ, List.set_cons_zero]
  refine take_yes 7 37 (v := ?_) rfl rfl (by kernel_rfl) (by kernel_rfl) (by kernel_rfl) (fun _ _ _ h => h) (by rfl) ?_ hHeld ?_
  rotate_left 1
  · (intro w hSw; go_simp; try with_reducible rfl)
  simp only [Act.put, List.setIfInBounds_toArray, List.set_cons_succ, List.set_cons_zero]
  refine take_yes 8 38 (v := ?_) rfl rfl (by kernel_rfl) (by kernel_rfl) (by kernel_rfl) (fun _ _ _ h => h) (by rfl) ?_ hHeld ?_
  rotate_left 1
  · (intro w hSw; go_simp; try with_reducible rfl)
  simp only [Act.put, List.setIfInBounds_toArray, List.set_cons_succ, List.set_cons_zero]
  refine take_yes 9 39 (v := ?_) rfl rfl (by kernel_rfl) (by kernel_rfl) (by kernel_rfl) (fun _ _ _ h => h) (by rfl) ?_ hHeld ?_
  rotate_left 1
  · (intro w hSw; go_simp; try with_reducible rfl)
  simp only [Act.put, List.setIfInBounds_toArray, List.set_cons_succ, List.set_cons_zero]
  refine take_yes 10 40 (v := ?_) rfl rfl (by kernel_rfl) (by kernel_rfl) (by kernel_rfl) (fun _ _ _ h => h) (by rfl) ?_ hHeld ?_
  rotate_left 1
  · (intro w hSw; go_simp; try with_reducible rfl)
  simp only [Act.put, List.setIfInBounds_toArray, List.set_cons_succ, List.set_cons_zero]
  refine take_yes 11 41 (v := ?_) rfl rfl (by kernel_rfl) (by kernel_rfl) (by kernel_rfl) (fun _ _ _ h => h) (by rfl) ?_ hHeld ?_
  rotate_left 1
  · (intro w hSw; go_simp; try with_reducible rfl)
  simp only [Act.put, List.setIfInBounds_toArray, List.set_cons_succ, List.set_cons_zero]
  refine take_yes 12 42 (v := ?_) rfl rfl (by kernel_rfl) (by kernel_rfl) (by kernel_rfl) (fun _ _ _ h => h) (by rfl) ?_ hHeld ?_
  rotate_left 1
  · (intro w hSw; go_simp; try with_reducible rfl)
  simp only [Act.put, List.setIfInBounds_toArray, List.set_cons_succ, List.set_cons_zero]
  refine take_yes 13 43 (v := ?_) rfl rfl (by kernel_rfl) (by kernel_rfl) (by kernel_rfl) (fun _ _ _ h => h) (by rfl) ?_ hHeld ?_
  rotate_left 1
  · (intro w hSw; go_simp; try with_reducible rfl)
  simp only [Act.put, List.setIfInBounds_toArray, List.set_cons_succ, List.set_cons_zero]
  refine take_yes 14 44 (v := ?_) rfl rfl (by kernel_rfl) (by kernel_rfl) (by kernel_rfl) (fun _ _ _ h => h) (by rfl) ?_ hHeld ?_
  rotate_left 1
  · (intro w hSw; go_simp; try with_reducible rfl)
  simp only [Act.put, List.setIfInBounds_toArray, List.set_cons_succ, List.set_cons_zero]
  refine take_yes 15 45 (v := ?_) rfl rfl (by kernel_rfl) (by kernel_rfl) (by kernel_rfl) (fun _ _ _ h => h) (by rfl) ?_ hHeld ?_
  rotate_left 1
  · (intro w hSw; go_simp; try with_reducible rfl)
  simp only [Act.put, List.setIfInBounds_toArray, List.set_cons_succ, List.set_cons_zero]
  refine take_yes 16 46 (v := ?_) rfl rfl (by kernel_rfl) (by kernel_rfl) (by kernel_rfl) (fun _ _ _ h => h) (by rfl) ?_ hHeld ?_
  rotate_left 1
  · (intro w hSw; go_simp; try with_reducible rfl)
  simp only [Act.put, List.setIfInBounds_toArray, List.set_cons_succ, List.set_cons_zero]
  refine take_yes 17 47 (v := ?_) rfl rfl (by kernel_rfl) (by kernel_rfl) (by kernel_rfl) (fun _ _ _ h => h) (by rfl) ?_ hHeld ?_
  rotate_left 1
  · (intro w hSw; go_simp; try with_reducible rfl)
  simp only [Act.put, List.setIfInBounds_toArray, List.set_cons_succ, List.set_cons_zero]
  refine take_yes 18 48 (v := ?_) rfl rfl (by kernel_rfl) (by kernel_rfl) (by kernel_rfl) (fun _ _ _ h => h) (by rfl) ?_ hHeld ?_
  rotate_left 1
  · (intro w hSw; go_simp; try with_reducible rfl)
  simp only [Act.put, List.setIfInBounds_toArray, List.set_cons_succ, List.set_cons_zero]
  refine take_load 19 49 28 w.heap.size [Value.int IntKind.i64 k, .int .i64 u, .int .i64 f, .slice a R.length c, .int .i64 o.1, .int .i64 o.2.1, .int .i64 o.2.2.1.1, .int .i64 o.2.2.1.2.1, .int .i64 o.2.2.1.2.2, .int .i64 o.2.2.2.1, .int .i64 o.2.2.2.2] rfl rfl (by kernel_rfl) (by kernel_rfl) (by kernel_rfl) (fun _ _ _ h => h) (by rfl) (by rfl) (by rfl) (fun w hw => (HA.out.keep hw).range) Tryd.underlying28 rfl sizeRec hHeld ?_
  simp only [Act.put, List.setIfInBounds_toArray, List.set_cons_succ, List.set_cons_zero]
  refine take_load 20 50 28 (w.heap.size + 1) [Value.int IntKind.i64 k', .int .i64 u', .int .i64 f', .slice a' R'.length c', .int .i64 p.1, .int .i64 p.2.1, .int .i64 p.2.2.1.1, .int .i64 p.2.2.1.2.1, .int .i64 p.2.2.1.2.2, .int .i64 p.2.2.2.1, .int .i64 p.2.2.2.2] rfl rfl (by kernel_rfl) (by kernel_rfl) (by kernel_rfl) (fun _ _ _ h => h) (by rfl) (by rfl) (by rfl) (fun w hw => (HC.out.keep hw).range) Tryd.underlying28 rfl sizeRec hHeld ?_
  simp only [Act.put, List.setIfInBounds_toArray, List.set_cons_succ, List.set_cons_zero]
  refine take_load 22 52 28 w.heap.size [Value.int IntKind.i64 k, .int .i64 u, .int .i64 f, .slice a R.length c, .int .i64 o.1, .int .i64 o.2.1, .int .i64 o.2.2.1.1, .int .i64 o.2.2.1.2.1, .int .i64 o.2.2.1.2.2, .int .i64 o.2.2.2.1, .int .i64 o.2.2.2.2] rfl rfl (by kernel_rfl) (by kernel_rfl) (by kernel_rfl) (fun _ _ _ h => h) (by rfl) (by rfl) (by rfl) (fun w hw => (HA.out.keep hw).range) Tryd.underlying28 rfl sizeRec hHeld ?_
  simp only [Act.put, List.setIfInBounds_toArray, List.set_cons_succ, List.set_cons_zero]
  refine take_load 23 53 28 (w.heap.size + 1) [Value.int IntKind.i64 k', .int .i64 u', .int .i64 f', .slice a' R'.length c', .int .i64 p.1, .int .i64 p.2.1, .int .i64 p.2.2.1.1, .int .i64 p.2.2.1.2.1, .int .i64 p.2.2.1.2.2, .int .i64 p.2.2.2.1, .int .i64 p.2.2.2.2] rfl rfl (by kernel_rfl) (by kernel_rfl) (by kernel_rfl) (fun _ _ _ h => h) (by rfl) (by rfl) (by rfl) (fun w hw => (HC.out.keep hw).range) Tryd.underlying28 rfl sizeRec hHeld ?_
  simp only [Act.put, List.setIfInBounds_toArray, List.set_cons_succ, List.set_cons_zero]
  refine wpAnyH_ready (rs := [21]) (by kernel_rfl) (by simp) ?_
  refine AllReadyH.cons rfl (fun K hK => ?_) AllReadyH.nil
  go_simp
  refine (nsame_any _ k u f k' u' f' a a' c c' R R' o p m1 (HI.out.below hS') (HJ.out.below hS')).mono ?_
  rintro e wn ⟨rfl, hb⟩
  have hS' : Below w4.heap.size w4 wn := Below.trans hS' (hb.mono (Below.size hS'))
  clear hb
  go_wp2_with fail
  refine hK.out _ _ hS' (fun hHeld => ?_)
  clear hK K
  refine wpAnyH_ready (rs := [24]) (by kernel_rfl) (by simp) ?_
  refine AllReadyH.cons rfl (fun K hK => ?_) AllReadyH.nil
  go_simp
  refine (rsameRec_any _ k u f k' u' f' a a' c c' R R' o p m1 (HI.out.below hS') (HJ.out.below hS')).mono ?_
  rintro e wn ⟨rfl, hb⟩
  have hS' : Below w4.heap.size w4 wn := Below.trans hS' (hb.mono (Below.size hS'))
  clear hb
  go_wp2_with fail
  refine hK.out _ _ hS' (fun hHeld => ?_)
  clear hK K
  refine take_yes 25 55 (v := ?_) rfl rfl (by kernel_rfl) (by kernel_rfl) (by kernel_rfl) (fun _ _ _ h => h) (by rfl) ?_ hHeld ?_
  rotate_left 1
  · (intro w hSw; go_simp; try with_reducible rfl)
  simp only [Act.put, List.setIfInBounds_toArray, List.set_cons_succ, List.set_cons_zero]
  refine take_yes 26 56 (v := ?_) rfl rfl (by kernel_rfl) (by kernel_rfl) (by kernel_rfl) (fun _ _ _ h => h) (by rfl) ?_ hHeld ?_
  rotate_left 1
  · (intro w hSw; go_simp; try with_reducible rfl)
  simp only [Act.put, List.setIfInBounds_toArray, List.set_cons_succ, List.set_cons_zero]
  refine wpAnyH_done (by kernel_rfl) ?_ _
  rename World => w5
  have HB5 : Hid (Below w.heap.size w w5) := HB4.out.trans (hS'.mono HB4.out.size)
  have HV5 := Lib.hid (HV4.out.on hS')
  have hX5 := HX.out.below hS'
  have hY5 := HY.out.keep hS'
  clear hS' hHeld HA HC HI HJ HX HY HB4 HV4
  have hl' : t.length ≤ 9223372036854775807 := hl
  have y0 := hY5.at 0 rfl
  have y1 := hY5.at 1 rfl
  have y2 := hY5.at 2 rfl
  have y3 := hY5.at 3 rfl
  have y4 := hY5.at 4 rfl
  have y5 := hY5.at 5 rfl
  have y6 := hY5.at 6 rfl
  have y7 := hY5.at 7 rfl
  have y8 := hY5.at 8 rfl
  have y9 := hY5.at 9 rfl
  have y10 := hY5.at 10 rfl
  by_cases h6 : 60000 < t.length
  · have d1 : decide ((t.length : Int) > 60000) = true := by simp; omega
    have e1 := (parse_long h6).1
    have e2 : (zk, zu, zf, zR, zo) = noRec := by rw [← HZ.out]; exact (parse_long h6).2
    obtain ⟨rfl, rfl, rfl, rfl, rfl⟩ : zk = 0 ∧ zu = 0 ∧ zf = 0 ∧ zR = [] ∧ zo = noOp := by
      simp [noRec] at e2
      exact e2
    rw [e1]
    have hsm := rsameRec_any w5 0 0 0 0 0 0 za none zc 0 [] [] noOp noOp (by simp) SlI.nil SlI.nil
    rw [sameR_yes rfl] at hsm
    have HSM := Lib.hid hsm
    clear hsm e1 e2 h6 hX5 hz4
    go_wp2_with fail
    refine HSM.out.mono ?_
    rintro e w6 ⟨rfl, hb⟩
    have HB6 : Hid (Below w.heap.size w w6) := HB5.out.trans (hb.mono HB5.out.size)
    clear hb HSM
    go_wp2
    go_ret
    exact ⟨rfl, HB6.out⟩
  · have d1 : decide ((t.length : Int) > 60000) = false := by simp; omega
    have hl6 : t.length ≤ 60000 := by omega
    obtain ⟨e1, e2⟩ := parse_read h6
    have e3 : readR t = (zk, zu, zf, zR, zo) := by rw [← HZ.out]; exact e2.symm
    rw [e1]
    have hrd := rrecRead_any w5 t hl6 HV5.out
    rw [e3] at hrd
    have HRD := Lib.hid hrd
    clear hrd e1 e2 e3 h6 hl6
    go_wp2_with fail
    refine HRD.out.mono ?_
    rintro e w6 ⟨⟨vQ, rfl, qa, qc, eQ, hqI, _, _⟩, hb⟩
    replace eQ : vQ = rcV zk zu zf (.slice qa zR.length qc) zo := eQ
    replace hqI : SlI w6 qa zR := hqI
    subst eQ
    have hX6 := hX5.below hb
    have hY6 := hY5.keep hb
    have HB6 : Hid (Below w.heap.size w w6) := HB5.out.trans (hb.mono HB5.out.size)
    clear hb HRD hX5 hY5
    clear y0 y1 y2 y3 y4 y5 y6 y7 y8 y9 y10
    have hY7 := hY6.keep (Go.Joins.below_alloc1 w6 (Obj.cells [Value.int IntKind.i64 zk, .int .i64 zu, .int .i64 zf, .slice qa zR.length qc, .int .i64 zo.1, .int .i64 zo.2.1, .int .i64 zo.2.2.1.1, .int .i64 zo.2.2.1.2.1, .int .i64 zo.2.2.1.2.2, .int .i64 zo.2.2.2.1, .int .i64 zo.2.2.2.2].toArray 28))
    have y0 := hY7.at 0 rfl
    have y1 := hY7.at 1 rfl
    have y2 := hY7.at 2 rfl
    have y3 := hY7.at 3 rfl
    have y4 := hY7.at 4 rfl
    have y5 := hY7.at 5 rfl
    have y6 := hY7.at 6 rfl
    have y7 := hY7.at 7 rfl
    have y8 := hY7.at 8 rfl
    have y9 := hY7.at 9 rfl
    have y10 := hY7.at 10 rfl
    have hne6 : ¬ w6.heap.size = w2.heap.size := by have := hY6.lt; omega
    have hbq := Go.Joins.below_alloc1 w6 (Obj.cells [Value.int IntKind.i64 zk, .int .i64 zu, .int .i64 zf, .slice qa zR.length qc, .int .i64 zo.1, .int .i64 zo.2.1, .int .i64 zo.2.2.1.1, .int .i64 zo.2.2.1.2.1, .int .i64 zo.2.2.1.2.2, .int .i64 zo.2.2.2.1, .int .i64 zo.2.2.2.2].toArray 28)
    have hsm := rsameRec_any (w6.alloc (Obj.cells [Value.int IntKind.i64 zk, .int .i64 zu, .int .i64 zf, .slice qa zR.length qc, .int .i64 zo.1, .int .i64 zo.2.1, .int .i64 zo.2.2.1.1, .int .i64 zo.2.2.1.2.1, .int .i64 zo.2.2.1.2.2, .int .i64 zo.2.2.2.1, .int .i64 zo.2.2.2.2].toArray 28)) zk zu zf zk zu zf za qa zc qc zR zR zo zo (by unfold maxLen; omega) (hX6.below hbq) (hqI.below hbq)
    rw [sameR_yes rfl] at hsm
    have HSM := Lib.hid hsm
    have HB7 : Hid (Below w.heap.size w (w6.alloc (Obj.cells [Value.int IntKind.i64 zk, .int .i64 zu, .int .i64 zf, .slice qa zR.length qc, .int .i64 zo.1, .int .i64 zo.2.1, .int .i64 zo.2.2.1.1, .int .i64 zo.2.2.1.2.1, .int .i64 zo.2.2.1.2.2, .int .i64 zo.2.2.2.1, .int .i64 zo.2.2.2.2].toArray 28))) := HB6.out.trans (hbq.mono HB6.out.size)
    clear hsm hbq hX6 hqI
    go_wp2_with fail
    refine HSM.out.mono ?_
    rintro e w8 ⟨rfl, hb⟩
    have HB8 : Hid (Below w.heap.size w w8) := HB7.out.trans (hb.mono HB7.out.size)
    clear hb HSM
    go_wp2
    go_ret
    exact ⟨rfl, HB8.out⟩
end Go.Proofs.YtjonkadcijnneacDoor

/- A tree that came in as an argument: which places it holds. -/
namespace Go.Proofs.YtjonkadcijnneacDoor
open Go.ChangeShapes Go.WideShapes Go.ChangeAt Go.RowKit
open Orangery (Pl)

theorem cells3_of {w : World} {base : Nat} {a : Addr} {cs : List Value} (h : w.cells? base a 3 = some cs) :
    ∃ x y z, cs = [x, y, z] ∧ w.cell? (a.add 0) = some x ∧ w.cell? (a.add 1) = some y ∧ w.cell? (a.add 2) = some z := by
  unfold World.cells? at h
  split at h
  · simp only [show List.range 3 = [0, 1, 2] from rfl, List.mapM_cons, List.mapM_nil] at h
    cases h0 : w.cell? (a.add 0) with
    | none => simp [h0] at h
    | some x =>
      cases h1 : w.cell? (a.add 1) with
      | none => simp [h0, h1] at h
      | some y =>
        cases h2 : w.cell? (a.add 2) with
        | none => simp [h0, h1, h2] at h
        | some z =>
          simp [h0, h1, h2] at h
          exact ⟨x, y, z, h.symm, rfl, rfl, rfl⟩
  · simp at h

theorem add_at (b off i : Nat) : (⟨b, off, none⟩ : Addr).add i = ⟨b, off + i, none⟩ := by
  unfold Addr.add
  by_cases hz : i = 0 <;> simp [hz]

end Go.Proofs.YtjonkadcijnneacDoor

/- Operations and steps that came in as arguments. -/
namespace Go.Proofs.YtjonkadcijnneacDoor
open Go.ChangeShapes Go.WideShapes Go.ChangeAt Go.RowKit
open Orangery (Pl Mv Stp)

theorem list7 {cs : List Value} (h : cs.length = 7) : ∃ a b c d e f g, cs = [a, b, c, d, e, f, g] := by
  match cs, h with
  | [a, b, c, d, e, f, g], _ => exact ⟨a, b, c, d, e, f, g, rfl⟩
theorem list11 {cs : List Value} (h : cs.length = 11) : ∃ a b c d e f g i j k l, cs = [a, b, c, d, e, f, g, i, j, k, l] := by
  match cs, h with
  | [a, b, c, d, e, f, g, i, j, k, l], _ => exact ⟨a, b, c, d, e, f, g, i, j, k, l, rfl⟩

set_option maxRecDepth 100000 in
theorem open_opC {H : Type} {enc : TypeId × Value → H} {w : World} {base fuel : Nat} {spare : Nat → Bool} {held : Bool} {cs : List Value} {x : DataW H × List MemPlace}
    (h : DataW.trod enc Tryd.prog w base spare held fuel 26 cs = some x) : ∃ o : Mv, cs = opC o := by
  obtain ⟨xs, n, _, _, hl, hlen, hf⟩ := DataW.trod_struct Tryd.underlying26 h
  have hC : Tryd.prog.cellsOf 26 = 7 := by kernel_rfl
  have hI : Tryd.prog.cellsOf 3 = 1 := by kernel_rfl
  have hT : Tryd.prog.cellsOf 24 = 2 := by kernel_rfl
  rw [hC] at hl
  obtain ⟨c0, c1, c2, c3, c4, c5, c6, rfl⟩ := list7 hl
  have hx : xs.length = 6 := hlen
  have g0 := hf 0 _ rfl
  have g1 := hf 1 _ rfl
  have g2 := hf 2 _ rfl
  have g3 := hf 3 _ rfl
  have g4 := hf 4 _ rfl
  have g5 := hf 5 _ rfl
  simp [hI, hT] at g0 g1 g2 g3 g4 g5
  rw [List.getElem?_eq_getElem (by omega)] at g0 g1 g2 g3 g4 g5
  obtain ⟨o3, e3, _, _⟩ := DataW.trod_int Tryd.underlying3 g1
  obtain ⟨o4, e4, _, _⟩ := DataW.trod_int Tryd.underlying3 g2
  obtain ⟨o5, e5, _, _⟩ := DataW.trod_int Tryd.underlying3 g3
  obtain ⟨o6, e6, _, _⟩ := DataW.trod_int Tryd.underlying3 g4
  obtain ⟨o7, e7, _, _⟩ := DataW.trod_int Tryd.underlying3 g5
  obtain ⟨y0, y1, n', _, _, t0, t1⟩ := trod_struct2 Tryd.underlying24 g0
  simp [hI] at t0 t1
  obtain ⟨o1, e1, _, _⟩ := DataW.trod_int Tryd.underlying3 t0
  obtain ⟨o2, e2, _, _⟩ := DataW.trod_int Tryd.underlying3 t1
  simp at e1 e2 e3 e4 e5 e6 e7
  subst e1 e2 e3 e4 e5 e6 e7
  exact ⟨(o1, o2, (o3, o4, o5), o6, o7), rfl⟩

set_option maxRecDepth 100000 in
/-- an operation that came in -/
theorem open_op {H : Type} {enc : TypeId × Value → H} {w : World} {r : Reach} {b0 base : Nat} {spare : Nat → Bool} {held : Bool} {v : Value} {d : DataW H} {p : List MemPlace}
    (hv : Value.okWide Tryd.prog w r b0 26 v) (h : DataW.Trod enc Tryd.prog w base spare held 26 v d p) : ∃ o : Mv, v = opV o := by
  obtain ⟨cs, rfl, hsz⟩ := okWide_struct Tryd.underlying26 hv
  obtain ⟨fuel, hf⟩ := h
  obtain ⟨o, ho⟩ := open_opC hf
  refine ⟨o, ?_⟩
  have : cs = (opC o).toArray := by rw [← ho]; simp [Value.cells]
  rw [this]
  rfl

end Go.Proofs.YtjonkadcijnneacDoor

