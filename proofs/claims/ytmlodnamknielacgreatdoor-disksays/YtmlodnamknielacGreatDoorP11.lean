/- 5 texts of the proof: strings.SplitAfter and strings.HasSuffix are the library's, by their own laws. strings.SplitAfter, strings.HasSuffix at a line feed. Plain facts on texts: words cut off one by one. orangeryref.RecRead. orangeryref.linesOf. -/
import Derived.Shelf.Strings.Split
import Derived.Shelf.Strings.Prefix
import Derived.Test.YtmlodnamknielacGreatDoorProg
import Derived.Deep.DeepCutAuto
import Derived.Test.YtmlodnamknielacGreatDoorP04
import Derived.Test.YtmlodnamknielacGreatDoorP07
import Derived.Test.YtmlodnamknielacGreatDoorP03
import Derived.Test.YtmlodnamknielacGreatDoorP08
/- strings.SplitAfter and strings.HasSuffix are the library's, by their own laws. -/
namespace Go.Proofs
open Go.Shelf
def Tryz.lays221_ren : Go.Shelf.Ren := ⟨fun | 221 => 49 | 268 => 66 | 138 => 67 | 143 => 68 | 195 => 84 | 197 => 85 | 218 => 86 | 219 => 87 | 260 => 102 | 217 => 103 | 225 => 104 | 224 => 81 | 267 => 105 | 266 => 112 | 314 => 113 | n => n, fun | 9 => 9 | 3 => 3 | 31 => 78 | 4 => 4 | 0 => 0 | 105 => 121 | 21 => 21 | 5 => 5 | 46 => 119 | 119 => 146 | 139 => 149 | 138 => 148 | 146 => 137 | 51 => 133 | n => n, fun | 1 => 0 | 3 => 4 | 4 => 5 | n => n⟩
theorem Tryz.lays221 : Go.Proofs.Lays.n221 Tryz.prog Tryz.lays221_ren := {
  mixed := by kernel_rfl
  f138 := Tryz.func67.trans (congrArg some (by kernel_rfl))
  f143 := Tryz.func68.trans (congrArg some (by kernel_rfl))
  f195 := Tryz.func84.trans (congrArg some (by kernel_rfl))
  f197 := Tryz.func85.trans (congrArg some (by kernel_rfl))
  f217 := Tryz.func103.trans (congrArg some (by kernel_rfl))
  f218 := Tryz.func86.trans (congrArg some (by kernel_rfl))
  f219 := Tryz.func87.trans (congrArg some (by kernel_rfl))
  f221 := Tryz.func49.trans (congrArg some (by kernel_rfl))
  f224 := Tryz.func81.trans (congrArg some (by kernel_rfl))
  f225 := Tryz.func104.trans (congrArg some (by kernel_rfl))
  f260 := Tryz.func102.trans (congrArg some (by kernel_rfl))
  f266 := Tryz.func112.trans (congrArg some (by kernel_rfl))
  f267 := Tryz.func105.trans (congrArg some (by kernel_rfl))
  f268 := Tryz.func66.trans (congrArg some (by kernel_rfl))
  f314 := Tryz.func113.trans (congrArg some (by kernel_rfl))
  t0 := Tryz.underlying0
  a0 := Tryz.isAgg0
  z0 := Tryz.sizeOf0
  v0 := Tryz.zeroValue0
  t3 := Tryz.underlying3
  a3 := Tryz.isAgg3
  z3 := Tryz.sizeOf3
  v3 := Tryz.zeroValue3
  t4 := Tryz.underlying4
  a4 := Tryz.isAgg4
  z4 := Tryz.sizeOf4
  v4 := Tryz.zeroValue4
  t5 := Tryz.underlying5
  a5 := Tryz.isAgg5
  z5 := Tryz.sizeOf5
  v5 := Tryz.zeroValue5
  t9 := Tryz.underlying9
  a9 := Tryz.isAgg9
  z9 := Tryz.sizeOf9
  v9 := Tryz.zeroValue9
  t21 := Tryz.underlying21
  a21 := Tryz.isAgg21
  z21 := Tryz.sizeOf21
  v21 := Tryz.zeroValue21
  t31 := Tryz.underlying78
  a31 := Tryz.isAgg78
  z31 := Tryz.sizeOf78
  v31 := Tryz.zeroValue78
  t46 := Tryz.underlying119
  a46 := Tryz.isAgg119
  z46 := Tryz.sizeOf119
  v46 := Tryz.zeroValue119
  t51 := Tryz.underlying133
  a51 := Tryz.isAgg133
  z51 := Tryz.sizeOf133
  v51 := Tryz.zeroValue133
  t105 := Tryz.underlying121
  a105 := Tryz.isAgg121
  z105 := Tryz.sizeOf121
  v105 := Tryz.zeroValue121
  t119 := Tryz.underlying146
  a119 := Tryz.isAgg146
  z119 := Tryz.sizeOf146
  t138 := Tryz.underlying148
  a138 := Tryz.isAgg148
  z138 := Tryz.sizeOf148
  v138 := Tryz.zeroValue148
  t139 := Tryz.underlying149
  a139 := Tryz.isAgg149
  z139 := Tryz.sizeOf149
  v139 := Tryz.zeroValue149
  t146 := Tryz.underlying137
  a146 := Tryz.isAgg137
  z146 := Tryz.sizeOf137
  v146 := Tryz.zeroValue137
  g1 := by kernel_rfl
  g3 := by kernel_rfl
  g4 := by kernel_rfl }
def Tryz.lays100_ren : Go.Shelf.Ren := ⟨fun | 100 => 38 | 207 => 50 | n => n, fun | 9 => 9 | 4 => 4 | 3 => 3 | n => n, fun | n => n⟩
theorem Tryz.lays100 : Go.Proofs.Lays.n100 Tryz.prog Tryz.lays100_ren := {
  mixed := by kernel_rfl
  f100 := Tryz.func38.trans (congrArg some (by kernel_rfl))
  f207 := Tryz.func50.trans (congrArg some (by kernel_rfl))
  t3 := Tryz.underlying3
  a3 := Tryz.isAgg3
  z3 := Tryz.sizeOf3
  v3 := Tryz.zeroValue3
  t4 := Tryz.underlying4
  a4 := Tryz.isAgg4
  z4 := Tryz.sizeOf4
  v4 := Tryz.zeroValue4
  t9 := Tryz.underlying9
  a9 := Tryz.isAgg9
  z9 := Tryz.sizeOf9
  v9 := Tryz.zeroValue9 }
end Go.Proofs

/- strings.SplitAfter, strings.HasSuffix at a line feed. -/
namespace Go.Proofs.YtmlodnamknielacGreatDoor
open Go.ChangeShapes Go.WideShapes Go.ChangeAt Go.RowKit
open Orangery (pcs)

theorem pcs_strs (t : List UInt8) : (Lib.splitB ⟨#[10]⟩ 1 (Lib.countB ⟨t.toArray⟩ ⟨#[10]⟩) ⟨t.toArray⟩) = (pcs (t.count 10) t).map fun x => (⟨x.toArray⟩ : ByteArray) := by
  have h := Orangery.splitB_pcs ⟨t.toArray⟩
  rw [← h, List.map_map]
  have : ((fun x : List UInt8 => (⟨x.toArray⟩ : ByteArray)) ∘ fun x : ByteArray => x.data.toList) = id := by funext x; cases x; simp
  rw [this, List.map_id]
theorem infoStr : (Tryz.prog.info? 9).map (fun i => (i.zero, i.size, i.bytes)) = some (some (.string ByteArray.empty), 1, 16) := by kernel_rfl

set_option maxHeartbeats 1000000 in
theorem splitAfter_any (w : World) (t : List UInt8) (hl : t.length ≤ 60000) (hv : Vars w) :
    Calls Tryz.prog 37 #[txV t, txV [10]] w fun e w' =>
      e = .returned (.slice (some ⟨w.heap.size, 0, none⟩) (pcs (t.count 10) t).length (pcs (t.count 10) t).length) ∧ w' = w.alloc (.cells ((pcs (t.count 10) t).map txV).toArray 9) := by
  obtain ⟨m, hm⟩ := hv.mx
  have hsz : (⟨t.toArray⟩ : ByteArray).size = t.length := Orangery.bytes_size t
  have hle := Lib.countB_le ⟨#[10]⟩ (by decide) _ (⟨t.toArray⟩ : ByteArray) (Nat.le_refl _)
  have hlen := Lib.splitB_all ⟨#[10]⟩ (by decide) 1 _ (⟨t.toArray⟩ : ByteArray) rfl
  have c := Any.strings_genSplit Tryz.lays221 infoStr ⟨t.toArray⟩ ⟨#[10]⟩ 1 (-1) (Lib.countB ⟨t.toArray⟩ ⟨#[10]⟩ + 1) m w (by rw [hsz]; omega) hm (by decide) (by decide) (by decide) (by decide) (by rw [if_pos (by decide)]; omega)
  rw [Nat.add_sub_cancel, hlen] at c
  have e2 : Lib.cellsOf (Lib.splitB ⟨#[10]⟩ 1 (Lib.countB ⟨t.toArray⟩ ⟨#[10]⟩) ⟨t.toArray⟩) (Lib.countB ⟨t.toArray⟩ ⟨#[10]⟩ + 1) = ((Lib.splitB ⟨#[10]⟩ 1 (Lib.countB ⟨t.toArray⟩ ⟨#[10]⟩) ⟨t.toArray⟩).map Value.string).toArray := by rw [← hlen]; exact Lib.cellsOf_full _
  rw [e2] at c
  rw [← hlen, pcs_strs t, List.length_map, List.map_map] at c
  have HC : Hid (Calls Tryz.prog 49 #[txV t, txV [10], .int .i64 1, .int .i64 (-1)] w fun e w' =>
      e = .returned (.slice (some ⟨w.heap.size, 0, none⟩) (pcs (t.count 10) t).length (pcs (t.count 10) t).length) ∧ w' = w.alloc (.cells ((pcs (t.count 10) t).map txV).toArray 9)) := c
  clear c e2 hlen hle hsz hm
  generalize pcs (t.count 10) t = ps at *
  go_enter Tryz.func37, Tryz.ntmps37
  go_wp2_with fail
  refine HC.out.mono ?_
  rintro e w1 ⟨rfl, hw⟩
  go_wp2
  go_ret
  exact ⟨rfl, rfl⟩

theorem hasSuffix_any (w : World) (t : List UInt8) (hl : t.length ≤ 60000) :
    Calls Tryz.prog 38 #[txV t, txV [10]] w fun e w' => e = .returned (.bool (Lib.hasSuffix t [10])) ∧ w' = w := by
  refine (Any.strings_HasSuffix Tryz.lays100 ⟨t.toArray⟩ ⟨#[10]⟩ w (by rw [Orangery.bytes_size]; omega)).mono ?_
  rintro e w' ⟨rfl, rfl⟩
  exact ⟨rfl, rfl⟩
end Go.Proofs.YtmlodnamknielacGreatDoor

/- Plain facts on texts: words cut off one by one. -/
namespace Orangery
open Go.Lib (itoa index cut)

/-- what is left of a text: its words, if there are more -/
def remW (r : List UInt8) (m : Bool) : List (List UInt8) := if m = true then wordsB r else []
theorem cut_words (s : List UInt8) : wordsB s = (cut s [32]).1 :: remW (cut s [32]).2.1 (cut s [32]).2.2 ∧ (cut s [32]).1.length ≤ s.length ∧ ((cut s [32]).2.2 = true → (cut s [32]).2.1.length < s.length) := by
  have h := cut_blank s
  have hge := Go.Lib.index_ge s [32]
  refine ⟨?_, ?_, ?_⟩
  · rw [wordsB_split s, ← h.1, h.2]
    rfl
  · unfold cut
    split
    · simp
      omega
    · simp
  · unfold cut
    split
    · rename_i h0
      intro _
      simp only [List.length_drop, List.length_cons, List.length_nil]
      have hlt : (index s [32]).toNat < s.length := by
        have hw := words_step s
        cases s with
        | nil => simp [index_blank_nil] at h0
        | cons c r =>
          have : ∀ l : List UInt8, index l [32] < l.length := by
            intro l
            induction l with
            | nil => simp [index_blank_nil]
            | cons d q ih =>
              rw [index_blank]
              simp only [List.length_cons]
              split
              · omega
              · split <;> omega
          have := this (c :: r)
          omega
      omega
    · simp

/-- the numbers so far, and those to come -/
def soFar (ws : List (List UInt8)) (L : List Int) (r : List UInt8) (m : Bool) : Prop := numsOf ws = (numsOf (remW r m)).map (L ++ ·)
theorem soFar_start (r : List UInt8) (m : Bool) : soFar (remW r m) [] r m := by
  unfold soFar
  cases numsOf (remW r m) <;> simp
theorem soFar_end {ws : List (List UInt8)} {L : List Int} {r : List UInt8} (h : soFar ws L r false) : numsOf ws = some L := by
  unfold soFar at h
  rw [h]
  simp [remW, numsOf]
theorem soFar_bad {ws : List (List UInt8)} {L : List Int} {r : List UInt8} (h : soFar ws L r true) (hn : numOf (cut r [32]).1 = none) : numsOf ws = none := by
  unfold soFar at h
  rw [h]
  have : remW r true = wordsB r := rfl
  rw [this, (cut_words r).1]
  unfold numsOf
  rw [hn]
  rfl
theorem soFar_next {ws : List (List UInt8)} {L : List Int} {r : List UInt8} {v : Int} (h : soFar ws L r true) (hn : numOf (cut r [32]).1 = some v) : soFar ws (L ++ [v]) (cut r [32]).2.1 (cut r [32]).2.2 := by
  unfold soFar at h ⊢
  rw [h]
  have : remW r true = wordsB r := rfl
  rw [this, (cut_words r).1]
  conv => lhs; unfold numsOf
  rw [hn]
  simp only
  cases numsOf (remW (cut r [32]).2.1 (cut r [32]).2.2) <;> simp
end Orangery

/- orangeryref.RecRead. -/
namespace Go.Proofs.YtmlodnamknielacGreatDoor
open Go.ChangeShapes Go.WideShapes Go.ChangeAt Go.RowKit
open Orangery (Mv Rc noRec noOp recOf numOf numsOf wordsB remW soFar readO readE readR checkRec wOp wLife wRoots)

theorem read_words {t : List UInt8} {x : List UInt8} {ws : List (List UInt8)} (hw : wordsB t = x :: ws) :
    (numsOf ws = none → readE t = 1 ∧ readR t = noRec) ∧
    (∀ N, numsOf ws = some N → recOf x N = none → readE t = 1 ∧ readR t = noRec) ∧
    (∀ N r, numsOf ws = some N → recOf x N = some r → readE t = checkRec r ∧ (checkRec r ≠ 0 → readR t = noRec) ∧ (checkRec r = 0 → readR t = r)) := by
  have e : readO t = (numsOf ws).bind (recOf x) := by unfold readO; rw [hw]; rfl
  have bad : readO t = none → readE t = 1 ∧ readR t = noRec := by
    intro hn
    have e3 : readE t = 1 := by unfold readE; rw [hn]
    refine ⟨e3, ?_⟩
    unfold readR
    rw [if_pos (by rw [e3]; decide)]
  refine ⟨fun hn => bad (by rw [e, hn]; rfl), fun N hN hr => bad (by rw [e, hN]; exact hr), fun N r hN hr => ?_⟩
  have e3 : readO t = some r := by rw [e, hN]; exact hr
  have e4 : readE t = checkRec r := by unfold readE; rw [e3]
  refine ⟨e4, fun hc => ?_, fun hc => ?_⟩
  · unfold readR; rw [if_pos (by rw [e4]; exact hc)]
  · unfold readR; rw [if_neg (by rw [e4]; simpa using hc), e3]; rfl

def sizeTx : Value → Nat
  | .string s => s.size
  | _ => 0
def isYes : Value → Bool
  | .bool b => b
  | _ => false
/-- how much is left -/
def leftTx (r m : Value) : Nat := if isYes m = true then sizeTx r + 1 else 0

theorem OwnI.app {w' : World} {base : Nat} {v' : Value} {L : List Int} {n : Int} (h : w'.ownsRow base 3 1 v' (L.length + 1) (L.map (Value.int .i64) ++ [Value.int .i64 n])) : OwnI w' base v' (L ++ [n]) := by
  show w'.ownsRow _ _ _ _ _ _
  simpa using h

set_option maxHeartbeats 8000000 in
set_option maxRecDepth 100000 in
theorem rrecRead_any (w : World) (t : List UInt8) (hl : t.length ≤ 60000) (hv : Vars w) :
    Calls Tryz.prog 39 #[txV t] w
      fun e w' => (∃ v, e = .returned (.tuple #[v, .int .i64 (readE t)]) ∧ RecIs w.heap.size w' v (readR t)) ∧ Below w.heap.size w w' := by
  obtain ⟨i0, hi, hz0, hz1, hz2⟩ := info_parts infoInt
  obtain ⟨hw, _, hrl⟩ := Orangery.cut_words t
  have HP := Lib.hid (read_words hw)
  have HLO : Hid (8 ≤ w.heap.size + 1) := by have := hv.lo; show _ ≤ _; omega
  have HSF := Lib.hid (Orangery.soFar_start (Lib.cut t [32]).2.1 (Lib.cut t [32]).2.2)
  have HRL := Lib.hid hrl
  clear hw hrl
  go_enter Tryz.func39, Tryz.ntmps39
  go_wp2_with fail
  obtain ⟨W0, hW, hR, hB, -⟩ := laid1 w zeroRec 31
  rw [hW]
  clear hW
  have HV0 := Lib.hid (hv.on hB)
  clear hv
  refine (cut_any W0 t hl HV0.out).mono ?_
  rintro e w1 ⟨rfl, hb1⟩
  have hR1 := hR.keep hb1
  have hB1 : Below w.heap.size w w1 := hB.trans (hb1.mono hB.size)
  have HV1 := Lib.hid (HV0.out.on hb1)
  clear hR hB hb1 HV0
  generalize (Lib.cut t [32]).1 = x at *
  generalize hws : remW (Lib.cut t [32]).2.1 (Lib.cut t [32]).2.2 = ws at *
  clear hws
  have HR1 := Lib.hid hR1
  have HB1 := Lib.hid hB1
  clear hR1 hB1
  generalize (Lib.cut t [32]).2.1 = r0 at *
  generalize (Lib.cut t [32]).2.2 = m0 at *
  go_wp2
  go_loopw [5, 6, 7] (fun r m v W => ∃ (rest : List UInt8) (more : Bool) (N : List Int), r = txV rest ∧ m = .bool more ∧ soFar ws N rest more ∧ OwnI W (w.heap.size + 1) v N ∧ N.length + (if more = true then rest.length + 1 else 0) ≤ 60001 ∧ Blk W w.heap.size zeroRec ∧ Vars W ∧ Below w.heap.size w W) (fun r m _ _ => leftTx r m)
  case atStart =>
    refine ⟨r0, m0, [], rfl, rfl, HSF.out, World.ownsRow_nil _ _ _ _, ?_, HR1.out, HV1.out, HB1.out⟩
    cases m0 with
    | false => simp
    | true => have := HRL.out rfl; simp; omega
  case round =>
    clear HSF HRL HR1 HV1 HB1
    obtain ⟨rest, more, N, rfl, rfl, hsf, hO, hln, hR, hvr, hb⟩ := hrel
    have HR := Lib.hid hR
    have HV := Lib.hid hvr
    have HB := Lib.hid hb
    clear hvr hb
    cases more with
    | true =>
      have hrl : rest.length ≤ 60000 ∧ N.length ≤ 60000 := by simp at hln; omega
      obtain ⟨hrl, hnl⟩ := hrl
      have HLN : Hid (N.length + (rest.length + 1) ≤ 60001) := by show _ ≤ _; simpa using hln
      obtain ⟨_, hxl, hml⟩ := Orangery.cut_words rest
      have HSB : Hid (numOf (Lib.cut rest [32]).1 = none → numsOf ws = none) := Orangery.soFar_bad hsf
      have HSN : Hid (∀ v, numOf (Lib.cut rest [32]).1 = some v → soFar ws (N ++ [v]) (Lib.cut rest [32]).2.1 (Lib.cut rest [32]).2.2) := fun v => Orangery.soFar_next hsf
      have HML : Hid ((Lib.cut rest [32]).2.2 = true → (Lib.cut rest [32]).2.1.length < rest.length) := hml
      clear hml hsf hln hR
      have hyl : (Lib.cut rest [32]).1.length ≤ 60000 := by omega
      clear hxl
      go_wp2_with fail
      refine (cut_any wr rest hrl HV.out).mono ?_
      rintro e w2 ⟨rfl, hb2⟩
      have HR2 := Lib.hid (HR.out.keep hb2)
      have hO2 := hO.keep hb2
      have HV2 := Lib.hid (HV.out.on hb2)
      have HB2 : Hid (Below w.heap.size w w2) := HB.out.trans (hb2.mono HB.out.size)
      clear hb2 HR HV HB hO
      generalize (Lib.cut rest [32]).1 = y at *
      generalize (Lib.cut rest [32]).2.1 = r' at *
      generalize (Lib.cut rest [32]).2.2 = m' at *
      rcases numEnds_two (Lib.atoiAll y) with ⟨v, hq⟩ | hq
      · skip
        obtain ⟨v0, v1⟩ := Orangery.atoi_bounds hq
        have HN : Hid (numOf y = if Lib.itoa v = y then some v else none) := Orangery.numOf_ok hq
        have HQ : Hid (Lib.atoiAll y = .ok v) := hq
        clear hq
        go_wp2_with fail
        refine (parseInt_ok w2 y v hyl HQ.out).mono ?_
        rintro e w3 ⟨rfl, hb3⟩
        have HR3 := Lib.hid (HR2.out.keep hb3)
        have hO3 := hO2.keep hb3
        have HV3 := Lib.hid (HV2.out.on hb3)
        have HB3 : Hid (Below w.heap.size w w3) := HB2.out.trans (hb3.mono HB2.out.size)
        clear hb3 HR2 HV2 HB2 hO2
        go_wp2_with fail
        refine (formatInt_any w3 v v0 v1 HV3.out).mono ?_
        rintro e w4 ⟨rfl, hb4⟩
        have HR4 := Lib.hid (HR3.out.keep hb4)
        have hO4 := hO3.keep hb4
        have HV4 := Lib.hid (HV3.out.on hb4)
        have HB4 : Hid (Below w.heap.size w w4) := HB3.out.trans (hb4.mono HB3.out.size)
        clear hb4 HR3 HV3 HB3 hO3
        by_cases he : Lib.itoa v = y
        · have d1 : (Lib.itoa v == y) = true := by simpa using he
          have HS5 : Hid (soFar ws (N ++ [v]) r' m') := HSN.out v (by rw [HN.out, if_pos he])
          clear he HN HSB HSN
          have hbn := Go.Joins.below_alloc1 w4 (Obj.cells #[Value.int IntKind.i64 v] 3)
          have hO5 := hO4.keep hbn
          have hown : (w4.alloc (Obj.cells #[Value.int IntKind.i64 v] 3)).ownsRow (w.heap.size + 1) 3 1 _ N.length (N.map (Value.int .i64)) := hO5
          have hN5 := Blk.new w4 [Value.int IntKind.i64 v] 3
          have hsz : w.heap.size + 1 ≤ (w4.alloc (Obj.cells #[Value.int IntKind.i64 v] 3)).heap.size := by have := HR4.out.lt; simp; omega
          go_wp2_with (at_builtin; refine wpList_append_own _ rfl _ _ 25 rfl (w.heap.size + 1) 3 i0 _ 1 8 Tryz.underlying25 hi hz0 hz1 hz2 rfl (by decide) _ _ _ rfl hown ⟨w4.heap.size, 0, none⟩ 1 1 [Value.int IntKind.i64 v] rfl (by simp) ?c1 ?c2 ?c3 ?c4 ?c5 ?_)
          case c1 => intro j u hj; rw [Addr.add_mid, Nat.zero_add]; exact hN5.at j hj
          case c2 => intro u hu; simp at hu; subst hu; rfl
          case c3 => unfold maxLen; omega
          case c4 => omega
          case c5 => exact hsz
          intro v' w6 hown' hgrow _
          have hO6 := OwnI.app hown'
          have HR6 := Lib.hid ((HR4.out.keep hbn).grown hgrow (fun e => by have := hown.lt _ e.symm; omega))
          have hb6 : Below (w.heap.size + 1) w4 w6 := (hbn.mono (by have := HR4.out.lt; omega)).grown hgrow hsz (fun g hg => (hown.lt g hg).1)
          have HV6 := Lib.hid (HV4.out.keep hb6 HLO.out)
          have HB6 : Hid (Below w.heap.size w w6) := HB4.out.trans (hb6.mono (by omega))
          clear hown hown' hgrow hN5 hO5 hbn hsz hb6 HR4 HV4 HB4 hO4
          go_wp2
          go_roundw
          case rel =>
            refine ⟨r', m', N ++ [v], rfl, rfl, HS5.out, hO6, ?_, HR6.out, HV6.out, HB6.out⟩
            have h1 := HLN.out
            cases m' with
            | false => simp; omega
            | true => have := HML.out rfl; simp; omega
          case measure =>
            have h1 := HML.out
            cases m' with
            | false => simp [leftTx, isYes]
            | true =>
              have := h1 rfl
              simp [leftTx, isYes, sizeTx, Orangery.bytes_size]
              exact this
        · have d1 : (Lib.itoa v == y) = false := by simpa using he
          have HE : Hid (readE t = 1 ∧ readR t = noRec) := HP.out.1 (HSB.out (by rw [HN.out, if_neg he]))
          clear he HN HSB HSN
          have r0 := HR4.out.at 0 rfl
          have r1 := HR4.out.at 1 rfl
          have r2 := HR4.out.at 2 rfl
          have r3 := HR4.out.at 3 rfl
          have r4 := HR4.out.at 4 rfl
          have r5 := HR4.out.at 5 rfl
          have r6 := HR4.out.at 6 rfl
          have r7 := HR4.out.at 7 rfl
          have r8 := HR4.out.at 8 rfl
          have r9 := HR4.out.at 9 rfl
          have r10 := HR4.out.at 10 rfl
          have rf := HR4.out.frz
          go_wp2
          have hRf := HR4.out.sets zeroRec rfl
          refine ret_cell_tmp Tryz.results39 rfl rfl (hRf.load Tryz.underlying31 rfl sizeRec) ?_
          rw [HE.out.1, HE.out.2]
          exact ⟨⟨_, rfl, recIs_none _ _⟩, below_sets HB4.out w.heap.size (Nat.le_refl _) zeroRec 0⟩
      · skip
        have HE : Hid (readE t = 1 ∧ readR t = noRec) := HP.out.1 (HSB.out (Orangery.numOf_bad hq))
        have HQ : Hid (∀ v, Lib.atoiAll y ≠ .ok v) := hq
        clear hq HSB HSN
        go_wp2_with fail
        refine (parseInt_bad w2 y hyl HQ.out HV2.out).mono ?_
        rintro e w3 ⟨⟨v, te, pe, rfl⟩, hb3⟩
        have HR3 := Lib.hid (HR2.out.keep hb3)
        have HB3 : Hid (Below w.heap.size w w3) := HB2.out.trans (hb3.mono HB2.out.size)
        clear hb3 HR2 HB2 HV2 hO2
        have r0 := HR3.out.at 0 rfl
        have r1 := HR3.out.at 1 rfl
        have r2 := HR3.out.at 2 rfl
        have r3 := HR3.out.at 3 rfl
        have r4 := HR3.out.at 4 rfl
        have r5 := HR3.out.at 5 rfl
        have r6 := HR3.out.at 6 rfl
        have r7 := HR3.out.at 7 rfl
        have r8 := HR3.out.at 8 rfl
        have r9 := HR3.out.at 9 rfl
        have r10 := HR3.out.at 10 rfl
        have rf := HR3.out.frz
        go_wp2
        have hRf := HR3.out.sets zeroRec rfl
        refine ret_cell_tmp Tryz.results39 rfl rfl (hRf.load Tryz.underlying31 rfl sizeRec) ?_
        rw [HE.out.1, HE.out.2]
        exact ⟨⟨_, rfl, recIs_none _ _⟩, below_sets HB3.out w.heap.size (Nat.le_refl _) zeroRec 0⟩
    | false =>
      have HN : Hid (numsOf ws = some N) := Orangery.soFar_end hsf
      have hnl : N.length ≤ 60001 := by simp at hln; omega
      obtain ⟨aN, cN, rfl, hI, hcN, hmN⟩ := hO.caps
      have hf := from_own hO
      have htg := tag_own hO
      have hls : w.heap.size < wr.heap.size := hR.lt
      have hne0 : ¬ wr.heap.size = w.heap.size := by omega
      clear hO hsf hln hR
      by_cases h1 : x = wOp ∧ N.length = 7
      · have hre := recOf_op h1.1 h1.2
        obtain ⟨rfl, h2⟩ := h1
        obtain ⟨n0, n1, n2, n3, n4, n5, n6, rfl⟩ : ∃ n0 n1 n2 n3 n4 n5 n6, N = [n0, n1, n2, n3, n4, n5, n6] := by
          match N, h2 with
          | [n0, n1, n2, n3, n4, n5, n6], _ => exact ⟨_, _, _, _, _, _, _, rfl⟩
        rcases hI with hI | ⟨b, off, rfl, hlt, hp⟩
        · simp at hI
        have x0 : wr.cell? ⟨b, off, none⟩ = some (.int .i64 n0) := hp 0 (by simp)
        have x1 : wr.cell? ⟨b, off + 1, none⟩ = some (.int .i64 n1) := hp 1 (by simp)
        have x2 : wr.cell? ⟨b, off + 2, none⟩ = some (.int .i64 n2) := hp 2 (by simp)
        have x3 : wr.cell? ⟨b, off + 3, none⟩ = some (.int .i64 n3) := hp 3 (by simp)
        have x4 : wr.cell? ⟨b, off + 4, none⟩ = some (.int .i64 n4) := hp 4 (by simp)
        have x5 : wr.cell? ⟨b, off + 5, none⟩ = some (.int .i64 n5) := hp 5 (by simp)
        have x6 : wr.cell? ⟨b, off + 6, none⟩ = some (.int .i64 n6) := hp 6 (by simp)
        have hne : ¬ wr.heap.size = b := by omega
        clear hp h2
        go_wp2_with fail
        go_region_held3 (fun w' => w'.cell? ⟨b, off, none⟩ = some (.int .i64 n0) ∧ w'.cell? ⟨b, off + 1, none⟩ = some (.int .i64 n1) ∧ w'.cell? ⟨b, off + 2, none⟩ = some (.int .i64 n2) ∧ w'.cell? ⟨b, off + 3, none⟩ = some (.int .i64 n3) ∧ w'.cell? ⟨b, off + 4, none⟩ = some (.int .i64 n4) ∧ w'.cell? ⟨b, off + 5, none⟩ = some (.int .i64 n5) ∧ w'.cell? ⟨b, off + 6, none⟩ = some (.int .i64 n6)) (go_keep) (fail)
        have hX0 := (Blk.new wr [Value.int IntKind.i64 1, .int .i64 0, .int .i64 0, .slice none 0 0, .int .i64 n0, .int .i64 n1, .int .i64 n2, .int .i64 n3, .int .i64 n4, .int .i64 n5, .int .i64 n6] 31).drew
        have hbx : Below wr.heap.size wr (wr.alloc (Obj.cells [Value.int IntKind.i64 1, .int .i64 0, .int .i64 0, .slice none 0 0, .int .i64 n0, .int .i64 n1, .int .i64 n2, .int .i64 n3, .int .i64 n4, .int .i64 n5, .int .i64 n6].toArray 31)).drew := (Go.Joins.below_alloc1 wr _).drew
        go_wp2_with fail
        refine (rcheckRec_any _ 1 0 0 none 0 [] (n0, n1, (n2, n3, n4), n5, n6) (by unfold maxLen; simp; try omega) (SlI.nil)).mono ?_
        rintro e w5 ⟨rfl, hb5⟩
        have hb5' : Below wr.heap.size wr w5 := hbx.trans (hb5.mono hbx.size)
        have hX5 := hX0.keep hb5
        have hR5 := HR.out.keep hb5'
        have HB5 : Hid (Below w.heap.size w w5) := HB.out.trans (hb5'.mono HB.out.size)
        have HI5 := Lib.hid (show SlI w5 none [] from ((SlI.nil : SlI wr none [])).below hb5')
        have HT5 := Lib.hid (show TagI w5 none from TagI.keep (tag_none wr) hb5')
        clear hb5 hb5' hX0 hbx
        have HE := Lib.hid (HP.out.2.2 _ _ HN.out hre)
        have r0 := hR5.at 0 rfl
        have r1 := hR5.at 1 rfl
        have r2 := hR5.at 2 rfl
        have r3 := hR5.at 3 rfl
        have r4 := hR5.at 4 rfl
        have r5 := hR5.at 5 rfl
        have r6 := hR5.at 6 rfl
        have r7 := hR5.at 7 rfl
        have r8 := hR5.at 8 rfl
        have r9 := hR5.at 9 rfl
        have r10 := hR5.at 10 rfl
        have rf := hR5.frz
        by_cases hc : checkRec (1, 0, 0, [], (n0, n1, (n2, n3, n4), n5, n6)) = 0
        · have HE2 : Hid (readE t = 0 ∧ readR t = (1, 0, 0, [], (n0, n1, (n2, n3, n4), n5, n6))) := ⟨HE.out.1.trans hc, HE.out.2.2 hc⟩
          rw [hc]
          clear HE hc
          have y0 := hX5.at 0 rfl
          have y1 := hX5.at 1 rfl
          have y2 := hX5.at 2 rfl
          have y3 := hX5.at 3 rfl
          have y4 := hX5.at 4 rfl
          have y5 := hX5.at 5 rfl
          have y6 := hX5.at 6 rfl
          have y7 := hX5.at 7 rfl
          have y8 := hX5.at 8 rfl
          have y9 := hX5.at 9 rfl
          have y10 := hX5.at 10 rfl
          clear hX5
          go_wp2
          have hRf := hR5.sets [Value.int IntKind.i64 1, .int .i64 0, .int .i64 0, .slice none 0 0, .int .i64 n0, .int .i64 n1, .int .i64 n2, .int .i64 n3, .int .i64 n4, .int .i64 n5, .int .i64 n6] rfl
          refine ret_cell_tmp Tryz.results39 rfl rfl (hRf.load Tryz.underlying31 rfl sizeRec) ?_
          rw [HE2.out.1, HE2.out.2]
          have hIf := HI5.out.sets (g := w.heap.size) (from_none) (Nat.lt_succ_self _) [Value.int IntKind.i64 1, .int .i64 0, .int .i64 0, .slice none 0 0, .int .i64 n0, .int .i64 n1, .int .i64 n2, .int .i64 n3, .int .i64 n4, .int .i64 n5, .int .i64 n6] 0
          have hTf := HT5.out.sets (g := w.heap.size) (from_none) (Nat.lt_succ_self _) [Value.int IntKind.i64 1, .int .i64 0, .int .i64 0, .slice none 0 0, .int .i64 n0, .int .i64 n1, .int .i64 n2, .int .i64 n3, .int .i64 n4, .int .i64 n5, .int .i64 n6] 0
          have hBf := below_sets HB5.out w.heap.size (Nat.le_refl _) [Value.int IntKind.i64 1, .int .i64 0, .int .i64 0, .slice none 0 0, .int .i64 n0, .int .i64 n1, .int .i64 n2, .int .i64 n3, .int .i64 n4, .int .i64 n5, .int .i64 n6] 0
          exact ⟨⟨_, rfl, none, 0, rfl, hIf, from_mono (from_none) (Nat.le_succ _), fun _ => rfl, hTf⟩, hBf⟩
        · have HE2 : Hid (readE t = checkRec (1, 0, 0, [], (n0, n1, (n2, n3, n4), n5, n6)) ∧ readR t = noRec) := ⟨HE.out.1, HE.out.2.1 hc⟩
          have d9 : (checkRec (1, 0, 0, [], (n0, n1, (n2, n3, n4), n5, n6)) != 0) = true := by simpa using hc
          generalize checkRec (1, 0, 0, [], (n0, n1, (n2, n3, n4), n5, n6)) = E at *
          clear HE hX5
          go_wp2
          have hRf := hR5.sets zeroRec rfl
          refine ret_cell_tmp Tryz.results39 rfl rfl (hRf.load Tryz.underlying31 rfl sizeRec) ?_
          rw [HE2.out.1, HE2.out.2]
          exact ⟨⟨_, rfl, recIs_none _ _⟩, below_sets HB5.out w.heap.size (Nat.le_refl _) zeroRec 0⟩
      by_cases h2 : x = wLife ∧ N.length = 2
      · have hre := recOf_life h2.1 h2.2
        obtain ⟨rfl, h3⟩ := h2
        obtain ⟨n0, n1, rfl⟩ : ∃ n0 n1, N = [n0, n1] := by
          match N, h3 with
          | [n0, n1], _ => exact ⟨_, _, rfl⟩
        rcases hI with hI | ⟨b, off, rfl, hlt, hp⟩
        · simp at hI
        have x0 : wr.cell? ⟨b, off, none⟩ = some (.int .i64 n0) := hp 0 (by simp)
        have x1 : wr.cell? ⟨b, off + 1, none⟩ = some (.int .i64 n1) := hp 1 (by simp)
        have hne : ¬ wr.heap.size = b := by omega
        clear hp h3 h1
        go_wp2_with fail
        go_region_held3 (fun w' => w'.cell? ⟨b, off, none⟩ = some (.int .i64 n0) ∧ w'.cell? ⟨b, off + 1, none⟩ = some (.int .i64 n1)) (go_keep) (fail)
        have hX0 := (Blk.new wr [Value.int IntKind.i64 2, .int .i64 n0, .int .i64 n1, .slice none 0 0, .int .i64 0, .int .i64 0, .int .i64 0, .int .i64 0, .int .i64 0, .int .i64 0, .int .i64 0] 31).drew
        have hbx : Below wr.heap.size wr (wr.alloc (Obj.cells [Value.int IntKind.i64 2, .int .i64 n0, .int .i64 n1, .slice none 0 0, .int .i64 0, .int .i64 0, .int .i64 0, .int .i64 0, .int .i64 0, .int .i64 0, .int .i64 0].toArray 31)).drew := (Go.Joins.below_alloc1 wr _).drew
        go_wp2_with fail
        refine (rcheckRec_any _ 2 n0 n1 none 0 [] noOp (by unfold maxLen; simp; try omega) (SlI.nil)).mono ?_
        rintro e w5 ⟨rfl, hb5⟩
        have hb5' : Below wr.heap.size wr w5 := hbx.trans (hb5.mono hbx.size)
        have hX5 := hX0.keep hb5
        have hR5 := HR.out.keep hb5'
        have HB5 : Hid (Below w.heap.size w w5) := HB.out.trans (hb5'.mono HB.out.size)
        have HI5 := Lib.hid (show SlI w5 none [] from ((SlI.nil : SlI wr none [])).below hb5')
        have HT5 := Lib.hid (show TagI w5 none from TagI.keep (tag_none wr) hb5')
        clear hb5 hb5' hX0 hbx
        have HE := Lib.hid (HP.out.2.2 _ _ HN.out hre)
        have r0 := hR5.at 0 rfl
        have r1 := hR5.at 1 rfl
        have r2 := hR5.at 2 rfl
        have r3 := hR5.at 3 rfl
        have r4 := hR5.at 4 rfl
        have r5 := hR5.at 5 rfl
        have r6 := hR5.at 6 rfl
        have r7 := hR5.at 7 rfl
        have r8 := hR5.at 8 rfl
        have r9 := hR5.at 9 rfl
        have r10 := hR5.at 10 rfl
        have rf := hR5.frz
        by_cases hc : checkRec (2, n0, n1, [], noOp) = 0
        · have HE2 : Hid (readE t = 0 ∧ readR t = (2, n0, n1, [], noOp)) := ⟨HE.out.1.trans hc, HE.out.2.2 hc⟩
          rw [hc]
          clear HE hc
          have y0 := hX5.at 0 rfl
          have y1 := hX5.at 1 rfl
          have y2 := hX5.at 2 rfl
          have y3 := hX5.at 3 rfl
          have y4 := hX5.at 4 rfl
          have y5 := hX5.at 5 rfl
          have y6 := hX5.at 6 rfl
          have y7 := hX5.at 7 rfl
          have y8 := hX5.at 8 rfl
          have y9 := hX5.at 9 rfl
          have y10 := hX5.at 10 rfl
          clear hX5
          go_wp2
          have hRf := hR5.sets [Value.int IntKind.i64 2, .int .i64 n0, .int .i64 n1, .slice none 0 0, .int .i64 0, .int .i64 0, .int .i64 0, .int .i64 0, .int .i64 0, .int .i64 0, .int .i64 0] rfl
          refine ret_cell_tmp Tryz.results39 rfl rfl (hRf.load Tryz.underlying31 rfl sizeRec) ?_
          rw [HE2.out.1, HE2.out.2]
          have hIf := HI5.out.sets (g := w.heap.size) (from_none) (Nat.lt_succ_self _) [Value.int IntKind.i64 2, .int .i64 n0, .int .i64 n1, .slice none 0 0, .int .i64 0, .int .i64 0, .int .i64 0, .int .i64 0, .int .i64 0, .int .i64 0, .int .i64 0] 0
          have hTf := HT5.out.sets (g := w.heap.size) (from_none) (Nat.lt_succ_self _) [Value.int IntKind.i64 2, .int .i64 n0, .int .i64 n1, .slice none 0 0, .int .i64 0, .int .i64 0, .int .i64 0, .int .i64 0, .int .i64 0, .int .i64 0, .int .i64 0] 0
          have hBf := below_sets HB5.out w.heap.size (Nat.le_refl _) [Value.int IntKind.i64 2, .int .i64 n0, .int .i64 n1, .slice none 0 0, .int .i64 0, .int .i64 0, .int .i64 0, .int .i64 0, .int .i64 0, .int .i64 0, .int .i64 0] 0
          exact ⟨⟨_, rfl, none, 0, rfl, hIf, from_mono (from_none) (Nat.le_succ _), fun _ => rfl, hTf⟩, hBf⟩
        · have HE2 : Hid (readE t = checkRec (2, n0, n1, [], noOp) ∧ readR t = noRec) := ⟨HE.out.1, HE.out.2.1 hc⟩
          have d9 : (checkRec (2, n0, n1, [], noOp) != 0) = true := by simpa using hc
          generalize checkRec (2, n0, n1, [], noOp) = E at *
          clear HE hX5
          go_wp2
          have hRf := hR5.sets zeroRec rfl
          refine ret_cell_tmp Tryz.results39 rfl rfl (hRf.load Tryz.underlying31 rfl sizeRec) ?_
          rw [HE2.out.1, HE2.out.2]
          exact ⟨⟨_, rfl, recIs_none _ _⟩, below_sets HB5.out w.heap.size (Nat.le_refl _) zeroRec 0⟩
      by_cases h3 : x = wRoots ∧ 1 ≤ N.length
      · have hre := recOf_roots h3.1 h3.2
        obtain ⟨rfl, h4⟩ := h3
        obtain ⟨n0, R, rfl⟩ : ∃ n0 R, N = n0 :: R := by
          match N, h4 with
          | n0 :: R, _ => exact ⟨_, _, rfl⟩
        rcases hI with hI | ⟨b, off, rfl, hlt, hp⟩
        · simp at hI
        have x0 : wr.cell? ⟨b, off, none⟩ = some (.int .i64 n0) := hp 0 (by simp)
        have hne : ¬ wr.heap.size = b := by omega
        have HPI : Hid (IntsAt wr b off (n0 :: R)) := hp
        have hcN3 : cN ≤ 9223372036854775807 := hmN
        simp only [List.length_cons] at hcN hnl
        have e1 : (1 : Int) ≤ (R.length : Int) + 1 := by omega
        have e2 : decide ((R.length : Int) + 1 ≥ 1) = true := by simp; omega
        have hfb : w.heap.size + 1 ≤ b := hf b off rfl
        have hre : recOf wRoots (n0 :: R) = some (3, n0, 0, R, noOp) := hre
        clear hp h4 h1 h2 hmN hf
        simp only [List.length_cons]
        by_cases hz : cN = 1
        · obtain rfl : R = [] := by cases R with
            | nil => rfl
            | cons y l => simp at hcN; omega
          subst hz
          go_wp2_with fail
          go_region_held3 (fun w' => w'.cell? ⟨b, off, none⟩ = some (.int .i64 n0)) (go_keep) (fail)
          have hX0 := (Blk.new wr [Value.int IntKind.i64 3, .int .i64 n0, .int .i64 0, .slice (some ⟨b, off, none⟩) 0 0, .int .i64 0, .int .i64 0, .int .i64 0, .int .i64 0, .int .i64 0, .int .i64 0, .int .i64 0] 31).drew
          have hbx : Below wr.heap.size wr (wr.alloc (Obj.cells [Value.int IntKind.i64 3, .int .i64 n0, .int .i64 0, .slice (some ⟨b, off, none⟩) 0 0, .int .i64 0, .int .i64 0, .int .i64 0, .int .i64 0, .int .i64 0, .int .i64 0, .int .i64 0].toArray 31)).drew := (Go.Joins.below_alloc1 wr _).drew
          go_wp2_with fail
          refine (rcheckRec_any _ 3 n0 0 (some ⟨b, off, none⟩) 0 [] noOp (by unfold maxLen; simp; try omega) (SlI.nil)).mono ?_
          rintro e w5 ⟨rfl, hb5⟩
          have hb5' : Below wr.heap.size wr w5 := hbx.trans (hb5.mono hbx.size)
          have hX5 := hX0.keep hb5
          have hR5 := HR.out.keep hb5'
          have HB5 : Hid (Below w.heap.size w w5) := HB.out.trans (hb5'.mono HB.out.size)
          have HI5 := Lib.hid (show SlI w5 (some ⟨b, off, none⟩) [] from ((SlI.nil : SlI wr (some ⟨b, off, none⟩) [])).below hb5')
          have HT5 := Lib.hid (show TagI w5 (some ⟨b, off, none⟩) from TagI.keep (htg) hb5')
          clear hb5 hb5' hX0 hbx
          have HE := Lib.hid (HP.out.2.2 _ _ HN.out hre)
          have r0 := hR5.at 0 rfl
          have r1 := hR5.at 1 rfl
          have r2 := hR5.at 2 rfl
          have r3 := hR5.at 3 rfl
          have r4 := hR5.at 4 rfl
          have r5 := hR5.at 5 rfl
          have r6 := hR5.at 6 rfl
          have r7 := hR5.at 7 rfl
          have r8 := hR5.at 8 rfl
          have r9 := hR5.at 9 rfl
          have r10 := hR5.at 10 rfl
          have rf := hR5.frz
          by_cases hc : checkRec (3, n0, 0, [], noOp) = 0
          · have HE2 : Hid (readE t = 0 ∧ readR t = (3, n0, 0, [], noOp)) := ⟨HE.out.1.trans hc, HE.out.2.2 hc⟩
            rw [hc]
            clear HE hc
            have y0 := hX5.at 0 rfl
            have y1 := hX5.at 1 rfl
            have y2 := hX5.at 2 rfl
            have y3 := hX5.at 3 rfl
            have y4 := hX5.at 4 rfl
            have y5 := hX5.at 5 rfl
            have y6 := hX5.at 6 rfl
            have y7 := hX5.at 7 rfl
            have y8 := hX5.at 8 rfl
            have y9 := hX5.at 9 rfl
            have y10 := hX5.at 10 rfl
            clear hX5
            go_wp2
            have hRf := hR5.sets [Value.int IntKind.i64 3, .int .i64 n0, .int .i64 0, .slice (some ⟨b, off, none⟩) 0 0, .int .i64 0, .int .i64 0, .int .i64 0, .int .i64 0, .int .i64 0, .int .i64 0, .int .i64 0] rfl
            refine ret_cell_tmp Tryz.results39 rfl rfl (hRf.load Tryz.underlying31 rfl sizeRec) ?_
            rw [HE2.out.1, HE2.out.2]
            have hIf := HI5.out.sets (g := w.heap.size) (fun b' off' e => by simp at e; omega) (Nat.lt_succ_self _) [Value.int IntKind.i64 3, .int .i64 n0, .int .i64 0, .slice (some ⟨b, off, none⟩) 0 0, .int .i64 0, .int .i64 0, .int .i64 0, .int .i64 0, .int .i64 0, .int .i64 0, .int .i64 0] 0
            have hTf := HT5.out.sets (g := w.heap.size) (fun b' off' e => by simp at e; omega) (Nat.lt_succ_self _) [Value.int IntKind.i64 3, .int .i64 n0, .int .i64 0, .slice (some ⟨b, off, none⟩) 0 0, .int .i64 0, .int .i64 0, .int .i64 0, .int .i64 0, .int .i64 0, .int .i64 0, .int .i64 0] 0
            have hBf := below_sets HB5.out w.heap.size (Nat.le_refl _) [Value.int IntKind.i64 3, .int .i64 n0, .int .i64 0, .slice (some ⟨b, off, none⟩) 0 0, .int .i64 0, .int .i64 0, .int .i64 0, .int .i64 0, .int .i64 0, .int .i64 0, .int .i64 0] 0
            exact ⟨⟨_, rfl, (some ⟨b, off, none⟩), 0, rfl, hIf, from_mono (fun b' off' e => by simp at e; omega) (Nat.le_succ _), fun e => by simp at e, hTf⟩, hBf⟩
          · have HE2 : Hid (readE t = checkRec (3, n0, 0, [], noOp) ∧ readR t = noRec) := ⟨HE.out.1, HE.out.2.1 hc⟩
            have d9 : (checkRec (3, n0, 0, [], noOp) != 0) = true := by simpa using hc
            generalize checkRec (3, n0, 0, [], noOp) = E at *
            clear HE hX5
            go_wp2
            have hRf := hR5.sets zeroRec rfl
            refine ret_cell_tmp Tryz.results39 rfl rfl (hRf.load Tryz.underlying31 rfl sizeRec) ?_
            rw [HE2.out.1, HE2.out.2]
            exact ⟨⟨_, rfl, recIs_none _ _⟩, below_sets HB5.out w.heap.size (Nat.le_refl _) zeroRec 0⟩
        · have d3 : 2 ≤ cN := by omega
          have d4 : ¬ cN - 1 = 0 := by omega
          have hSR : SlI wr (some ⟨b, off + 1, none⟩) R := by
            refine Or.inr ⟨b, off + 1, rfl, hlt, fun i hi => ?_⟩
            have := HPI.out (i + 1) (by simp; omega)
            rw [show off + 1 + i = off + (i + 1) by omega]
            simpa using this
          have HSR := Lib.hid hSR
          clear hSR
          go_wp2_with fail
          go_region_held3 (fun w' => w'.cell? ⟨b, off, none⟩ = some (.int .i64 n0)) (go_keep) (fail)
          have hX0 := (Blk.new wr [Value.int IntKind.i64 3, .int .i64 n0, .int .i64 0, .slice (some ⟨b, off + 1, none⟩) R.length (cN - 1), .int .i64 0, .int .i64 0, .int .i64 0, .int .i64 0, .int .i64 0, .int .i64 0, .int .i64 0] 31).drew
          have hbx : Below wr.heap.size wr (wr.alloc (Obj.cells [Value.int IntKind.i64 3, .int .i64 n0, .int .i64 0, .slice (some ⟨b, off + 1, none⟩) R.length (cN - 1), .int .i64 0, .int .i64 0, .int .i64 0, .int .i64 0, .int .i64 0, .int .i64 0, .int .i64 0].toArray 31)).drew := (Go.Joins.below_alloc1 wr _).drew
          go_wp2_with fail
          refine (rcheckRec_any _ 3 n0 0 (some ⟨b, off + 1, none⟩) (cN - 1) R noOp (by unfold maxLen; simp; try omega) (HSR.out.below hbx)).mono ?_
          rintro e w5 ⟨rfl, hb5⟩
          have hb5' : Below wr.heap.size wr w5 := hbx.trans (hb5.mono hbx.size)
          have hX5 := hX0.keep hb5
          have hR5 := HR.out.keep hb5'
          have HB5 : Hid (Below w.heap.size w w5) := HB.out.trans (hb5'.mono HB.out.size)
          have HI5 := Lib.hid (show SlI w5 (some ⟨b, off + 1, none⟩) R from (HSR.out).below hb5')
          have HT5 := Lib.hid (show TagI w5 (some ⟨b, off + 1, none⟩) from TagI.keep (show TagI wr (some ⟨b, off + 1, none⟩) from fun b' off' e => htg b' off (by simp at e; rw [e.1])) hb5')
          clear hb5 hb5' hX0 hbx
          have HE := Lib.hid (HP.out.2.2 _ _ HN.out hre)
          have r0 := hR5.at 0 rfl
          have r1 := hR5.at 1 rfl
          have r2 := hR5.at 2 rfl
          have r3 := hR5.at 3 rfl
          have r4 := hR5.at 4 rfl
          have r5 := hR5.at 5 rfl
          have r6 := hR5.at 6 rfl
          have r7 := hR5.at 7 rfl
          have r8 := hR5.at 8 rfl
          have r9 := hR5.at 9 rfl
          have r10 := hR5.at 10 rfl
          have rf := hR5.frz
          by_cases hc : checkRec (3, n0, 0, R, noOp) = 0
          · have HE2 : Hid (readE t = 0 ∧ readR t = (3, n0, 0, R, noOp)) := ⟨HE.out.1.trans hc, HE.out.2.2 hc⟩
            rw [hc]
            clear HE hc
            have y0 := hX5.at 0 rfl
            have y1 := hX5.at 1 rfl
            have y2 := hX5.at 2 rfl
            have y3 := hX5.at 3 rfl
            have y4 := hX5.at 4 rfl
            have y5 := hX5.at 5 rfl
            have y6 := hX5.at 6 rfl
            have y7 := hX5.at 7 rfl
            have y8 := hX5.at 8 rfl
            have y9 := hX5.at 9 rfl
            have y10 := hX5.at 10 rfl
            clear hX5
            go_wp2
            have hRf := hR5.sets [Value.int IntKind.i64 3, .int .i64 n0, .int .i64 0, .slice (some ⟨b, off + 1, none⟩) R.length (cN - 1), .int .i64 0, .int .i64 0, .int .i64 0, .int .i64 0, .int .i64 0, .int .i64 0, .int .i64 0] rfl
            refine ret_cell_tmp Tryz.results39 rfl rfl (hRf.load Tryz.underlying31 rfl sizeRec) ?_
            rw [HE2.out.1, HE2.out.2]
            have hIf := HI5.out.sets (g := w.heap.size) (fun b' off' e => by simp at e; omega) (Nat.lt_succ_self _) [Value.int IntKind.i64 3, .int .i64 n0, .int .i64 0, .slice (some ⟨b, off + 1, none⟩) R.length (cN - 1), .int .i64 0, .int .i64 0, .int .i64 0, .int .i64 0, .int .i64 0, .int .i64 0, .int .i64 0] 0
            have hTf := HT5.out.sets (g := w.heap.size) (fun b' off' e => by simp at e; omega) (Nat.lt_succ_self _) [Value.int IntKind.i64 3, .int .i64 n0, .int .i64 0, .slice (some ⟨b, off + 1, none⟩) R.length (cN - 1), .int .i64 0, .int .i64 0, .int .i64 0, .int .i64 0, .int .i64 0, .int .i64 0, .int .i64 0] 0
            have hBf := below_sets HB5.out w.heap.size (Nat.le_refl _) [Value.int IntKind.i64 3, .int .i64 n0, .int .i64 0, .slice (some ⟨b, off + 1, none⟩) R.length (cN - 1), .int .i64 0, .int .i64 0, .int .i64 0, .int .i64 0, .int .i64 0, .int .i64 0, .int .i64 0] 0
            exact ⟨⟨_, rfl, (some ⟨b, off + 1, none⟩), (cN - 1), rfl, hIf, from_mono (fun b' off' e => by simp at e; omega) (Nat.le_succ _), fun e => by simp at e, hTf⟩, hBf⟩
          · have HE2 : Hid (readE t = checkRec (3, n0, 0, R, noOp) ∧ readR t = noRec) := ⟨HE.out.1, HE.out.2.1 hc⟩
            have d9 : (checkRec (3, n0, 0, R, noOp) != 0) = true := by simpa using hc
            generalize checkRec (3, n0, 0, R, noOp) = E at *
            clear HE hX5
            go_wp2
            have hRf := hR5.sets zeroRec rfl
            refine ret_cell_tmp Tryz.results39 rfl rfl (hRf.load Tryz.underlying31 rfl sizeRec) ?_
            rw [HE2.out.1, HE2.out.2]
            exact ⟨⟨_, rfl, recIs_none _ _⟩, below_sets HB5.out w.heap.size (Nat.le_refl _) zeroRec 0⟩
      have HE : Hid (readE t = 1 ∧ readR t = noRec) := HP.out.2.1 N HN.out (recOf_none h1 h2 h3)
      clear hI hf hcN hmN
      by_cases e1 : x = wOp
      · have d1 : ((N.length : Int) == 7) = false := by
          have : N.length ≠ 7 := fun e => h1 ⟨e1, e⟩
          simp; omega
        subst e1
        clear h1 h2 h3
        have r0 := HR.out.at 0 rfl
        have r1 := HR.out.at 1 rfl
        have r2 := HR.out.at 2 rfl
        have r3 := HR.out.at 3 rfl
        have r4 := HR.out.at 4 rfl
        have r5 := HR.out.at 5 rfl
        have r6 := HR.out.at 6 rfl
        have r7 := HR.out.at 7 rfl
        have r8 := HR.out.at 8 rfl
        have r9 := HR.out.at 9 rfl
        have r10 := HR.out.at 10 rfl
        have rf := HR.out.frz
        go_wp2
        have hRf := (HR.out.sets zeroRec rfl).alloc (Obj.cells zeroRec.toArray 31)
        refine ret_cell_tmp Tryz.results39 rfl rfl (hRf.load Tryz.underlying31 rfl sizeRec) ?_
        rw [HE.out.1, HE.out.2]
        exact ⟨⟨_, rfl, recIs_none _ _⟩, (below_sets HB.out w.heap.size (Nat.le_refl _) zeroRec 0).alloc (by rw [Go.Sort.size_setCells]; omega) _⟩
      by_cases e2 : x = wLife
      · have d1 : ((N.length : Int) == 2) = false := by
          have : N.length ≠ 2 := fun e => h2 ⟨e2, e⟩
          simp; omega
        subst e2
        clear h1 h2 h3
        have r0 := HR.out.at 0 rfl
        have r1 := HR.out.at 1 rfl
        have r2 := HR.out.at 2 rfl
        have r3 := HR.out.at 3 rfl
        have r4 := HR.out.at 4 rfl
        have r5 := HR.out.at 5 rfl
        have r6 := HR.out.at 6 rfl
        have r7 := HR.out.at 7 rfl
        have r8 := HR.out.at 8 rfl
        have r9 := HR.out.at 9 rfl
        have r10 := HR.out.at 10 rfl
        have rf := HR.out.frz
        go_wp2
        have hRf := (HR.out.sets zeroRec rfl).alloc (Obj.cells zeroRec.toArray 31)
        refine ret_cell_tmp Tryz.results39 rfl rfl (hRf.load Tryz.underlying31 rfl sizeRec) ?_
        rw [HE.out.1, HE.out.2]
        exact ⟨⟨_, rfl, recIs_none _ _⟩, (below_sets HB.out w.heap.size (Nat.le_refl _) zeroRec 0).alloc (by rw [Go.Sort.size_setCells]; omega) _⟩
      by_cases e3 : x = wRoots
      · have d0 : N.length = 0 := by
          have : ¬ 1 ≤ N.length := fun e => h3 ⟨e3, e⟩
          omega
        obtain rfl := List.length_eq_zero_iff.1 d0
        subst e3
        clear h1 h2 h3 d0
        have r0 := HR.out.at 0 rfl
        have r1 := HR.out.at 1 rfl
        have r2 := HR.out.at 2 rfl
        have r3 := HR.out.at 3 rfl
        have r4 := HR.out.at 4 rfl
        have r5 := HR.out.at 5 rfl
        have r6 := HR.out.at 6 rfl
        have r7 := HR.out.at 7 rfl
        have r8 := HR.out.at 8 rfl
        have r9 := HR.out.at 9 rfl
        have r10 := HR.out.at 10 rfl
        have rf := HR.out.frz
        go_wp2
        have hRf := (HR.out.sets zeroRec rfl).alloc (Obj.cells zeroRec.toArray 31)
        refine ret_cell_tmp Tryz.results39 rfl rfl (hRf.load Tryz.underlying31 rfl sizeRec) ?_
        rw [HE.out.1, HE.out.2]
        exact ⟨⟨_, rfl, recIs_none _ _⟩, (below_sets HB.out w.heap.size (Nat.le_refl _) zeroRec 0).alloc (by rw [Go.Sort.size_setCells]; omega) _⟩
      have d1 : (x == [111, 112]) = false := by simpa [wOp] using e1
      have d2 : (x == [108, 105, 102, 101]) = false := by simpa [wLife] using e2
      have d3 : (x == [114, 111, 111, 116, 115]) = false := by simpa [wRoots] using e3
      clear h1 h2 h3 e1 e2 e3
      have r0 := HR.out.at 0 rfl
      have r1 := HR.out.at 1 rfl
      have r2 := HR.out.at 2 rfl
      have r3 := HR.out.at 3 rfl
      have r4 := HR.out.at 4 rfl
      have r5 := HR.out.at 5 rfl
      have r6 := HR.out.at 6 rfl
      have r7 := HR.out.at 7 rfl
      have r8 := HR.out.at 8 rfl
      have r9 := HR.out.at 9 rfl
      have r10 := HR.out.at 10 rfl
      have rf := HR.out.frz
      go_wp2
      have hRf := (HR.out.sets zeroRec rfl).alloc (Obj.cells zeroRec.toArray 31)
      refine ret_cell_tmp Tryz.results39 rfl rfl (hRf.load Tryz.underlying31 rfl sizeRec) ?_
      rw [HE.out.1, HE.out.2]
      exact ⟨⟨_, rfl, recIs_none _ _⟩, (below_sets HB.out w.heap.size (Nat.le_refl _) zeroRec 0).alloc (by rw [Go.Sort.size_setCells]; omega) _⟩
end Go.Proofs.YtmlodnamknielacGreatDoor

/- orangeryref.linesOf. -/
namespace Go.Proofs.YtmlodnamknielacGreatDoor
open Go.ChangeShapes Go.WideShapes Go.ChangeAt Go.RowKit
open Orangery (Mv Rc noRec noOp pcs runP RunTo readE readR lnL lnN lnE)

theorem text_cells (w : World) (ps : List (List UInt8)) : SlE txC (w.alloc (.cells (ps.map txV).toArray 9)) (some ⟨w.heap.size, 0, none⟩) ps := by
  refine Or.inr ⟨w.heap.size, 0, rfl, by simp, fun j v hv => ?_⟩
  have hh : (w.alloc (.cells (ps.map txV).toArray 9)).heap[w.heap.size]? = some (.cells (ps.map txV).toArray 9) := blk_new rfl
  rw [Go.Joins.cell_of_block hh, Nat.zero_add]
  have e : ps.flatMap txC = ps.map txV := by
    clear hv hh
    induction ps with
    | nil => rfl
    | cons p ps ih => rw [List.flatMap_cons, ih]; rfl
  rw [e] at hv
  simpa using hv
theorem read_few (t : List UInt8) (h : t.length ≤ 60000) : (readR t).2.2.2.1.length ≤ 4 := by
  rw [← (read_parse h).2]
  exact parse_few t

theorem ext_drop (t : List UInt8) : (⟨t.toArray⟩ : ByteArray).extract 0 (t.length - 1) = ⟨t.dropLast.toArray⟩ := by
  have h : ((⟨t.toArray⟩ : ByteArray).extract 0 (t.length - 1)).data = t.dropLast.toArray := by
    rw [ByteArray.data_extract]
    apply Array.ext'
    simp [List.dropLast_eq_take]
  cases hx : (⟨t.toArray⟩ : ByteArray).extract 0 (t.length - 1) with
  | mk d =>
    rw [hx] at h
    exact congrArg ByteArray.mk h
/-- what linesOf leaves -/
def RLines (B : Nat) (w' : World) (e : Ending) (m : Nat) (s : List UInt8) : Prop :=
  ∃ (v : Value) (X : List Rm), e = .returned (.tuple #[v, .int .i64 (lnN m s), .int .i64 (lnE m s)]) ∧ OwnR w' B v 0 X ∧ X.map (·.1) = lnL m s ∧ ∀ x ∈ X, From B x.2.1
set_option maxHeartbeats 4000000 in
set_option maxRecDepth 100000 in
theorem rlines_any (w : World) (s : List UInt8) (m : Nat) (hs : s.length ≤ 60000) (hm : m ≤ 60) (hv : Vars w) :
    Calls Tryz.prog 24 #[txV s, .int .i64 m] w
      fun e w' => RLines w.heap.size w' e m s ∧ Below w.heap.size w w' := by
  obtain ⟨i0, hi, hz0, hz1, hz2⟩ := info_parts infoRec
  have HV := Lib.hid hv
  have HRN := Lib.hid (Orangery.run_ln m s)
  have HPL := Lib.hid (Orangery.pcs_len (s.count 10) s)
  have HPS := Lib.hid (Orangery.pcs_small (s.count 10) s)
  have HCNT : Hid (s.count 10 ≤ s.length) := List.count_le_length
  clear hv
  go_enter Tryz.func24, Tryz.ntmps24
  go_wp2_with fail
  refine (splitAfter_any w s hs HV.out).mono ?_
  rintro e w1 ⟨rfl, rfl⟩
  have hSl := text_cells w (pcs (s.count 10) s)
  have hb1 := Go.Joins.below_alloc1 w (.cells ((pcs (s.count 10) s).map txV).toArray 9)
  have HS := Lib.hid hSl
  have HB1 := Lib.hid hb1
  have hpl : (pcs (s.count 10) s).length ≤ 60001 := by have := HPL.out; have := HCNT.out; omega
  clear hSl hb1
  generalize w.alloc (.cells ((pcs (s.count 10) s).map txV).toArray 9) = W1 at *
  generalize pcs (s.count 10) s = ps at *
  clear HPL HCNT
  go_wp2
  go_loopw [7, 8, 16] (fun rv nv iv W => ∃ (j n : Nat) (X : List Rm), j ≤ ps.length ∧ iv = .int .i64 j ∧ nv = .int .i64 n ∧ n ≤ j * 60000 ∧ OwnR W W1.heap.size rv 0 X ∧ RunTo m ps (X.map (·.1)) n j ∧ (∀ x ∈ X, From W1.heap.size x.2.1) ∧ Below W1.heap.size W1 W) (fun _ _ iv _ => ps.length - (intOf iv).toNat)
  case atStart => exact ⟨0, 0, [], Nat.zero_le _, rfl, rfl, Nat.zero_le _, OwnR.nil _ _ _, RunTo.start m ps, fun x hx => by simp at hx, Below.refl _ _⟩
  case round =>
    obtain ⟨j, n, X, hj, rfl, rfl, hn, hO, hL, hF, hb⟩ := hrel
    obtain ⟨aX, cX, rfl, -, hcX, hnX⟩ := hO.val
    have hX : X.length ≤ m := by have := hL.few; simpa using this
    have HO := Lib.hid hO
    have HL := Lib.hid hL
    have HF := Lib.hid hF
    have HB := Lib.hid hb
    have HBW := Lib.hid (HB1.out.trans (hb.mono HB1.out.size))
    have HVr := Lib.hid (HV.out.on HBW.out)
    have HSr := Lib.hid (HS.out.below hb)
    have hz : w.heap.size ≤ W1.heap.size := HB1.out.size
    have HFN : Hid (∀ (N : Nat) (E : Int), (runP m ps).1 = X.map (·.1) → (runP m ps).2.1 = N → (runP m ps).2.2 = E → X.map (·.1) = lnL m s ∧ lnN m s = N ∧ lnE m s = E) := by
      intro N E e1 e2 e3
      rw [HRN.out.1] at e1
      rw [HRN.out.2.1] at e2
      rw [HRN.out.2.2] at e3
      exact ⟨e1.symm, e2, e3⟩
    have HFF : Hid (∀ x ∈ X, From w.heap.size x.2.1) := fun x hx => from_mono (HF.out x hx) hz
    clear hO hL hF hb hcX hnX
    by_cases hlt : j < ps.length
    case neg =>
      obtain ⟨e1, e2, e3⟩ := HL.out.fin (by omega)
      have HE := Lib.hid (HFN.out n 0 e1 e2 e3)
      clear e1 e2 e3
      go_wp2
      go_ret3
      exact ⟨⟨_, X, by rw [HE.out.2.1, HE.out.2.2]; rfl, ⟨HO.out.own.mono hz, HO.out.roots⟩, HE.out.1, HFF.out⟩, HBW.out⟩
    obtain ⟨bp, op, ep, hbp, g0⟩ := HSr.out.text j hlt
    obtain ⟨rfl, rfl⟩ : w.heap.size = bp ∧ 0 = op := by simpa using ep
    rw [Nat.zero_add] at g0
    clear ep
    have htl : (ps[j]).length ≤ 60000 := Nat.le_trans (HPS.out _ (List.getElem_mem hlt)) hs
    have HEnd : Hid (∀ E, runP (m - X.length) (ps[j] :: ps.drop (j + 1)) = ([], 0, E) → X.map (·.1) = lnL m s ∧ lnN m s = n ∧ lnE m s = E) := by
      intro E he
      obtain ⟨e1, e2, e3⟩ := HL.out.ends hlt (by rw [List.length_map]; exact he)
      exact HFN.out n E e1 e2 e3
    have HNx : Hid (∀ t, ps[j] = t → t ≠ [] → t.getLast? = some 10 → readE t.dropLast = 0 → X.length < m → RunTo m ps (X.map (·.1) ++ [readR t.dropLast]) (n + t.length) (j + 1)) := by
      intro t e1 e2 e3 e4 e5
      exact HL.out.next hlt e1 e2 e3 e4 (by simpa using e5)
    generalize ps.drop (j + 1) = rest at *
    generalize ps[j] = t at *
    by_cases ht0 : t = []
    · have d1 : (t == []) = true := by simpa using ht0
      have HE := Lib.hid (HEnd.out 0 (by rw [ht0]; exact Orangery.run_none _ _))
      clear ht0
      go_wp2
      go_ret3
      exact ⟨⟨_, X, by rw [HE.out.2.1, HE.out.2.2]; rfl, ⟨HO.out.own.mono hz, HO.out.roots⟩, HE.out.1, HFF.out⟩, HBW.out⟩
    have d1 : (t == []) = false := by simpa using ht0
    have HT0 : Hid (t ≠ []) := ht0
    have htp : 0 < t.length := List.length_pos_iff.2 ht0
    clear ht0
    go_wp2_with fail
    refine (hasSuffix_any wr t htl).mono ?_
    rintro e w2 ⟨rfl, rfl⟩
    by_cases hsx : t.getLast? = some 10
    case neg =>
      have hsf : Lib.hasSuffix t [10] = false := by
        cases hq : Lib.hasSuffix t [10]
        · rfl
        · exact absurd ((Orangery.suffix_last t).1 hq) hsx
      have HE := Lib.hid (HEnd.out 8 (Orangery.run_torn _ HT0.out hsx))
      rw [hsf]
      clear hsx hsf
      go_wp2
      go_ret3
      exact ⟨⟨_, X, by rw [HE.out.2.1, HE.out.2.2]; rfl, ⟨HO.out.own.mono hz, HO.out.roots⟩, HE.out.1, HFF.out⟩, HBW.out⟩
    rw [(Orangery.suffix_last t).2 hsx]
    have HSX : Hid (t.getLast? = some 10) := hsx
    clear hsx
    go_wp2_with fail
    rw [show Value.string ((⟨t.toArray⟩ : ByteArray).extract 0 (t.length - 1)) = txV t.dropLast from congrArg Value.string (ext_drop t)]
    have HD : Hid (t.dropLast.length ≤ 60000) := by show _ ≤ _; simp; omega
    refine (rrecRead_any w2 t.dropLast HD.out HVr.out).mono ?_
    rintro e w3 ⟨⟨v3, rfl, hr⟩, hb⟩
    have HM := Lib.hid (hr.mem (Nat.le_trans (read_few _ HD.out) (by unfold maxLen; omega)))
    have HO3 := Lib.hid (HO.out.keep hb)
    have HB3 := Lib.hid (HB.out.trans (hb.mono HB.out.size))
    have HBW3 := Lib.hid (HBW.out.trans (hb.mono HBW.out.size))
    have hz3 : W1.heap.size ≤ w2.heap.size := HB.out.size
    clear hr hb HO HB HBW HVr HSr g0
    have HBad : Hid (readE t.dropLast ≠ 0 → runP (m - X.length) (t :: rest) = ([], 0, readE t.dropLast)) := fun he => Orangery.run_bad _ HT0.out HSX.out he
    have HMany : Hid (readE t.dropLast = 0 → m - X.length = 0 → runP (m - X.length) (t :: rest) = ([], 0, 2)) := fun he h0 => by rw [h0]; exact Orangery.run_many _ HT0.out HSX.out he
    have HNx2 : Hid (readE t.dropLast = 0 → X.length < m → RunTo m ps (X.map (·.1) ++ [readR t.dropLast]) (n + t.length) (j + 1)) := fun e4 e5 => HNx.out t rfl HT0.out HSX.out e4 e5
    clear HNx
    generalize t.dropLast = td at *
    obtain ⟨⟨⟨k, u, f, R, o⟩, a3, c3⟩, rfl, ex, hx, hfx⟩ := HM.out
    have HX : Hid ((k, u, f, R, o) = readR td) := ex
    have HI3 := Lib.hid hx
    have HFX : Hid (From W1.heap.size a3) := from_mono hfx hz3
    clear HM ex hx hfx
    by_cases he : readE td = 0
    case neg =>
      have HE := Lib.hid (HEnd.out (readE td) (HBad.out he))
      have d2 : (readE td == 0) = false := by simpa using he
      have d3 : (readE td != 0) = true := by simpa using he
      generalize readE td = E at *
      clear he
      go_wp2
      go_ret3
      refine ⟨⟨_, X, by rw [HE.out.2.1, HE.out.2.2]; rfl, ⟨?_, ?_⟩, HE.out.1, HFF.out⟩, HBW3.out.trans ((Go.Joins.below_alloc1 w3 _).mono HBW3.out.size)⟩
      · exact (HO3.out.own.keep (Go.Joins.below_alloc1 w3 _)).mono hz
      · exact fun x hx => (HO3.out.roots x hx).keep (Go.Joins.below_alloc1 w3 _)
    by_cases hmany : m ≤ X.length
    · have HE := Lib.hid (HEnd.out 2 (HMany.out he (by omega)))
      rw [he]
      have d2 : decide ((X.length : Int) ≥ (m : Int)) = true := by simp; omega
      have d3 : (m : Int) ≤ (X.length : Int) := by omega
      clear hmany he
      go_wp2
      go_ret3
      refine ⟨⟨_, X, by rw [HE.out.2.1, HE.out.2.2]; rfl, ⟨?_, ?_⟩, HE.out.1, HFF.out⟩, HBW3.out.trans ((Go.Joins.below_alloc1 w3 _).mono HBW3.out.size)⟩
      · exact (HO3.out.own.keep (Go.Joins.below_alloc1 w3 _)).mono hz
      · exact fun x hx => (HO3.out.roots x hx).keep (Go.Joins.below_alloc1 w3 _)
    have HN := Lib.hid (HNx2.out he (by omega))
    rw [he]
    have d2 : decide ((X.length : Int) ≥ (m : Int)) = false := by simp; omega
    have d3 : ¬ (m : Int) ≤ (X.length : Int) := by omega
    clear hmany he
    have hn2 : n + t.length ≤ (j + 1) * 60000 := by rw [Nat.succ_mul]; omega
    have hj6 : j * 60000 ≤ 3600060000 := by omega
    obtain ⟨W4, hW, hN4, hM, hBn, -⟩ := laid2 w3 [Value.int IntKind.i64 k, .int .i64 u, .int .i64 f, .slice a3 R.length c3, .int .i64 o.1, .int .i64 o.2.1, .int .i64 o.2.2.1.1, .int .i64 o.2.2.1.2.1, .int .i64 o.2.2.1.2.2, .int .i64 o.2.2.2.1, .int .i64 o.2.2.2.2] 31 [Value.int IntKind.i64 k, .int .i64 u, .int .i64 f, .slice a3 R.length c3, .int .i64 o.1, .int .i64 o.2.1, .int .i64 o.2.2.1.1, .int .i64 o.2.2.1.2.1, .int .i64 o.2.2.1.2.2, .int .i64 o.2.2.2.1, .int .i64 o.2.2.2.2] 31
    have hown : W4.ownsRow W1.heap.size 31 11 (.slice aX X.length cX) X.length (X.flatMap rcC) := HO3.out.own.keep hBn
    have HO4 := Lib.hid (HO3.out.keep hBn)
    have HI4 := Lib.hid (HI3.out.keep hBn)
    have HB4 := Lib.hid (HB3.out.trans (hBn.mono HB3.out.size))
    have HM := Lib.hid hM
    have hsz : W1.heap.size ≤ W4.heap.size := HB4.out.size
    clear hN4 hM hBn HO3 HI3 HB3 HBW3
    go_wp2_with (at_builtin; refine wpList_append_own _ rfl _ _ 37 rfl W1.heap.size 31 i0 _ 11 104 Tryz.underlying37 hi hz0 hz1 hz2 rfl (by decide) _ _ _ rfl hown ⟨w3.heap.size + 1, 0, none⟩ 1 1 [Value.int IntKind.i64 k, .int .i64 u, .int .i64 f, .slice a3 R.length c3, .int .i64 o.1, .int .i64 o.2.1, .int .i64 o.2.2.1.1, .int .i64 o.2.2.1.2.1, .int .i64 o.2.2.1.2.2, .int .i64 o.2.2.2.1, .int .i64 o.2.2.2.2] rfl rfl ?c1 ?c2 ?c3 ?c4 ?c5 ?_)
    case c1 => intro i u hj; first | exact HM.out.at i hj | (rw [Addr.add_mid, Nat.zero_add]; exact HM.out.at i hj)
    case c2 => first | exact rcC_one ((k, u, f, R, o), a3, c3) | exact ⟨rfl, rfl, rfl, rfl, rfl, rfl, rfl, rfl, rfl, rfl, rfl⟩
    case c3 => unfold maxLen; omega
    case c4 => omega
    case c5 => exact hsz
    intro v5 w5 hown5 hgrow _
    have HO5 := Lib.hid (ownR_grew (x := ((k, u, f, R, o), a3, c3)) HO4.out HI4.out hown5 hgrow)
    have HB5 := Lib.hid (HB4.out.trans (below_grown hown hsz hgrow))
    clear hgrow hown5
    go_wp2
    go_roundw
    case rel =>
      refine ⟨j + 1, n + t.length, X ++ [((k, u, f, R, o), a3, c3)], hlt, by go_num, by go_num, hn2, HO5.out, ?_, ?_, HB5.out⟩
      · have := HN.out
        rw [← HX.out] at this
        simpa using this
      · intro x hx
        rcases List.mem_append.1 hx with hx | hx
        · exact HF.out x hx
        · simp at hx
          subst hx
          exact HFX.out
    case measure => simp [intOf]; omega
end Go.Proofs.YtmlodnamknielacGreatDoor

