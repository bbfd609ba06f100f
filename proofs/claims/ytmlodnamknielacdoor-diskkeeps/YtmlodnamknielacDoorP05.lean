/- 9 texts of the proof: note.read. Plain facts on deltas: what goes, what is here, and that it makes the other one. Plain facts on a view's two parts put together. tree.Under. view.Roots, view.under; slices.IndexFunc, slices.ContainsFunc at ints; the closures of view.split. orangeryref.CheckRoots. Steps and operations held against themselves. Stamps, operations and steps held against each other, whatever they are. note.C -/
import Derived.OwnWalk
import Derived.Laws.StructEq
import Derived.Test.YtmlodnamknielacDoorP04
import Derived.Test.YtmlodnamknielacDoorP03
import Derived.Test.YtmlodnamknielacDoorP01
/- note.read. -/
namespace Go.Proofs.YtmlodnamknielacDoor
open Go.ChangeShapes Go.WideShapes Go.ChangeAt Go.RowKit
open Orangery (numOf numsOf)

theorem SlE.text {w : World} {a : Option Addr} {l : List (List UInt8)} (h : SlE txC w a l) (k : Nat) (hk : k < l.length) :
    ∃ b off, a = some ⟨b, off, none⟩ ∧ b < w.heap.size ∧ w.cell? ⟨b, off + k, none⟩ = some (txV l[k]) := by
  obtain ⟨b, off, e, hb, hr⟩ := h.at txC_len k hk
  refine ⟨b, off, e, hb, ?_⟩
  have := hr 0 (txV l[k]) rfl
  simpa using this

set_option maxHeartbeats 1000000 in
set_option maxRecDepth 100000 in
theorem nread_any (w : World) (a : Option Addr) (c : Nat) (ws : List (List UInt8)) (hl : ws.length ≤ 60001) (hw : ∀ t ∈ ws, t.length ≤ 60000) (h : SlE txC w a ws) (hv : Vars w) :
    Calls Tryd.prog 29 #[.slice a ws.length c] w
      fun e w' => (∃ v, e = .returned (.tuple #[v, .bool (numsOf ws).isSome]) ∧ OwnI w' w.heap.size v ((numsOf ws).getD [])) ∧ Below w.heap.size w w' := by
  obtain ⟨i0, hi, hz0, hz1, hz2⟩ := info_parts infoInt
  have HH : Hid (SlE txC w a ws) := h
  have HW : Hid (∀ t ∈ ws, t.length ≤ 60000) := hw
  have HV : Hid (Vars w) := hv
  clear h hw hv
  go_enter Tryd.func29, Tryd.ntmps29
  go_wp2_with (at_make; refine wpList_make_full _ rfl _ _ 22 rfl w.heap.size 3 i0 _ 1 Tryd.underlying22 hi hz0 hz1 .i64 .i64 _ _ ws.length rfl rfl rfl rfl ?c1 ?c2 ?c3 ?_)
  case c1 => rw [hz2]; omega
  case c2 => unfold maxLen; omega
  case c3 => exact Nat.le_refl _
  intro w1 hown hgrow
  have hb1 : Below w.heap.size w w1 := below_grown (v := .slice none 0 0) (World.ownsRow_nil _ _ 3 1) (Nat.le_refl _) hgrow
  obtain ⟨cur0, hcur0, hsz0⟩ : ∃ cur, w1.heap[w.heap.size]? = some (.cells cur 3 (0, 0)) ∧ cur.size = ws.length := by
    rcases hown.2 with ⟨h', _⟩ | ⟨g, cap, cur, h', _, hh, _, _, hs, _⟩
    · simp at h'
    · simp at h'
      obtain ⟨rfl, rfl⟩ := h'
      exact ⟨cur, hh, by simpa using hs⟩
  clear hown hgrow
  go_wp2
  go_loopw [14] (fun i W => ∃ (k : Nat) (cur : Array Value) (L : List Int), k ≤ ws.length ∧ i = .int .i64 k ∧ W.heap[w.heap.size]? = some (.cells cur 3 (0, 0)) ∧ cur.size = ws.length ∧ numsOf (ws.take k) = some L ∧ cur.toList.take k = L.map (Value.int .i64) ∧ Below w.heap.size w W) (fun i _ => ws.length - (intOf i).toNat)
  case atStart => exact ⟨0, cur0, [], Nat.zero_le _, rfl, hcur0, hsz0, rfl, by simp, hb1⟩
  case round =>
    clear hcur0 hsz0 hb1
    obtain ⟨k, cur, L, hk, rfl, hcur, hsz, hnum, htk, hb⟩ := hrel
    have HB : Hid (Below w.heap.size w wr) := hb
    have HCUR : Hid (wr.heap[w.heap.size]? = some (.cells cur 3 (0, 0)) ∧ cur.size = ws.length ∧ numsOf (ws.take k) = some L ∧ cur.toList.take k = L.map (Value.int .i64)) := ⟨hcur, hsz, hnum, htk⟩
    clear hb hcur hsz hnum htk
    by_cases hlt : k < ws.length
    · obtain ⟨b, off, rfl, hbl, g0⟩ := (HH.out.below HB.out).text k hlt
      have HT : Hid (numsOf (ws.take (k + 1)) = (numOf ws[k]).map fun v => L ++ [v]) := Orangery.numsOf_take ws k hlt L HCUR.out.2.2.1
      have hln : (ws[k]).length ≤ 60000 := HW.out _ (List.getElem_mem hlt)
      generalize ws[k] = t at *
      rcases numEnds_two (Lib.atoiAll t) with ⟨v, hq⟩ | hq
      · skip
        obtain ⟨v0, v1⟩ := Orangery.atoi_bounds hq
        have HN : Hid (numOf t = if Lib.itoa v = t then some v else none) := Orangery.numOf_ok hq
        have HQ : Hid (Lib.atoiAll t = .ok v) := hq
        clear hq
        go_wp2_with fail
        refine (atoi_ok _ t v hln HQ.out).mono ?_
        rintro e w2 ⟨rfl, hb2⟩
        have HB2 : Hid (Below wr.heap.size wr w2) := hb2
        have HV2 : Hid (Vars w2) := (HV.out.on HB.out).on hb2
        clear hb2
        go_wp2_with fail
        refine (itoa_any _ v v0 v1 HV2.out).mono ?_
        rintro e w3 ⟨rfl, hb3⟩
        have HB3 : Hid (Below wr.heap.size wr w3) := HB2.out.trans (hb3.mono HB2.out.size)
        clear hb3 HB2 HV2
        by_cases he : Lib.itoa v = t
        · have d1 : (Lib.itoa v == t) = true := by simpa using he
          have HN2 : Hid (numOf t = some v) := by show _ = _; rw [HN.out, if_pos he]
          have HE : Hid (Lib.itoa v = t) := he
          clear he HN
          obtain ⟨hcur, hsz, hnum, htk⟩ := HCUR.out
          have hgl : w.heap.size < wr.heap.size := blk_lt hcur
          have hcur3 : w3.heap[w.heap.size]? = some (.cells cur 3 (0, 0)) := by rw [HB3.out.block _ hgl]; exact hcur
          have hkc : k < cur.size := by omega
          obtain ⟨u0, c1⟩ : ∃ u0, w3.cell? ⟨w.heap.size, k, none⟩ = some u0 :=
            ⟨cur[k], by rw [Go.Joins.cell_of_block hcur3, Array.getElem?_eq_getElem hkc]⟩
          have c2 : w3.frozen? ⟨w.heap.size, k, none⟩ = false := Go.Joins.unfrozen_of_block hcur3 _
          have HC : Hid ((w3.setCell ⟨w.heap.size, k, none⟩ (.int .i64 v)).heap[w.heap.size]? = some (.cells (cur.setIfInBounds k (.int .i64 v)) 3 (0, 0))) := heap_setCell_same w3 w.heap.size k cur 3 _ hcur3
          have HBW : Hid (Below w.heap.size w w3) := HB.out.trans (HB3.out.mono HB.out.size)
          have HR : Hid ((cur.setIfInBounds k (.int .i64 v)).size = ws.length ∧ (cur.setIfInBounds k (.int .i64 v)).toList.take (k + 1) = (L ++ [v]).map (Value.int .i64)) := by
            refine ⟨by simpa using hsz, ?_⟩
            rw [Array.toList_setIfInBounds, List.take_succ_eq_append_getElem (by simpa using hkc), List.take_set_of_le (Nat.le_refl _), htk]
            simp
          clear hcur hsz hnum htk hgl hcur3 hkc HB3 HCUR
          go_wp2
          go_roundw
          case rel =>
            refine ⟨k + 1, _, L ++ [v], hlt, by go_num, HC.out, HR.out.1, ?_, HR.out.2, HBW.out.setCell (p := ⟨w.heap.size, k, none⟩) (Nat.le_refl _) _⟩
            rw [HT.out, HN2.out]
            rfl
          case measure => simp [intOf]; omega
        · have d1 : (Lib.itoa v == t) = false := by simpa using he
          have HN2 : Hid (numOf t = none) := by show _ = _; rw [HN.out, if_neg he]
          have HE : Hid (Lib.itoa v ≠ t) := he
          clear he HN
          have HB2 : Hid (Below w.heap.size w w3) := HB.out.trans (HB3.out.mono HB.out.size)
          have HX : Hid (numsOf ws = none) := Orangery.numsOf_stop ws (k + 1) (by rw [HT.out, HN2.out]; rfl)
          clear HB3
          go_wp2
          go_ret2
          exact ⟨⟨_, by rw [HX.out]; rfl, by rw [HX.out]; exact World.ownsRow_nil _ _ _ _⟩, HB2.out⟩
      · skip
        have HN2 : Hid (numOf t = none) := Orangery.numOf_bad hq
        have HX : Hid (numsOf ws = none) := Orangery.numsOf_stop ws (k + 1) (by rw [HT.out, HN2.out]; rfl)
        have HQ : Hid (∀ v, Lib.atoiAll t ≠ .ok v) := hq
        have HV2 : Hid (Vars wr) := HV.out.on HB.out
        clear hq
        go_wp2_with fail
        refine (atoi_bad _ t hln HQ.out HV2.out).mono ?_
        rintro e w2 ⟨⟨v, te, pe, rfl⟩, hb2⟩
        have HB2 : Hid (Below w.heap.size w w2) := HB.out.trans (hb2.mono HB.out.size)
        clear hb2
        go_wp2
        go_ret2
        exact ⟨⟨_, by rw [HX.out]; rfl, by rw [HX.out]; exact World.ownsRow_nil _ _ _ _⟩, HB2.out⟩
    · have hk' : k = ws.length := by omega
      subst hk'
      obtain ⟨hcur, hsz, hnum, htk⟩ := HCUR.out
      rw [List.take_length] at hnum
      rw [List.take_of_length_le (by simp; omega)] at htk
      have HX : Hid (numsOf ws = some L) := hnum
      have hlen : L.length = ws.length := Orangery.numsOf_len ws L hnum
      have HO : Hid (OwnI wr w.heap.size (.slice (some ⟨w.heap.size, 0, none⟩) ws.length ws.length) L) := by
        show wr.ownsRow _ _ _ _ _ _
        rw [hlen]
        exact ⟨by simpa using hlen, Or.inr ⟨w.heap.size, ws.length, cur, rfl, Nat.le_refl _, hcur, Nat.le_refl _, by unfold maxLen; omega, by simpa using hsz, by rw [List.take_of_length_le (by simp; omega)]; exact htk⟩⟩
      clear hcur hsz hnum htk hlen HCUR
      go_wp2
      go_ret2
      exact ⟨⟨_, by rw [HX.out]; rfl, by rw [HX.out]; exact HO.out⟩, HB.out⟩
end Go.Proofs.YtmlodnamknielacDoor

/- Plain facts on deltas: what goes, what is here, and that it makes the other one. -/
namespace Orangery

/-- two trees in which all are found alike are one -/
theorem ext_find (l m : List Pl) (hl : scan 0 l = 0) (hm : scan 0 m = 0) (h : ∀ n, find l n = find m n) : l = m := by
  rw [← rows_all l hl, ← rows_all m hm]
  apply rows_congr
  intro n _
  unfold tabAt
  rw [h]

def goneL (a b : List Pl) : List Int := (a.filter fun p => decide ((find b p.1).1 = 0)).map (·.1)
def hereL (a b : List Pl) : List Pl := b.filter fun p => decide (find a p.1 ≠ p)
/-- some go, some stand so -/
def appL (l : List Pl) (gone : List Int) (here : List Pl) : List Pl := here.foldl inL (l.filter fun p => !hasB p.1 gone)

theorem find_ins (here : List Pl) (hb : byNode here) (hz : ∀ p ∈ here, p.1 ≠ 0) : ∀ l n, find (here.foldl inL l) n = if (find here n).1 = 0 then find l n else find here n := by
  induction here with
  | nil => intro l n; simp [find_nil]
  | cons q m ih =>
    intro l n
    replace hb := List.pairwise_cons.1 hb
    rw [List.foldl_cons, ih hb.2 (fun p hp => hz p (by simp [hp])), find_cons, find_in]
    by_cases hq : q.1 = n
    · subst hq
      have hf : find m q.1 = (0, 0, 0) := find_zero m q.1 (fun p hp e => by have := hb.1 p hp; omega)
      have := hz q (by simp)
      simp [hf, this]
    · have e1 : (if n = q.1 then q else find l n) = find l n := if_neg (fun e => hq e.symm)
      have e2 : (if q.1 = n then q else find m n) = find m n := if_neg hq
      rw [e1, e2]

theorem find_app (l : List Pl) (gone : List Int) (here : List Pl) (hb : byNode here) (hz : ∀ p ∈ here, p.1 ≠ 0) (n : Int) :
    find (appL l gone here) n = if (find here n).1 = 0 then (if hasB n gone = true then (0, 0, 0) else find l n) else find here n := by
  unfold appL
  rw [find_ins here hb hz]
  have h := find_g (fun m => !hasB m gone) l n
  rw [h]
  cases hasB n gone <;> simp

theorem scan_filter (l : List Pl) (f : Pl → Bool) (h : scan 0 l = 0) : scan 0 (l.filter f) = 0 := by
  obtain ⟨h1, h2⟩ := (scan0_iff l).1 h
  exact (scan0_iff _).2 ⟨fun p hp => h1 p (List.mem_filter.1 hp).1, h2.filter _⟩

theorem scan_ins (here : List Pl) (hr : ∀ p ∈ here, inRangeB p = true) : ∀ l, scan 0 l = 0 → scan 0 (here.foldl inL l) = 0 := by
  induction here with
  | nil => intro l h; exact h
  | cons q m ih => intro l h; exact ih (fun p hp => hr p (by simp [hp])) _ (scan_in l q h (hr q (by simp)))

theorem scan_app (l : List Pl) (gone : List Int) (here : List Pl) (hl : scan 0 l = 0) (hh : scan 0 here = 0) : scan 0 (appL l gone here) = 0 :=
  scan_ins here ((scan0_iff here).1 hh).1 _ (scan_filter l _ hl)

theorem find_here (a b : List Pl) (hb : scan 0 b = 0) (n : Int) : find (hereL a b) n = if find a n = find b n then (0, 0, 0) else find b n := by
  obtain ⟨h1, h2⟩ := (scan0_iff b).1 hb
  by_cases hz : (find b n).1 = 0
  · have hno : ∀ p ∈ b, p.1 ≠ n := by
      intro p hp e
      have := find_of_mem h2 p hp
      rw [e] at this
      rw [this] at hz
      have := (inRangeB_iff p).1 (h1 p hp)
      omega
    have e1 : find b n = (0, 0, 0) := find_zero b n hno
    have e2 : find (hereL a b) n = (0, 0, 0) := find_zero _ n (fun p hp => hno p (List.mem_filter.1 hp).1)
    rw [e1, e2]
    simp
  · obtain ⟨hm, hn⟩ := find_mem b n hz
    by_cases he : find a n = find b n
    · rw [if_pos he]
      refine find_zero _ n ?_
      intro p hp e
      obtain ⟨hp1, hp2⟩ := List.mem_filter.1 hp
      have h3 := find_of_mem h2 p hp1
      rw [e] at h3
      simp only [decide_eq_true_eq] at hp2
      rw [e, he, h3] at hp2
      exact hp2 rfl
    · rw [if_neg he]
      refine find_filter _ b n ?_
      intro p hp e
      have h3 := find_of_mem h2 p hp
      rw [e] at h3
      simp only [decide_eq_true_eq]
      rw [e, ← h3]
      exact he

theorem gone_iff (a b : List Pl) (ha : scan 0 a = 0) (n : Int) : hasB n (goneL a b) = true ↔ (find a n).1 ≠ 0 ∧ (find b n).1 = 0 := by
  obtain ⟨h1, h2⟩ := (scan0_iff a).1 ha
  unfold hasB goneL
  rw [decide_eq_true_eq, List.mem_map]
  constructor
  · rintro ⟨p, hp, rfl⟩
    obtain ⟨hp1, hp2⟩ := List.mem_filter.1 hp
    refine ⟨?_, by simpa using hp2⟩
    rw [find_of_mem h2 p hp1]
    have := (inRangeB_iff p).1 (h1 p hp1)
    omega
  · rintro ⟨h3, h4⟩
    obtain ⟨hm, hn⟩ := find_mem a n h3
    exact ⟨find a n, List.mem_filter.2 ⟨hm, by rw [hn]; simpa using h4⟩, hn⟩

theorem find_none (l : List Pl) (h : scan 0 l = 0) (n : Int) (hz : (find l n).1 = 0) : find l n = (0, 0, 0) := by
  obtain ⟨h1, h2⟩ := (scan0_iff l).1 h
  refine find_zero l n ?_
  intro p hp e
  have := find_of_mem h2 p hp
  rw [e] at this
  rw [this] at hz
  have := (inRangeB_iff p).1 (h1 p hp)
  omega

/-- what changes, applied, makes the other one -/
theorem delta_makes (a b : List Pl) (ha : scan 0 a = 0) (hb : scan 0 b = 0) : appL a (goneL a b) (hereL a b) = b := by
  obtain ⟨h1, h2⟩ := (scan0_iff b).1 hb
  have hh : scan 0 (hereL a b) = 0 := scan_filter b _ hb
  obtain ⟨h3, h4⟩ := (scan0_iff _).1 hh
  refine ext_find _ _ (scan_app a _ _ ha hh) hb ?_
  intro n
  rw [find_app a _ _ h4 (fun p hp => by have := (inRangeB_iff p).1 (h3 p hp); omega), find_here a b hb]
  by_cases he : find a n = find b n
  · rw [if_pos he]
    simp only [if_true]
    rw [if_neg, he]
    rw [gone_iff a b ha, he]
    exact fun h => h.1 h.2
  · rw [if_neg he]
    by_cases hz : (find b n).1 = 0
    · have e0 := find_none b hb n hz
      rw [if_pos hz, if_pos, e0]
      rw [gone_iff a b ha]
      refine ⟨fun h => he ?_, hz⟩
      rw [find_none a ha n h, e0]
    · rw [if_neg hz]

/-- of like ones there is none -/
theorem delta_none (a : List Pl) (ha : scan 0 a = 0) : goneL a a = [] ∧ hereL a a = [] := by
  obtain ⟨h1, h2⟩ := (scan0_iff a).1 ha
  constructor
  · unfold goneL
    rw [List.map_eq_nil_iff, List.filter_eq_nil_iff]
    intro p hp h
    rw [find_of_mem h2 p hp] at h
    have := (inRangeB_iff p).1 (h1 p hp)
    simp at h
    omega
  · unfold hereL
    rw [List.filter_eq_nil_iff]
    intro p hp h
    rw [find_of_mem h2 p hp] at h
    simp at h
end Orangery

/- Plain facts on a view's two parts put together. -/
namespace Orangery

/-- both together: of a node that is in both the place in the way counts -/
def togL (K W : List Pl) : List Pl := W.foldl inL K
/-- is a node in these places? -/
def inPl (W : List Pl) (n : Int) : Bool := decide ((find W n).1 = n)

def ofE (l : List Pl) (R : List Int) : Int := orI (check l) (rootsOk R)
def ofR (l : List Pl) (R : List Int) : List Int := if ofE l R ≠ 0 then [] else R
def ofK (l : List Pl) (R : List Int) : List Pl := if ofE l R ≠ 0 then [] else viewK l R
def ofW (l : List Pl) (R : List Int) : List Pl := if ofE l R ≠ 0 then [] else viewW l R
def sameV (R R' : List Int) (K K' W W' : List Pl) : Bool := decide (R = R') && decide (K = K') && decide (W = W')
def viewE (R : List Int) (K W : List Pl) : Int :=
  if rootsOk R ≠ 0 then rootsOk R else if check K ≠ 0 then check K else if check W ≠ 0 then check W
  else if check (togL K W) ≠ 0 then check (togL K W) else if sameV R R K (viewK (togL K W) R) W (viewW (togL K W) R) = true then 0 else 4

theorem ofE_zero {l : List Pl} {R : List Int} (h : ofE l R = 0) : check l = 0 ∧ rootsOk R = 0 := by
  unfold ofE orI at h
  split at h
  · rename_i h1; exact absurd h h1
  · rename_i h1
    simp at h1
    exact ⟨h1, h⟩
theorem of_ok {l : List Pl} {R : List Int} (h : ofE l R = 0) : ofR l R = R ∧ ofK l R = viewK l R ∧ ofW l R = viewW l R := by
  unfold ofR ofK ofW
  rw [if_neg (by simp [h]), if_neg (by simp [h]), if_neg (by simp [h])]
  exact ⟨rfl, rfl, rfl⟩
theorem of_bad {l : List Pl} {R : List Int} (h : ofE l R ≠ 0) : ofR l R = [] ∧ ofK l R = [] ∧ ofW l R = [] := by
  unfold ofR ofK ofW
  rw [if_pos h, if_pos h, if_pos h]
  exact ⟨rfl, rfl, rfl⟩

theorem scan_tog {K W : List Pl} (hK : scan 0 K = 0) (hW : scan 0 W = 0) : scan 0 (togL K W) = 0 :=
  scan_ins W (fun p hp => (scan_range W 0 hW p hp).1) K hK
theorem find_tog {K W : List Pl} (hW : scan 0 W = 0) (n : Int) : find (togL K W) n = if (find W n).1 = 0 then find K n else find W n :=
  find_ins W (scan_sorted W 0 hW) (fun p hp => by have := (scan_range W 0 hW p hp).2; omega) K n

theorem inPl_iff {W : List Pl} (n : Int) (hn : n ≠ 0) : inPl W n = true ↔ (find W n).1 ≠ 0 := by
  unfold inPl
  rw [decide_eq_true_iff]
  constructor
  · intro h; rw [h]; exact hn
  · intro h; exact (find_mem W n h).2

theorem node_pos {W : List Pl} (hW : scan 0 W = 0) (p : Pl) (hp : p ∈ W) : p.1 ≠ 0 := by have := (scan_range W 0 hW p hp).2; omega

/-- the program's way: take out of the one what is in the other, put the other behind it, sort -/
theorem tog_unique (K W l' : List Pl) (hK : scan 0 K = 0) (hW : scan 0 W = 0)
    (hp : l'.Perm ((K.filter fun p => !inPl W p.1) ++ W)) (hs : l'.Pairwise fun p q => p.1 ≤ q.1) : l' = togL K W := by
  have hKs := scan_sorted K 0 hK
  have hWs := scan_sorted W 0 hW
  have hmem : ∀ p, p ∈ l' ↔ (p ∈ K ∧ (find W p.1).1 = 0) ∨ p ∈ W := by
    intro p
    rw [hp.mem_iff, List.mem_append, List.mem_filter]
    constructor
    · rintro (⟨h1, h2⟩ | h)
      · left
        refine ⟨h1, ?_⟩
        have hn := node_pos hK p h1
        have : ¬ inPl W p.1 = true := by simpa using h2
        rw [inPl_iff _ hn] at this
        simpa using this
      · exact Or.inr h
    · rintro (⟨h1, h2⟩ | h)
      · left
        refine ⟨h1, ?_⟩
        have hn := node_pos hK p h1
        have : ¬ inPl W p.1 = true := by rw [inPl_iff _ hn]; simpa using h2
        simpa using this
      · exact Or.inr h
  have hnd : (((K.filter fun p => !inPl W p.1) ++ W).map (·.1)).Nodup := by
    rw [List.map_append, List.nodup_append]
    refine ⟨?_, ?_, ?_⟩
    · rw [List.Nodup, List.pairwise_map]
      exact (hKs.filter _).imp (fun h => by omega)
    · rw [List.Nodup, List.pairwise_map]
      exact hWs.imp (fun h => by omega)
    · intro x hx y hy
      simp only [List.mem_map, List.mem_filter] at hx hy
      obtain ⟨p, ⟨h1, h2⟩, rfl⟩ := hx
      obtain ⟨q, h3, rfl⟩ := hy
      intro e
      have hn := node_pos hK p h1
      have : ¬ inPl W p.1 = true := by simpa using h2
      apply this
      rw [inPl_iff _ hn, e, find_of_mem hWs q h3, ← e]
      exact hn
  have hnd' : (l'.map (·.1)).Nodup := ((hp.map (·.1)).nodup_iff).2 hnd
  rw [List.Nodup, List.pairwise_map] at hnd'
  have hb : l'.Pairwise fun p q => p.1 < q.1 := (List.Pairwise.and hs hnd').imp (fun h => by omega)
  have hr : ∀ p ∈ l', inRangeB p = true := by
    intro p h
    rcases (hmem p).1 h with h | h
    · exact (scan_range K 0 hK p h.1).1
    · exact (scan_range W 0 hW p h).1
  refine ext_find _ _ ((scan0_iff l').2 ⟨hr, hb⟩) (scan_tog hK hW) ?_
  intro n
  rw [find_tog hW]
  by_cases h1 : (find W n).1 = 0
  · rw [if_pos h1]
    by_cases h2 : (find K n).1 = 0
    · rw [find_none K hK n h2]
      apply find_zero
      intro p h e
      rcases (hmem p).1 h with h | h
      · rw [← e, find_of_mem hKs p h.1] at h2
        exact node_pos hK p h.1 h2
      · rw [← e, find_of_mem hWs p h] at h1
        exact node_pos hW p h h1
    · obtain ⟨h3, h4⟩ := find_mem K n h2
      have h5 : find K n ∈ l' := (hmem _).2 (Or.inl ⟨h3, by rw [h4]; exact h1⟩)
      have := find_of_mem hb _ h5
      rw [h4] at this
      exact this
  · rw [if_neg h1]
    obtain ⟨h3, h4⟩ := find_mem W n h1
    have h5 : find W n ∈ l' := (hmem _).2 (Or.inr h3)
    have := find_of_mem hb _ h5
    rw [h4] at this
    exact this

/-- the reference's way: a table -/
theorem tog_rows (K W : List Pl) (hK : scan 0 K = 0) (hW : scan 0 W = 0) : rows (fun n => tabLast (K ++ W) n) 16 = togL K W := by
  have h := rows_all (togL K W) (scan_tog hK hW)
  rw [← h]
  apply rows_congr
  intro n _
  obtain ⟨h1, h2⟩ := (scan0_iff W).1 hW
  rw [tabLast_append, tabLast_eq K hK, foldl_at W n h2 (fun p hp => node_pos hW p hp)]
  unfold tabAt
  rw [find_tog hW]
  by_cases h3 : (find W (n : Int)).1 = 0
  · rw [if_pos h3, if_pos h3]
  · rw [if_neg h3, if_neg h3, if_neg h3]

/-- a view is one: what its parts make together -/
theorem tog_view (l : List Pl) (R : List Int) (h : check l = 0) : togL (viewK l R) (viewW l R) = viewA l R := by
  have hs := check_scan l h
  have hK : scan 0 (viewK l R) = 0 := scan_filter l _ hs
  have hW : scan 0 (viewW l R) = 0 := scan_filter l _ hs
  have hA : scan 0 (viewA l R) = 0 := scan_filter l _ hs
  refine ext_find _ _ (scan_tog hK hW) hA ?_
  intro n
  rw [find_tog hW]
  have e1 : find (viewK l R) n = if knB l R n = true then find l n else (0, 0, 0) := find_g (knB l R) l n
  have e2 : find (viewW l R) n = if wyB l R n = true then find l n else (0, 0, 0) := find_g (wyB l R) l n
  have e3 : find (viewA l R) n = if seenB l R n = true then find l n else (0, 0, 0) := find_g (seenB l R) l n
  rw [e1, e2, e3]
  unfold seenB
  cases hk : knB l R n
  · cases hw : wyB l R n
    · simp
    · simp
      intro hz
      rw [find_none l hs n hz]
  · rw [view_apart l R n hk]
    simp

theorem view_ok (l : List Pl) (R : List Int) (h : ofE l R = 0) : viewE R (viewK l R) (viewW l R) = 0 := by
  obtain ⟨h1, h2⟩ := ofE_zero h
  obtain ⟨g1, g2, g3⟩ := view_again l R h1 (rootsOk_node h2)
  unfold viewE
  rw [tog_view l R h1, if_neg (by simp [h2]), if_neg (by simp; exact check_g _ l h1), if_neg (by simp; exact check_g _ l h1), if_neg (by simp [g1]), g2, g3]
  simp [sameV]

/-- the one ahead of the k-th -/
def prevI (l : List Int) : Nat → Int
  | 0 => -1
  | k + 1 => (l[k]?).getD 0
theorem prevI_succ (l : List Int) (k : Nat) (h : k < l.length) : prevI l (k + 1) = l[k] := by simp [prevI, h]

def idxI (f : Int → Bool) : Nat → List Int → Int
  | _, [] => -1
  | k, n :: l => if f n = true then k else idxI f (k + 1) l
theorem idxI_step (f : Int → Bool) (l : List Int) (k : Nat) (h : k < l.length) (hs : idxI f k (l.drop k) = idxI f 0 l) :
    (f l[k] = true → idxI f 0 l = k) ∧ (f l[k] = false → idxI f (k + 1) (l.drop (k + 1)) = idxI f 0 l) := by
  rw [List.drop_eq_getElem_cons h] at hs
  have e : idxI f k (l[k] :: l.drop (k + 1)) = if f l[k] = true then (k : Int) else idxI f (k + 1) (l.drop (k + 1)) := rfl
  rw [e] at hs
  refine ⟨fun h1 => ?_, fun h1 => ?_⟩
  · rw [if_pos h1] at hs; exact hs.symm
  · rw [if_neg (by simp [h1])] at hs; exact hs
theorem idxI_any (f : Int → Bool) (l : List Int) : ∀ k : Nat, (idxI f k l = -1 ∧ l.any f = false) ∨ ((k : Int) ≤ idxI f k l ∧ l.any f = true) := by
  induction l with
  | nil => intro k; exact Or.inl ⟨rfl, rfl⟩
  | cons n l ih =>
    intro k
    have e : idxI f k (n :: l) = if f n = true then (k : Int) else idxI f (k + 1) l := rfl
    rw [e, List.any_cons]
    by_cases h : f n = true
    · rw [if_pos h]; exact Or.inr ⟨Int.le_refl _, by simp [h]⟩
    · rw [if_neg h]
      have hf : f n = false := by simpa using h
      rcases ih (k + 1) with ⟨h1, h2⟩ | ⟨h1, h2⟩
      · exact Or.inl ⟨h1, by simp [hf, h2]⟩
      · refine Or.inr ⟨by omega, by simp [h2]⟩
theorem idxF_any (f : Pl → Bool) (l : List Pl) : ∀ k : Nat, (idxF f k l = -1 ∧ l.any f = false) ∨ ((k : Int) ≤ idxF f k l ∧ l.any f = true) := by
  induction l with
  | nil => intro k; exact Or.inl ⟨rfl, rfl⟩
  | cons n l ih =>
    intro k
    have e : idxF f k (n :: l) = if f n = true then (k : Int) else idxF f (k + 1) l := rfl
    rw [e, List.any_cons]
    by_cases h : f n = true
    · rw [if_pos h]; exact Or.inr ⟨Int.le_refl _, by simp [h]⟩
    · rw [if_neg h]
      have hf : f n = false := by simpa using h
      rcases ih (k + 1) with ⟨h1, h2⟩ | ⟨h1, h2⟩
      · exact Or.inl ⟨h1, by simp [hf, h2]⟩
      · refine Or.inr ⟨by omega, by simp [h2]⟩
theorem under_E {l : List Pl} {n t : Int} (h : underB l n t = true) : underE l n t = 0 := by
  unfold underB at h
  split at h
  · simp at h
  · rename_i h1; simpa using h1
/-- a node above one of the roots -/
def abB (l : List Pl) (R : List Int) (n : Int) : Bool := R.any fun r => underB l r n
theorem wy_ab (l : List Pl) (R : List Int) (n : Int) : wyB l R n = (!knB l R n && abB l R n) := rfl
theorem viewK_take (l : List Pl) (R : List Int) (k : Nat) (h : k < l.length) : (l.take (k + 1)).filter (fun p => knB l R p.1) = (l.take k).filter (fun p => knB l R p.1) ++ if knB l R l[k].1 = true then [l[k]] else [] := by
  rw [List.take_succ_eq_append_getElem h, List.filter_append]
  congr 1
  by_cases hk : knB l R l[k].1 = true
  · simp [hk]
  · simp [hk]
theorem viewW_take (l : List Pl) (R : List Int) (k : Nat) (h : k < l.length) : (l.take (k + 1)).filter (fun p => wyB l R p.1) = (l.take k).filter (fun p => wyB l R p.1) ++ if wyB l R l[k].1 = true then [l[k]] else [] := by
  rw [List.take_succ_eq_append_getElem h, List.filter_append]
  congr 1
  by_cases hk : wyB l R l[k].1 = true
  · simp [hk]
  · simp [hk]

/-- all on the way up from these -/
def upL (l : List Pl) (R : List Int) : List Int := R.flatMap fun r => (chain l r).drop 1
theorem upL_take (l : List Pl) (R : List Int) (k : Nat) (h : k < R.length) : upL l (R.take (k + 1)) = upL l (R.take k) ++ (chain l R[k]).drop 1 := by
  unfold upL
  rw [List.take_succ_eq_append_getElem h, List.flatMap_append]
  simp
theorem upL_len (l : List Pl) (R : List Int) (h : ∀ r ∈ R, (chain l r).length ≤ 17) : (upL l R).length ≤ 16 * R.length := by
  induction R with
  | nil => simp [upL]
  | cons r R ih =>
    have h1 := h r (by simp)
    have h2 := ih (fun r hr => h r (by simp [hr]))
    have e : upL l (r :: R) = (chain l r).drop 1 ++ upL l R := by simp [upL]
    rw [e, List.length_append, List.length_drop, List.length_cons]
    omega
theorem has_up (l : List Pl) (R : List Int) (n : Int) : hasB n (upL l R) = R.any fun r => hasB n ((chain l r).drop 1) := by
  rw [Bool.eq_iff_iff, List.any_eq_true]
  simp only [hasB, decide_eq_true_eq, upL, List.mem_flatMap]
theorem any_take (f : Int → Bool) (l : List Int) (k : Nat) (h : k < l.length) : (l.take (k + 1)).any f = ((l.take k).any f || f l[k]) := by
  rw [List.take_succ_eq_append_getElem h, List.any_append]
  simp
theorem chain_len (l : List Pl) (r : Int) (h : check l = 0) (hr : isNodeB r = true) : (chain l r).length ≤ 17 := by
  rw [isNodeB_iff] at hr
  obtain ⟨m, ⟨hok, _⟩, _⟩ := chain_inv l r (scan_up (check_scan l h)) hr.1 hr.2
  exact outOk_len hok
end Orangery

/- tree.Under. -/
namespace Go.Proofs.YtmlodnamknielacDoor
open Go.ChangeShapes Go.WideShapes Go.ChangeAt Go.RowKit
open Orangery (Pl find isNodeB inRangeB meetsN scan ringAt check underE underB)

end Go.Proofs.YtmlodnamknielacDoor

/- view.Roots, view.under; slices.IndexFunc, slices.ContainsFunc at ints; the closures of view.split. -/
namespace Go.Proofs.YtmlodnamknielacDoor
open Go.ChangeShapes Go.WideShapes Go.ChangeAt Go.RowKit
open Orangery (Pl isNodeB rootsE rootsOk prevI idxI underB underE knB abB)

set_option maxHeartbeats 1000000 in
theorem vroots_any (w : World) (a : Option Addr) (c : Nat) (l : List Int) (hl : l.length ≤ maxLen) (h : SlI w a l) :
    Calls Tryd.prog 57 #[.slice a l.length c] w fun e w' => e = .returned (.int .i64 (rootsOk l)) ∧ w' = w := by
  have hl' : l.length ≤ 9223372036854775807 := hl
  by_cases h4 : 4 < l.length
  · have d4 : decide ((l.length : Int) > 4) = true := by simp; omega
    have HE : Hid (rootsOk l = 2) := by show _ = _; unfold rootsOk; rw [if_pos h4]
    clear h4
    go_enter Tryd.func57, Tryd.ntmps57
    go_wp2
    go_ret
    exact ⟨ret_int HE.out.symm, rfl⟩
  · have d4 : decide ((l.length : Int) > 4) = false := by simp; omega
    have HE : Hid (rootsOk l = rootsE (-1) l) := by show _ = _; unfold rootsOk; rw [if_neg h4]
    go_enter Tryd.func57, Tryd.ntmps57
    go_wp2
    go_loop [10] (fun i => ∃ k : Nat, k ≤ l.length ∧ i = .int .i64 k ∧ rootsE (prevI l k) (l.drop k) = rootsE (-1) l) (fun i => l.length - (intOf i).toNat)
    case atStart => exact ⟨0, Nat.zero_le _, rfl, rfl⟩
    case round =>
      obtain ⟨k, hk, rfl, hf⟩ := hrel
      by_cases hlt : k < l.length
      · obtain ⟨s1, s2, s3⟩ := Orangery.rootsE_step l k _ hlt hf
        have H1 : Hid (isNodeB l[k] = false → rootsE (-1) l = 5) := s1
        have H2 : Hid (isNodeB l[k] = true → l[k] ≤ prevI l k → rootsE (-1) l = 6) := s2
        have H3 : Hid (isNodeB l[k] = true → ¬ l[k] ≤ prevI l k → rootsE (prevI l (k + 1)) (l.drop (k + 1)) = rootsE (-1) l) := by
          show _ → _ → _
          rw [Orangery.prevI_succ l k hlt]
          exact s3
        clear s1 s2 s3 hf
        obtain ⟨b, off, rfl, hbl, g0⟩ := h.at k hlt
        by_cases hn : isNodeB l[k] = true
        · have hn' := (Orangery.isNodeB_iff _).1 hn
          cases k with
          | zero =>
            rw [Nat.add_zero] at g0
            have hq : ¬ l[0] ≤ prevI l 0 := by show ¬ l[0] ≤ -1; omega
            have HF : Hid (rootsE (prevI l (0 + 1)) (l.drop (0 + 1)) = rootsE (-1) l) := H3.out hn hq
            clear H1 H2 H3 hn hq
            generalize l[0] = x at *
            have x1 : decide (x < 0) = false := by simp; omega
            have x2 : decide (x > 16) = false := by simp; omega
            clear hn'
            go_wp2
            go_round
            case rel => exact ⟨1, hlt, by go_num, HF.out⟩
            case measure => simp [intOf]; omega
          | succ j =>
            obtain ⟨b', off', e', _, g1⟩ := h.at j (by omega)
            obtain ⟨rfl, rfl⟩ : b = b' ∧ off = off' := by simpa using e'
            have hp : prevI l (j + 1) = l[j] := Orangery.prevI_succ l j (by omega)
            rw [hp] at H2 H3
            generalize l[j + 1] = x at *
            generalize l[j] = y at *
            have x1 : decide (x < 0) = false := by simp; omega
            have x2 : decide (x > 16) = false := by simp; omega
            have x3 : decide (((j + 1 : Nat) : Int) > 0) = true := by simp <;> omega
            have x4 : ((j + 1 : Nat) : Int) - 1 = (j : Int) := by omega
            clear hp e'
            by_cases hq : x ≤ y
            · have HF : Hid (rootsE (-1) l = 6) := H2.out hn hq
              have x5 : decide (x ≤ y) = true := by simpa using hq
              clear H1 H2 H3 hn hn' hq
              go_wp2
              go_ret
              exact ⟨ret_int (by rw [HE.out, HF.out]), rfl⟩
            · have HF : Hid (rootsE (prevI l (j + 1 + 1)) (l.drop (j + 1 + 1)) = rootsE (-1) l) := H3.out hn hq
              have x5 : decide (x ≤ y) = false := by simpa using hq
              clear H1 H2 H3 hn hn' hq
              go_wp2
              go_round
              case rel => exact ⟨j + 2, hlt, by go_num, HF.out⟩
              case measure => simp [intOf]; omega
        · have hn' : isNodeB l[k] = false := by simpa using hn
          have HF : Hid (rootsE (-1) l = 5) := H1.out hn'
          have hx : ¬ (0 ≤ l[k] ∧ l[k] ≤ 16) := fun e => hn ((Orangery.isNodeB_iff _).2 e)
          clear H1 H2 H3 hn hn'
          generalize l[k] = x at *
          by_cases h0 : x < 0
          · have x1 : decide (x < 0) = true := by simpa using h0
            clear h0 hx
            go_wp2
            go_ret
            exact ⟨ret_int (by rw [HE.out, HF.out]), rfl⟩
          · have x1 : decide (x < 0) = false := by simpa using h0
            have x2 : decide (x > 16) = true := by simp; omega
            clear h0 hx
            go_wp2
            go_ret
            exact ⟨ret_int (by rw [HE.out, HF.out]), rfl⟩
      · have hk' : l.drop k = [] := by simp; omega
        rw [hk'] at hf
        have HF : Hid (rootsE (-1) l = 0) := hf.symm
        clear hf hk'
        go_wp2
        go_ret
        exact ⟨ret_int (by rw [HE.out, HF.out]), rfl⟩

end Go.Proofs.YtmlodnamknielacDoor

/- orangeryref.CheckRoots. -/
namespace Go.Proofs.YtmlodnamknielacDoor
open Go.ChangeShapes Go.WideShapes Go.ChangeAt Go.RowKit
open Orangery (isNodeB rootsE rootsOk)

set_option maxHeartbeats 1000000 in
theorem rroots_any (w : World) (a : Option Addr) (c : Nat) (l : List Int) (hl : l.length ≤ maxLen) (h : SlI w a l) :
    Calls Tryd.prog 54 #[.slice a l.length c] w fun e w' => e = .returned (.int .i64 (rootsOk l)) ∧ w' = w := by
  have hl' : l.length ≤ 9223372036854775807 := hl
  by_cases h4 : 4 < l.length
  · have d4 : decide ((l.length : Int) > 4) = true := by simp; omega
    have HE : Hid (rootsOk l = 2) := by show _ = _; unfold rootsOk; rw [if_pos h4]
    clear h4
    go_enter Tryd.func54, Tryd.ntmps54
    go_wp2
    go_ret
    exact ⟨ret_int HE.out.symm, rfl⟩
  · have d4 : decide ((l.length : Int) > 4) = false := by simp; omega
    have HE : Hid (rootsOk l = rootsE (-1) l) := by show _ = _; unfold rootsOk; rw [if_neg h4]
    go_enter Tryd.func54, Tryd.ntmps54
    go_wp2
    go_loop [3, 11] (fun x i => ∃ (k : Nat) (m : Int), k ≤ l.length ∧ x = .int .i64 m ∧ i = .int .i64 k ∧ rootsE m (l.drop k) = rootsE (-1) l) (fun _ i => l.length - (intOf i).toNat)
    case atStart => exact ⟨0, -1, Nat.zero_le _, rfl, rfl, rfl⟩
    case round =>
      obtain ⟨k, m, hk, rfl, rfl, hf⟩ := hrel
      by_cases hlt : k < l.length
      · obtain ⟨s1, s2, s3⟩ := Orangery.rootsE_step l k _ hlt hf
        have H1 : Hid (isNodeB l[k] = false → rootsE (-1) l = 5) := s1
        have H2 : Hid (isNodeB l[k] = true → l[k] ≤ m → rootsE (-1) l = 6) := s2
        have H3 : Hid (isNodeB l[k] = true → ¬ l[k] ≤ m → rootsE l[k] (l.drop (k + 1)) = rootsE (-1) l) := s3
        clear s1 s2 s3 hf
        obtain ⟨b, off, rfl, hbl, g0⟩ := h.at k hlt
        generalize l[k] = x at *
        by_cases hn : isNodeB x = true
        · have hn' := (Orangery.isNodeB_iff _).1 hn
          obtain ⟨n1, n2⟩ := hn'
          by_cases hq : x ≤ m
          · have HF : Hid (rootsE (-1) l = 6) := H2.out hn hq
            clear H1 H2 H3 hn
            go_wp2
            go_ret
            exact ⟨ret_int (by rw [HE.out, HF.out]), rfl⟩
          · have HF : Hid (rootsE x (l.drop (k + 1)) = rootsE (-1) l) := H3.out hn hq
            clear H1 H2 H3 hn
            go_wp2
            go_round
            case rel => exact ⟨k + 1, x, hlt, rfl, by go_num, HF.out⟩
            case measure => simp [intOf]; omega
        · have hn' : isNodeB x = false := by simpa using hn
          have HF : Hid (rootsE (-1) l = 5) := H1.out hn'
          have hx : ¬ (0 ≤ x ∧ x ≤ 16) := fun e => hn ((Orangery.isNodeB_iff _).2 e)
          clear H1 H2 H3 hn hn'
          by_cases h0 : 0 ≤ x
          · have h1 : ¬ x ≤ 16 := fun e => hx ⟨h0, e⟩
            clear hx
            go_wp2
            go_ret
            exact ⟨ret_int (by rw [HE.out, HF.out]), rfl⟩
          · clear hx
            go_wp2
            go_ret
            exact ⟨ret_int (by rw [HE.out, HF.out]), rfl⟩
      · have hk' : l.drop k = [] := by simp; omega
        rw [hk'] at hf
        have HF : Hid (rootsE (-1) l = 0) := hf.symm
        clear hf hk'
        go_wp2
        go_ret
        exact ⟨ret_int (by rw [HE.out, HF.out]), rfl⟩
end Go.Proofs.YtmlodnamknielacDoor

/- Steps and operations held against themselves. -/
namespace Go.Proofs.YtmlodnamknielacDoor
open Go.ChangeShapes Go.WideShapes Go.ChangeAt Go.RowKit
open Orangery (Pl Mv Stp)

theorem eqin_op (n : Nat) (o1 o2 o3 o4 o5 o6 o7 : Int) (w : World) :
    (Op.equalIn (n + 3) 26 (.agg #[.int .i64 o1, .int .i64 o2, .int .i64 o3, .int .i64 o4, .int .i64 o5, .int .i64 o6, .int .i64 o7]) (.agg #[.int .i64 o1, .int .i64 o2, .int .i64 o3, .int .i64 o4, .int .i64 o5, .int .i64 o6, .int .i64 o7])).run Tryd.prog w = .ok true w := by
  have u3 := Tryd.underlying3
  have a3 := Tryd.isAgg3
  have z3 := Tryd.sizeOf3
  have a4 := Tryd.isAgg24
  have z4 := Tryd.sizeOf24
  have hS : Tryd.prog.underlying 26 = some (.struct (Tryd.prog.fieldsOf 26)) := by kernel_rfl
  have hp : Tryd.prog.stoodInHeld 26 = false := by kernel_rfl
  have hS2 : Tryd.prog.underlying 24 = some (.struct (Tryd.prog.fieldsOf 24)) := by kernel_rfl
  have hp2 : Tryd.prog.stoodInHeld 24 = false := by kernel_rfl
  have hst : ∀ w, (Op.equalIn (n + 2) 24 (.agg #[.int .i64 o1, .int .i64 o2]) (.agg #[.int .i64 o1, .int .i64 o2])).run Tryd.prog w = .ok true w := by
    intro w
    rw [run_equalIn_agg w (n + 1) 24 _ _ hS2 hp2]
    simp only [Program.fieldsOf, Tryd.underlying24]
    go_simp
  rw [run_equalIn_agg w (n + 2) 26 _ _ hS hp]
  simp only [Program.fieldsOf, Tryd.underlying26]
  go_simp

theorem eqin_pl (n : Nat) (o1 o2 o3 : Int) (w : World) :
    (Op.equalIn (n + 2) 106 (.agg #[.int .i64 o1, .int .i64 o2, .int .i64 o3]) (.agg #[.int .i64 o1, .int .i64 o2, .int .i64 o3])).run Tryd.prog w = .ok true w := by
  have u3 := Tryd.underlying3
  have a3 := Tryd.isAgg3
  have z3 := Tryd.sizeOf3
  have hS : Tryd.prog.underlying 106 = some (.struct (Tryd.prog.fieldsOf 106)) := by kernel_rfl
  have hp : Tryd.prog.stoodInHeld 106 = false := by kernel_rfl
  rw [run_equalIn_agg w (n + 1) 106 _ _ hS hp]
  simp only [Program.fieldsOf, Tryd.underlying106]
  go_simp

theorem run_neq_op (o : Mv) (w : World) : (binOp .neq 26 (opV o) (opV o)).run Tryd.prog w = .ok (.bool false) w := by
  have e1 := eqin_op 9997 o.1 o.2.1 o.2.2.1.1 o.2.2.1.2.1 o.2.2.1.2.2 o.2.2.2.1 o.2.2.2.2 w
  rw [run_neq_struct, show (10000 : Nat) = 9997 + 3 from rfl, e1]
  rfl

theorem guard_op (op : BinOp) (x y : Operand) (xs ys : Array Value) (w : World) : (eqGuard op 26 x y (.agg xs) (.agg ys)).run Tryd.prog w = .ok () w :=
  run_eqGuard_agg w op 26 x y xs ys (by kernel_rfl)
end Go.Proofs.YtmlodnamknielacDoor

/- Stamps, operations and steps held against each other, whatever they are. -/
namespace Go.Proofs.YtmlodnamknielacDoor
open Go.ChangeShapes Go.WideShapes Go.ChangeAt Go.RowKit
open Orangery (Pl Mv Stp)

theorem eqg_stamp (n : Nat) (a b c d : Int) (w : World) :
    (Op.equalIn (n + 2) 24 (.agg #[.int .i64 a, .int .i64 b]) (.agg #[.int .i64 c, .int .i64 d])).run Tryd.prog w = .ok (decide (a = c ∧ b = d)) w := by
  have u3 := Tryd.underlying3
  have a3 := Tryd.isAgg3
  have z3 := Tryd.sizeOf3
  have hS2 : Tryd.prog.underlying 24 = some (.struct (Tryd.prog.fieldsOf 24)) := by kernel_rfl
  have hp2 : Tryd.prog.stoodInHeld 24 = false := by kernel_rfl
  rw [run_equalIn_agg w (n + 1) 24 _ _ hS2 hp2]
  simp only [Program.fieldsOf, Tryd.underlying24]
  go_simp
  by_cases h1 : a = c <;> by_cases h2 : b = d <;> simp [h1, h2]

theorem eqg_pl (n : Nat) (a b c x y z : Int) (w : World) :
    (Op.equalIn (n + 2) 106 (.agg #[.int .i64 a, .int .i64 b, .int .i64 c]) (.agg #[.int .i64 x, .int .i64 y, .int .i64 z])).run Tryd.prog w = .ok (decide (a = x ∧ b = y ∧ c = z)) w := by
  have u3 := Tryd.underlying3
  have a3 := Tryd.isAgg3
  have z3 := Tryd.sizeOf3
  have hS : Tryd.prog.underlying 106 = some (.struct (Tryd.prog.fieldsOf 106)) := by kernel_rfl
  have hp : Tryd.prog.stoodInHeld 106 = false := by kernel_rfl
  rw [run_equalIn_agg w (n + 1) 106 _ _ hS hp]
  simp only [Program.fieldsOf, Tryd.underlying106]
  go_simp
  by_cases h1 : a = x <;> by_cases h2 : b = y <;> by_cases h3 : c = z <;> simp [h1, h2, h3]

theorem eqg_op (n : Nat) (o p : Mv) (w : World) :
    (Op.equalIn (n + 3) 26 (opV o) (opV p)).run Tryd.prog w = .ok (decide (o = p)) w := by
  obtain ⟨o1, o2, ⟨o3, o4, o5⟩, o6, o7⟩ := o
  obtain ⟨p1, p2, ⟨p3, p4, p5⟩, p6, p7⟩ := p
  have u3 := Tryd.underlying3
  have a3 := Tryd.isAgg3
  have z3 := Tryd.sizeOf3
  have a4 := Tryd.isAgg24
  have z4 := Tryd.sizeOf24
  have hS : Tryd.prog.underlying 26 = some (.struct (Tryd.prog.fieldsOf 26)) := by kernel_rfl
  have hp : Tryd.prog.stoodInHeld 26 = false := by kernel_rfl
  have hst := eqg_stamp n o1 o2 p1 p2
  rw [run_equalIn_agg w (n + 2) 26 _ _ hS hp]
  simp only [Program.fieldsOf, Tryd.underlying26]
  go_simp
  by_cases h1 : o1 = p1
  case neg => simp [h1]
  by_cases h2 : o2 = p2
  case neg => simp [h1, h2]
  by_cases h3 : o3 = p3
  case neg => simp [h1, h2, h3]
  by_cases h4 : o4 = p4
  case neg => simp [h1, h2, h3, h4]
  by_cases h5 : o5 = p5
  case neg => simp [h1, h2, h3, h4, h5]
  by_cases h6 : o6 = p6
  case neg => simp [h1, h2, h3, h4, h5, h6]
  by_cases h7 : o7 = p7
  case neg => simp [h1, h2, h3, h4, h5, h6, h7]
  simp [h1, h2, h3, h4, h5, h6, h7]

theorem run_neq_opg (o p : Mv) (w : World) : (binOp .neq 26 (opV o) (opV p)).run Tryd.prog w = .ok (.bool (!decide (o = p))) w := by
  have e1 := eqg_op 9997 o p w
  rw [run_neq_struct, show (10000 : Nat) = 9997 + 3 from rfl, e1]
  rfl
theorem run_eql_opg (o p : Mv) (w : World) : (binOp .eql 26 (opV o) (opV p)).run Tryd.prog w = .ok (.bool (decide (o = p))) w := by
  have e1 := eqg_op 9997 o p w
  rw [run_eql_struct, show (10000 : Nat) = 9997 + 3 from rfl, e1]
  rfl
theorem run_eql_stamp (a b c d : Int) (w : World) : (binOp .eql 24 (.agg #[.int .i64 a, .int .i64 b]) (.agg #[.int .i64 c, .int .i64 d])).run Tryd.prog w = .ok (.bool (decide (a = c ∧ b = d))) w := by
  have e1 := eqg_stamp 9998 a b c d w
  rw [run_eql_struct, show (10000 : Nat) = 9998 + 2 from rfl, e1]
  rfl
theorem guard_stamp (op : BinOp) (x y : Operand) (xs ys : Array Value) (w : World) : (eqGuard op 24 x y (.agg xs) (.agg ys)).run Tryd.prog w = .ok () w :=
  run_eqGuard_agg w op 24 x y xs ys (by kernel_rfl)

end Go.Proofs.YtmlodnamknielacDoor

/- note.Check, orangeryref.CheckRec. -/
namespace Go.Proofs.YtmlodnamknielacDoor
open Go.ChangeShapes Go.WideShapes Go.ChangeAt Go.RowKit
open Orangery (Pl Mv Rc noOp checkRec checkOp rootsOk)

/-- the value of a record -/
abbrev rcV (k u f : Int) (r : Value) (o : Mv) : Value := .agg #[.int .i64 k, .int .i64 u, .int .i64 f, r, .int .i64 o.1, .int .i64 o.2.1, .int .i64 o.2.2.1.1, .int .i64 o.2.2.1.2.1, .int .i64 o.2.2.1.2.2, .int .i64 o.2.2.2.1, .int .i64 o.2.2.2.2]

def opRecE (u f : Int) (R : List Int) (o : Mv) : Int := if u ≠ 0 ∨ f ≠ 0 ∨ R ≠ [] then 4 else checkOp o
theorem opRecE_bad {u f : Int} {R : List Int} {o : Mv} (h : u ≠ 0 ∨ f ≠ 0 ∨ R ≠ []) : opRecE u f R o = 4 := if_pos h
theorem opRecE_ok {o : Mv} : opRecE 0 0 [] o = checkOp o := rfl

set_option maxHeartbeats 1000000 in
theorem ncheckOp_any (w : World) (k u f : Int) (a : Option Addr) (c : Nat) (R : List Int) (o : Mv) :
    Calls Tryd.prog 35 #[rcV k u f (.slice a R.length c) o] w fun e w' => e = .returned (.int .i64 (opRecE u f R o)) ∧ Below w.heap.size w w' := by
  by_cases hu : u = 0
  case neg =>
    have HE : Hid (opRecE u f R o = 4) := opRecE_bad (Or.inl hu)
    have d1 : (u != 0) = true := by simpa using hu
    go_enter Tryd.func35, Tryd.ntmps35
    go_wp2
    go_ret
    exact ⟨ret_int HE.out.symm, Go.Joins.below_alloc1 w _⟩
  by_cases hf : f = 0
  case neg =>
    have HE : Hid (opRecE u f R o = 4) := opRecE_bad (Or.inr (Or.inl hf))
    have d1 : (u != 0) = false := by simpa using hu
    have d2 : (f != 0) = true := by simpa using hf
    clear hu
    go_enter Tryd.func35, Tryd.ntmps35
    go_wp2
    go_ret
    exact ⟨ret_int HE.out.symm, Go.Joins.below_alloc1 w _⟩
  by_cases hr : R = []
  case neg =>
    have HE : Hid (opRecE u f R o = 4) := opRecE_bad (Or.inr (Or.inr hr))
    have d1 : (u != 0) = false := by simpa using hu
    have d2 : (f != 0) = false := by simpa using hf
    have d3 : 0 < R.length := List.length_pos_iff.2 hr
    have d4 : decide ((R.length : Int) > 0) = true := by simp; omega
    clear hu hf hr
    go_enter Tryd.func35, Tryd.ntmps35
    go_wp2
    go_ret
    exact ⟨ret_int HE.out.symm, Go.Joins.below_alloc1 w _⟩
  subst hu hf hr
  obtain ⟨o1, o2, ⟨o3, o4, o5⟩, o6, o7⟩ := o
  go_enter Tryd.func35, Tryd.ntmps35
  go_wp2_with fail
  refine (moveCheck_any _ (o1, o2, (o3, o4, o5), o6, o7)).mono ?_
  rintro e w1 ⟨rfl, hb⟩
  have hb1 : Below w.heap.size w w1 := (Go.Joins.below_alloc1 w _).trans (hb.mono (by simp))
  clear hb
  go_wp2
  go_ret
  exact ⟨rfl, hb1⟩

def cliE (k u f : Int) (R : List Int) (o : Mv) : Int :=
  if o ≠ noOp ∨ (k ≠ 2 ∧ f ≠ 0) ∨ (k = 2 ∧ R ≠ []) then 4 else if ¬ (0 ≤ u ∧ u ≤ 2) ∨ (k = 2 ∧ ¬ (1 ≤ f ∧ f ≤ 50)) then 3 else rootsOk R
theorem cliE_form {k u f : Int} {R : List Int} {o : Mv} (h : o ≠ noOp ∨ (k ≠ 2 ∧ f ≠ 0) ∨ (k = 2 ∧ R ≠ [])) : cliE k u f R o = 4 := if_pos h
theorem cliE_range {k u f : Int} {R : List Int} {o : Mv} (h : ¬ (o ≠ noOp ∨ (k ≠ 2 ∧ f ≠ 0) ∨ (k = 2 ∧ R ≠ []))) (h2 : ¬ (0 ≤ u ∧ u ≤ 2) ∨ (k = 2 ∧ ¬ (1 ≤ f ∧ f ≤ 50))) : cliE k u f R o = 3 := by
  unfold cliE; rw [if_neg h, if_pos h2]
theorem cliE_ok {k u f : Int} {R : List Int} {o : Mv} (h : ¬ (o ≠ noOp ∨ (k ≠ 2 ∧ f ≠ 0) ∨ (k = 2 ∧ R ≠ []))) (h2 : ¬ (¬ (0 ≤ u ∧ u ≤ 2) ∨ (k = 2 ∧ ¬ (1 ≤ f ∧ f ≤ 50)))) : cliE k u f R o = rootsOk R := by
  unfold cliE; rw [if_neg h, if_neg h2]

set_option maxHeartbeats 2000000 in
theorem ncheckOfClient_any (w : World) (k u f : Int) (a : Option Addr) (c : Nat) (R : List Int) (o : Mv) (hl : R.length ≤ maxLen) (h : SlI w a R) :
    Calls Tryd.prog 36 #[rcV k u f (.slice a R.length c) o] w fun e w' => e = .returned (.int .i64 (cliE k u f R o)) ∧ Below w.heap.size w w' := by
  have hne : ∀ w, (binOp .neq 26 (opV o) (.agg #[.int .i64 0, .int .i64 0, .int .i64 0, .int .i64 0, .int .i64 0, .int .i64 0, .int .i64 0])).run Tryd.prog w = .ok (.bool (!decide (o = noOp))) w := run_neq_opg o noOp
  have hgd := guard_op
  by_cases ho : o = noOp
  case neg =>
    have HE : Hid (cliE k u f R o = 4) := cliE_form (Or.inl ho)
    have d0 : decide (o = noOp) = false := by simpa using ho
    clear ho
    go_enter Tryd.func36, Tryd.ntmps36
    go_wp2
    go_ret
    exact ⟨ret_int HE.out.symm, Go.Joins.below_alloc1 w _⟩
  have d0 : decide (o = noOp) = true := by simpa using ho
  have HO : Hid (o = noOp) := ho
  clear ho
  by_cases hk : k = 2
  · have e1 : (k == 2) = true := by simpa using hk
    have HK : Hid (k = 2) := hk
    clear hk
    by_cases hr : R = []
    case neg =>
      have HE : Hid (cliE k u f R o = 4) := cliE_form (Or.inr (Or.inr ⟨HK.out, hr⟩))
      have d3 : 0 < R.length := List.length_pos_iff.2 hr
      have d4 : decide ((R.length : Int) > 0) = true := by simp; omega
      clear hr
      go_enter Tryd.func36, Tryd.ntmps36
      go_wp2
      go_ret
      exact ⟨ret_int HE.out.symm, Go.Joins.below_alloc1 w _⟩
    have HF : Hid (¬ (o ≠ noOp ∨ (k ≠ 2 ∧ f ≠ 0) ∨ (k = 2 ∧ R ≠ []))) := by
      show ¬ _
      have h1 := HO.out; have h2 := HK.out
      simp [h1, h2, hr]
    subst hr
    by_cases h0 : u < 0
    · have HE : Hid (cliE k u f [] o = 3) := cliE_range HF.out (Or.inl (by omega))
      go_enter Tryd.func36, Tryd.ntmps36
      go_wp2
      go_ret
      exact ⟨ret_int HE.out.symm, Go.Joins.below_alloc1 w _⟩
    by_cases h3 : 3 ≤ u
    · have HE : Hid (cliE k u f [] o = 3) := cliE_range HF.out (Or.inl (by omega))
      go_enter Tryd.func36, Tryd.ntmps36
      go_wp2
      go_ret
      exact ⟨ret_int HE.out.symm, Go.Joins.below_alloc1 w _⟩
    by_cases h4 : f < 1
    · have HE : Hid (cliE k u f [] o = 3) := cliE_range HF.out (Or.inr ⟨HK.out, by omega⟩)
      go_enter Tryd.func36, Tryd.ntmps36
      go_wp2
      go_ret
      exact ⟨ret_int HE.out.symm, Go.Joins.below_alloc1 w _⟩
    by_cases h5 : 50 < f
    · have HE : Hid (cliE k u f [] o = 3) := cliE_range HF.out (Or.inr ⟨HK.out, by omega⟩)
      go_enter Tryd.func36, Tryd.ntmps36
      go_wp2
      go_ret
      exact ⟨ret_int HE.out.symm, Go.Joins.below_alloc1 w _⟩
    have HE : Hid (cliE k u f [] o = rootsOk []) := cliE_ok HF.out (by omega)
    go_enter Tryd.func36, Tryd.ntmps36
    go_wp2_with fail
    refine (vroots_any _ a c [] (by simp) SlI.nil).mono ?_
    rintro e w1 ⟨rfl, rfl⟩
    go_wp2
    go_ret
    exact ⟨ret_int HE.out.symm, Go.Joins.below_alloc1 w _⟩
  · have e1 : (k == 2) = false := by simpa using hk
    have HK : Hid (k ≠ 2) := hk
    clear hk
    by_cases hf : f = 0
    case neg =>
      have HE : Hid (cliE k u f R o = 4) := cliE_form (Or.inr (Or.inl ⟨HK.out, hf⟩))
      have d3 : (f != 0) = true := by simpa using hf
      go_enter Tryd.func36, Tryd.ntmps36
      go_wp2
      go_ret
      exact ⟨ret_int HE.out.symm, Go.Joins.below_alloc1 w _⟩
    have HF : Hid (¬ (o ≠ noOp ∨ (k ≠ 2 ∧ f ≠ 0) ∨ (k = 2 ∧ R ≠ []))) := by
      show ¬ _
      have h1 := HO.out; have h2 := HK.out
      simp [h1, h2, hf]
    subst hf
    by_cases h0 : u < 0
    · have HE : Hid (cliE k u 0 R o = 3) := cliE_range HF.out (Or.inl (by omega))
      go_enter Tryd.func36, Tryd.ntmps36
      go_wp2
      go_ret
      exact ⟨ret_int HE.out.symm, Go.Joins.below_alloc1 w _⟩
    by_cases h3 : 3 ≤ u
    · have HE : Hid (cliE k u 0 R o = 3) := cliE_range HF.out (Or.inl (by omega))
      go_enter Tryd.func36, Tryd.ntmps36
      go_wp2
      go_ret
      exact ⟨ret_int HE.out.symm, Go.Joins.below_alloc1 w _⟩
    have HE : Hid (cliE k u 0 R o = rootsOk R) := cliE_ok HF.out (by have := HK.out; omega)
    go_enter Tryd.func36, Tryd.ntmps36
    go_wp2_with fail
    refine (vroots_any _ a c R hl (h.below (Go.Joins.below_alloc1 w _))).mono ?_
    rintro e w1 ⟨rfl, rfl⟩
    go_wp2
    go_ret
    exact ⟨ret_int HE.out.symm, Go.Joins.below_alloc1 w _⟩
end Go.Proofs.YtmlodnamknielacDoor

